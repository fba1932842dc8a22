/- Contracts: pieces of bytes put one behind the other: the program's joinBytes. -/
import Derived.Test.YtcnkkoegfjggaaaPkT
import Derived.Laws.CopyOwn
namespace Go.Proofs.Ytcnkkoegfjggaaa
open Go.RowKit

/-- The first k pieces, one behind the other. -/
def joinTo (X : Nat → List Int) : Nat → List Int
  | 0 => []
  | k + 1 => joinTo X k ++ X k

theorem joinTo_le (X : Nat → List Int) {k : Nat} : ∀ n, k ≤ n → (joinTo X k).length ≤ (joinTo X n).length
  | 0, h => by obtain rfl : k = 0 := by omega
               exact Nat.le_refl _
  | n + 1, h => by
    by_cases e : k = n + 1
    · rw [e]; exact Nat.le_refl _
    · have := joinTo_le X n (show k ≤ n by omega)
      simp only [joinTo, List.length_append]; omega

/-- Pieces of bytes in memory. -/
structure Pieces (w : World) (b off n : Nat) (G D : Nat → Nat) (X : Nat → List Int) : Prop where
  blk : 0 < n → b < w.heap.size
  cell : ∀ i, i < n → w.cell? ⟨b, off + i, none⟩ = some (.slice (some ⟨G i, 0, none⟩) (X i).length (D i))
  lt : ∀ i, i < n → G i < w.heap.size
  has : ∀ i, i < n → ∀ j, j < (X i).length → w.cell? ⟨G i, j, none⟩ = some (.int .u8 ((X i).getD j 0))
  pos : ∀ i, i < n → 0 < (X i).length

theorem Pieces.keep {w w' : World} {b off n : Nat} {G D : Nat → Nat} {X : Nat → List Int} (h : Pieces w b off n G D X) (hb : Below w.heap.size w w') : Pieces w' b off n G D X :=
  ⟨fun h0 => Nat.lt_of_lt_of_le (h.blk h0) hb.size, fun i hi => by rw [hb.cell (p := ⟨b, off + i, none⟩) (h.blk (by omega))]; exact h.cell i hi,
   fun i hi => Nat.lt_of_lt_of_le (h.lt i hi) hb.size, fun i hi j hj => by rw [hb.cell (p := ⟨G i, j, none⟩) (h.lt i hi)]; exact h.has i hi j hj, h.pos⟩

/-- What lies there when k pieces are copied. -/
def laidV (X : Nat → List Int) (L k : Nat) : List Value := (joinTo X k).map (Value.int .u8) ++ List.replicate (L - (joinTo X k).length) (Value.int .u8 0)

theorem laidV_len (X : Nat → List Int) (L k : Nat) (h : (joinTo X k).length ≤ L) : (laidV X L k).length = L := by simp [laidV]; omega

theorem laidV_step (X : Nat → List Int) (L k : Nat) (h : (joinTo X (k + 1)).length ≤ L) : splice (laidV X L k) (joinTo X k).length ((X k).map (Value.int .u8)) = laidV X L (k + 1) := by
  have h1 : (joinTo X (k + 1)).length = (joinTo X k).length + (X k).length := by simp [joinTo]
  unfold splice laidV
  rw [List.take_left' (by simp), List.drop_append, List.drop_eq_nil_of_le (by simp)]
  simp only [List.length_map, List.nil_append, List.drop_replicate, joinTo, List.map_append, List.append_assoc, List.length_append]
  congr 3
  omega

theorem piece_src {w : World} {g : Nat} {l : List Int} (h : ∀ j, j < l.length → w.cell? ⟨g, j, none⟩ = some (.int .u8 (l.getD j 0))) : ∀ j v, (l.map (Value.int .u8))[j]? = some v → w.cell? ((⟨g, 0, none⟩ : Addr).add j) = some v := by
  intro j v hj
  have hl : j < l.length := by
    by_cases hl : j < l.length
    · exact hl
    · rw [List.getElem?_eq_none (by simp; omega)] at hj; cases hj
  have ha : (⟨g, 0, none⟩ : Addr).add j = ⟨g, j, none⟩ := by
    by_cases h0 : j = 0 <;> simp [Addr.add, h0]
  rw [ha, h j hl, ← hj, List.getElem?_map, List.getElem?_eq_getElem hl]
  simp [List.getD_eq_getElem?_getD, List.getElem?_eq_getElem hl]

end Go.Proofs.Ytcnkkoegfjggaaa
