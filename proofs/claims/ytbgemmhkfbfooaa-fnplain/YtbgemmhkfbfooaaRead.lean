/- Contracts: a signature at the beginning of bytes, as the model reads it. -/
import Derived.Test.YtbgemmhkfbfooaaCutOne
import Derived.Deep.RegionHeld3
import Derived.Deep.RegionLaw
import Derived.Deep.AppendLies
namespace Go.Proofs.Ytbgemmhkfbfooaa
open Go.RowKit

def noRead : Value := .tuple #[.agg #[.slice none 0 0], .int .i64 0]

/-- What is known while symbols are cut. -/
structure ReadInv (w wr : World) (l : List Int) (k : Nat) (v : Value) : Prop where
  bel : Below w.heap.size w wr
  sz : w.heap.size + 3 ≤ wr.heap.size
  r0 : wr.cell? ⟨w.heap.size, 0, none⟩ = some (.slice none 0 0)
  rf : wr.frozen? ⟨w.heap.size, 0, none⟩ = false
  s0 : wr.cell? ⟨w.heap.size + 2, 0, none⟩ = some v
  sf : wr.frozen? ⟨w.heap.size + 2, 0, none⟩ = false
  n0 : wr.cell? ⟨w.heap.size + 1, 0, none⟩ = some (.slice none 0 0)
  row : SymRow wr (w.heap.size + 3) v k (nmOf l) (arOf l)

theorem ReadInv.keep {w wr w' : World} {l : List Int} {k : Nat} {v : Value} (h : ReadInv w wr l k v) (hb : Below wr.heap.size wr w') : ReadInv w w' l k v := by
  have hs := h.sz
  obtain ⟨xs, ho, hx⟩ := h.row
  exact ⟨keepB h.bel hb, Nat.le_trans h.sz hb.size, by rw [hb.cell (p := ⟨w.heap.size, 0, none⟩) (by show w.heap.size < _; omega)]; exact h.r0, by rw [hb.frozen (p := ⟨w.heap.size, 0, none⟩) (by show w.heap.size < _; omega)]; exact h.rf,
    by rw [hb.cell (p := ⟨w.heap.size + 2, 0, none⟩) (by show w.heap.size + 2 < _; omega)]; exact h.s0, by rw [hb.frozen (p := ⟨w.heap.size + 2, 0, none⟩) (by show w.heap.size + 2 < _; omega)]; exact h.sf, by rw [hb.cell (p := ⟨w.heap.size + 1, 0, none⟩) (by show w.heap.size + 1 < _; omega)]; exact h.n0, xs, own_keep ho hb, hx⟩

theorem ReadInv.new (w : World) (l : List Int) : ReadInv w (((w.alloc (.cells #[.slice none 0 0] 26)).alloc (.cells #[.slice none 0 0] 26)).alloc (.cells #[.slice none 0 0] 26)) l 0 (.slice none 0 0) := by
  refine ⟨keepB (keepB (alloc_below w _) (alloc_below _ _)) (alloc_below _ _), by simp, ?_, ?_, ?_, ?_, ?_, [], ⟨rfl, Or.inl ⟨rfl, rfl⟩⟩, fun i hi => by omega⟩ <;> simp [go_sem]

theorem ReadInv.next {w wa w2 : World} {l : List Int} {k : Nat} {v v' : Value} {xs : List Value} {nm : ByteArray} {ar : Int} (h : ReadInv w wa l k v) (ho : wa.ownsRow (w.heap.size + 3) 70 2 v k xs) (hx : ∀ i, i < k → xs[i * 2]? = some (.string (nmOf l i)) ∧ xs[i * 2 + 1]? = some (.int .i64 (arOf l i)))
    (hg : wa.grownBy w2 v.ownBlock) (hown : w2.ownsRow (w.heap.size + 3) 70 2 v' (k + 1) (xs ++ [.string nm, .int .i64 ar])) (hn : nmOf l k = nm) (ha : arOf l k = ar) :
    w2.cell? ⟨w.heap.size + 2, 0, none⟩ = some v ∧ w2.frozen? ⟨w.heap.size + 2, 0, none⟩ = false ∧ ReadInv w (w2.setCell ⟨w.heap.size + 2, 0, none⟩ v') l (k + 1) v' := by
  have hs := h.sz
  have hblk := own_block ho
  have k0 := hg.block w.heap.size (by omega) (fun e => by have := hblk _ e.symm; omega)
  have k2 := hg.block (w.heap.size + 1) (by omega) (fun e => by have := hblk _ e.symm; omega)
  have k1 := hg.block (w.heap.size + 2) (by omega) (fun e => by have := hblk _ e.symm; omega)
  have a0 : w2.cell? ⟨w.heap.size, 0, none⟩ = some (.slice none 0 0) := (World.cell?_of_block (w := wa) (show w2.heap[(⟨w.heap.size, 0, none⟩ : Addr).block]? = wa.heap[(⟨w.heap.size, 0, none⟩ : Addr).block]? from k0)).trans h.r0
  have a1 : w2.frozen? ⟨w.heap.size, 0, none⟩ = false := (World.frozen?_of_block (w := wa) (show w2.heap[(⟨w.heap.size, 0, none⟩ : Addr).block]? = wa.heap[(⟨w.heap.size, 0, none⟩ : Addr).block]? from k0)).trans h.rf
  have b0 : w2.cell? ⟨w.heap.size + 2, 0, none⟩ = some v := (World.cell?_of_block (w := wa) (show w2.heap[(⟨w.heap.size + 2, 0, none⟩ : Addr).block]? = wa.heap[(⟨w.heap.size + 2, 0, none⟩ : Addr).block]? from k1)).trans h.s0
  have b1 : w2.frozen? ⟨w.heap.size + 2, 0, none⟩ = false := (World.frozen?_of_block (w := wa) (show w2.heap[(⟨w.heap.size + 2, 0, none⟩ : Addr).block]? = wa.heap[(⟨w.heap.size + 2, 0, none⟩ : Addr).block]? from k1)).trans h.sf
  have hl : xs.length = k * 2 := ho.1
  have n1 : w2.cell? ⟨w.heap.size + 1, 0, none⟩ = some (.slice none 0 0) := (World.cell?_of_block (w := wa) (show w2.heap[(⟨w.heap.size + 1, 0, none⟩ : Addr).block]? = wa.heap[(⟨w.heap.size + 1, 0, none⟩ : Addr).block]? from k2)).trans h.n0
  refine ⟨b0, b1, (h.bel.grown hg h.bel.size (fun r hr => by have := hblk r hr; omega)).setCell (by simp) _, by have := hg.size; simp; omega, ?_, by simpa using a1, World.cell?_setCell_same _ _ _ b0, by simpa using b1, ?_, _, own_other hown _ _ (by simp), fun i hi => ?_⟩
  · rw [World.cell?_setCell_other _ _ _ _ (by intro e; injection e with e1; omega)]; exact a0
  · rw [World.cell?_setCell_other _ _ _ _ (by intro e; injection e with e1; omega)]; exact n1
  · by_cases e : i = k
    · subst e
      constructor
      · rw [List.getElem?_append_right (by omega), hl, Nat.sub_self, hn]; rfl
      · rw [List.getElem?_append_right (by omega), hl, show i * 2 + 1 - i * 2 = 1 by omega, ha]; rfl
    · rw [List.getElem?_append_left (by omega), List.getElem?_append_left (by omega)]
      exact hx i (by omega)

/-- The bytes begin with a right signature. -/
def good (l : List Int) (q : Nat) : Prop := q ≤ 6 ∧ fit l q ∧ faultF q (nmOf l) (arOf l) = 0

/-- What l2Read answers. -/
def ReadAns (w : World) (l : List Int) (q : Nat) (e : Ending) (w' : World) : Prop :=
  (good l q ∧ ∃ v, e = .returned (.tuple #[.agg #[v], .int .i64 (pos l q : Nat)]) ∧ SymRow w' w.heap.size v q (nmOf l) (arOf l)) ∨ (¬ good l q ∧ e = .returned noRead)

theorem kept_of {l : List Int} (hb : ∀ i, 0 ≤ l.getD i 0 ∧ l.getD i 0 ≤ 255) (k : Nat) (hk : k ≤ 1048576) : Kept k (nmOf l) (arOf l) := by
  refine ⟨hk, fun i _ => ?_, fun i _ => ?_⟩
  · have h1 : (nmOf l i).size = kk l i := by simp [nmOf, strOfNums, cutOf, ByteArray.size]
    have h2 := hb (pos l i)
    rw [h1, kk]; omega
  · have := hb (pos l i + (1 + kk l i))
    rw [arOf, drop_getD]; omega

theorem fault_seven (N : Nat → ByteArray) (A : Nat → Int) (n : Nat) (h : n < 1 ∨ 6 < n) : faultF n N A = 2 := by rw [faultF, if_pos h]

/-- The fault of what was read, whatever slice holds it. -/
theorem specFault_row (l : List Int) (hb : ∀ i, 0 ≤ l.getD i 0 ∧ l.getD i 0 ≤ 255) (B k : Nat) (v : Value) (w : World) (h : SymRow w B v k (nmOf l) (arOf l)) (hk : k ≤ 1048576) :
    Calls Try.prog 37 #[.agg #[v]] w fun e w' => e = .returned (.int .i64 (faultF k (nmOf l) (arOf l))) ∧ Below w.heap.size w w' := by
  obtain ⟨xs, ho, hx⟩ := h
  rcases ho.2 with ⟨rfl, rfl⟩ | ⟨g, d, cur, rfl, h2, h3⟩
  · exact specFault_many _ 0 0 w (by omega) _ _
  · have hK := kept_of hb k hk
    exact specFault_all g 0 k d _ _ w (OwnS.syms (B := B) (c := d) ⟨xs, ho, hx⟩ hK.big hK.fits) hK

theorem wrap_i64_small (x : Int) (h0 : 0 ≤ x) (h : x < 100000000000000) : IntKind.i64.wrap x = x := by
  have e : x % 2 ^ 64 = x := Int.emod_eq_of_lt (by omega) (by omega)
  simp only [IntKind.wrap, IntKind.bits, IntKind.signed, e]
  rw [if_neg]
  simp
  omega

end Go.Proofs.Ytbgemmhkfbfooaa
