/- Contracts: answers that hold bytes: compared, marked, looked at again. -/
import Derived.Test.YthgoclbgepfjmaaPackImpl
import Derived.Test.YthgoclbgepfjmaaBPairOf
namespace Go.Proofs.Ythgoclbgepfjmaa
open Go.RowKit

def symL (s : ByteArray) (x : Int) : List Int := [(s.size : Int)] ++ s.data.toList.map (fun b => (b.toNat : Int)) ++ [x]
def packL (N : Nat → ByteArray) (A : Nat → Int) (n : Nat) : Nat → List Int
  | 0 => [(n : Int)]
  | k + 1 => packL N A n k ++ symL (N k) (A k)

theorem packV_map (N : Nat → ByteArray) (A : Nat → Int) (n : Nat) : ∀ k, packV N A n k = (packL N A n k).map (Value.int .u8)
  | 0 => rfl
  | k + 1 => by
    simp only [packV, packL, packV_map N A n k, symV, symL, List.map_append, Lib.strCells, List.map_map]
    rfl

theorem packL_byt {N : Nat → ByteArray} {A : Nat → Int} {n : Nat} (h : Right n N A) : ∀ k, k ≤ n → ∀ x ∈ packL N A n k, 0 ≤ x ∧ x ≤ 255
  | 0, _, x, hx => by have := h.most; simp [packL] at hx; omega
  | k + 1, hk, x, hx => by
    simp only [packL, List.mem_append] at hx
    rcases hx with hx | hx
    · exact packL_byt h k (by omega) x hx
    · have h1 := (h.name k (by omega)).2.1
      have h2 := h.arity k (by omega)
      simp only [symL, List.mem_append, List.mem_singleton, List.mem_map] at hx
      rcases hx with (hx | ⟨b, _, hx⟩) | hx
      · omega
      · have := b.toNat_lt; omega
      · omega

theorem byt_getD {l : List Int} (h : ∀ x ∈ l, 0 ≤ x ∧ x ≤ 255) (i : Nat) : 0 ≤ l.getD i 0 ∧ l.getD i 0 ≤ 255 := by
  rw [List.getD_eq_getElem?_getD]
  cases hx : l[i]? with
  | none => simp
  | some v => simp; exact h v (List.mem_of_getElem? hx)

/-- A row of bytes in memory of its own. -/
def OwnR (w : World) (B g n d : Nat) (xs : List Value) : Prop := w.ownsRow B 5 1 (.slice (some ⟨g, 0, none⟩) n d) n xs

theorem OwnR.lt {w : World} {B g n d : Nat} {xs : List Value} (h : OwnR w B g n d xs) : g < w.heap.size := (World.ownsRow.lt h g rfl).2
theorem OwnR.keep {w w' : World} {B g n d : Nat} {xs : List Value} (h : OwnR w B g n d xs) (hb : Below w.heap.size w w') : OwnR w' B g n d xs := ownsRow_later h hb h.lt
theorem OwnR.grown {w w' : World} {B g n d g' : Nat} {xs : List Value} (h : OwnR w B g n d xs) (hg : w.grownBy w' (some g')) (hne : g ≠ g') : OwnR w' B g n d xs := by
  have hl := h.lt
  refine ⟨h.1, h.2.imp id ?_⟩
  rintro ⟨g1, cap, cur, h1, h2, h3, h4⟩
  have e : g1 = g := by simp at h1; exact h1.1.symm
  subst e
  exact ⟨g1, cap, cur, h1, h2, by rw [hg.block g1 hl (by simpa using hne)]; exact h3, h4⟩

theorem OwnB.ownR {w : World} {B g d : Nat} {xs : List Value} (h : OwnB w B g d xs) : OwnR w B g xs.length d xs := h.own

theorem OwnR.row {w : World} {B g n d : Nat} {l : List Int} (h : OwnR w B g n d (l.map (Value.int .u8))) (hm : n ≤ 1048576) (hb : ∀ x ∈ l, 0 ≤ x ∧ x ≤ 255) : Byt.Row w g 0 n l := Byt.ownRow h (by omega) (byt_getD hb)

end Go.Proofs.Ythgoclbgepfjmaa
