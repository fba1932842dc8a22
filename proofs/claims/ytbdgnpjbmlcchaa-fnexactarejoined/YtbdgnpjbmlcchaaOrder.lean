/- The fault of a precedence: what the document asks, and that the model's OrderFault tells it. -/
import Derived.Test.YtbdgnpjbmlcchaaInts
namespace Go.Proofs.Ytbdgnpjbmlcchaa
open Go.RowKit

def dupI (m : Nat) (L : Nat → Int) : Prop := ∃ i, i < m ∧ ∃ j, j < i ∧ L i = L j
def outI (m n : Nat) (L : Nat → Int) : Prop := ∃ i, i < m ∧ inB (L i) n = false

open Classical in
/-- The fault of a precedence of a right signature. -/
noncomputable def ordF (n m : Nat) (L : Nat → Int) : Int := if m = n then (if outI m n L then 3 else if dupI m L then 6 else 0) else 2

theorem ord_many {n m : Nat} {L : Nat → Int} (h : m ≠ n) : ordF n m L = 2 := by rw [ordF, if_neg h]
theorem ord_out {n : Nat} {L : Nat → Int} (h : outI n n L) : ordF n n L = 3 := by rw [ordF, if_pos rfl, if_pos h]
theorem ord_dup {n : Nat} {L : Nat → Int} (h : ¬ outI n n L) (hd : dupI n L) : ordF n n L = 6 := by rw [ordF, if_pos rfl, if_neg h, if_pos hd]
theorem ord_ok {n : Nat} {L : Nat → Int} (h : ¬ outI n n L) (hd : ¬ dupI n L) : ordF n n L = 0 := by rw [ordF, if_pos rfl, if_neg h, if_neg hd]

/-- The fault of a precedence. -/
noncomputable def orderF (n : Nat) (N : Nat → ByteArray) (A : Nat → Int) (m : Nat) (L : Nat → Int) : Int := if faultF n N A = 0 then ordF n m L else faultF n N A

theorem order_fault {n : Nat} {N : Nat → ByteArray} {A : Nat → Int} {m : Nat} {L : Nat → Int} (h : faultF n N A ≠ 0) : orderF n N A m L = faultF n N A := by rw [orderF, if_neg h]
theorem order_right {n : Nat} {N : Nat → ByteArray} {A : Nat → Int} {m : Nat} {L : Nat → Int} (h : faultF n N A = 0) : orderF n N A m L = ordF n m L := by rw [orderF, if_pos h]

open Classical in
noncomputable def markB (k : Nat) (L : Nat → Int) (j : Nat) : Bool := decide (∃ i, i < k ∧ L i = (j : Int))
theorem markB_true {k : Nat} {L : Nat → Int} {j : Nat} (h : ∃ i, i < k ∧ L i = (j : Int)) : markB k L j = true := by simpa [markB] using h
theorem markB_false {k : Nat} {L : Nat → Int} {j : Nat} (h : ¬ ∃ i, i < k ∧ L i = (j : Int)) : markB k L j = false := by simpa [markB] using h

/-- Six cells: which numbers were named by the first k. -/
def Marks (w : World) (G k : Nat) (L : Nat → Int) : Prop := ∀ j, j < 6 → w.cell? ⟨G, j, none⟩ = some (.bool (markB k L j)) ∧ w.frozen? ⟨G, j, none⟩ = false

theorem Marks.step {w : World} {G k : Nat} {L : Nat → Int} (h : Marks w G k L) {j0 : Nat} (hj : j0 < 6) (e : L k = j0) : Marks (w.setCell ⟨G, j0, none⟩ (.bool true)) G (k + 1) L := by
  intro j hj'
  obtain ⟨c, f⟩ := h j hj'
  by_cases ej : j = j0
  · subst ej
    refine ⟨?_, ?_⟩
    · rw [World.cell?_setCell_same _ _ _ c, markB_true ⟨k, by omega, e⟩]
    · rw [World.frozen?_setCell]; exact f
  · refine ⟨?_, ?_⟩
    · rw [World.cell?_setCell_other _ _ _ _ (by intro h'; injection h' with _ h'' _; exact ej h''.symm), c]
      congr 2
      simp only [markB, decide_eq_decide]
      constructor
      · rintro ⟨i, hi, h⟩; exact ⟨i, by omega, h⟩
      · rintro ⟨i, hi, h1⟩
        refine ⟨i, ?_, h1⟩
        by_cases ei : i = k
        · subst ei; exact absurd (Int.ofNat.inj (h1.symm.trans e)) ej
        · omega
    · rw [World.frozen?_setCell]; exact f

end Go.Proofs.Ytbdgnpjbmlcchaa
