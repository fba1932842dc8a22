/- Contracts: whether a term has no variable, as the model and as the program asks it. -/
import Derived.Test.YtenlogljpgdbpaaTermF
namespace Go.Proofs.Ytenlogljpgdbpaa
open Go.RowKit

open Classical in
noncomputable def gndB (m : Nat) (T : Nat → Int) : Bool := decide (∀ i, i < m → 0 ≤ T i)
open Classical in
noncomputable def hasVar (m : Nat) (T : Nat → Int) : Bool := decide (∃ i, i < m ∧ varB (T i) = true)

open Classical in
/-- What IsGround answers. -/
noncomputable def grB (n : Nat) (N : Nat → ByteArray) (A : Nat → Int) (m : Nat) (T : Nat → Int) : Bool := decide (termF n N A m T = 0 ∧ ∀ i, i < m → 0 ≤ T i)

theorem gr_fault {n : Nat} {N : Nat → ByteArray} {A : Nat → Int} {m : Nat} {T : Nat → Int} (h : termF n N A m T ≠ 0) : grB n N A m T = false := by simp [grB, h]
theorem gr_gnd {n : Nat} {N : Nat → ByteArray} {A : Nat → Int} {m : Nat} {T : Nat → Int} (h : termF n N A m T = 0) : grB n N A m T = gndB m T := by simp [grB, gndB, h]
theorem gr_var {n : Nat} {N : Nat → ByteArray} {A : Nat → Int} {m : Nat} {T : Nat → Int} (h : termF n N A m T = 0) : grB n N A m T = !hasVar m T := by
  have hN := (term_right h).nods
  rw [gr_gnd h]
  cases e : hasVar m T with
  | true =>
    simp only [hasVar, decide_eq_true_eq] at e
    obtain ⟨i, hi, hv⟩ := e
    simp only [varB, decide_eq_true_eq] at hv
    simp only [gndB, Bool.not_true, decide_eq_false_iff_not]
    intro h; have := h i hi; omega
  | false =>
    simp only [hasVar, decide_eq_false_iff_not] at e
    simp only [gndB, Bool.not_false, decide_eq_true_eq]
    intro i hi
    rcases nodeB_cases (hN.node i hi) with ⟨j, ej, _⟩ | hv
    · omega
    · exact absurd ⟨i, hi, by simp only [varB, decide_eq_true_eq]; exact hv⟩ e

end Go.Proofs.Ytenlogljpgdbpaa
