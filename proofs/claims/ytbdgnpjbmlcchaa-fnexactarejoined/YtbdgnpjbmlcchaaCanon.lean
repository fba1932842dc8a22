/- Plain facts: the one way in which a binding tells what stands for variables: those with a term, rising. -/
import Derived.Test.YtbdgnpjbmlcchaaApply
namespace Go.Proofs.Ytbdgnpjbmlcchaa
open Go.RowKit

/-- Whether something stands for a variable. -/
def hasB (M : Nat → List Int) (v : Nat) : Bool := !(M v).isEmpty

/-- The variables below k for which something stands, rising. -/
def cnL (M : Nat → List Int) (k : Nat) : List Int := flt (hasB M) 0 k

/-- .. and their terms. -/
def cnD (M : Nat → List Int) (k : Nat) : LsL := ⟨fun i => (M ((cnL M k).getD i 0).toNat).length, fun i j => (M ((cnL M k).getD i 0).toNat).getD j 0⟩

/-- One variable more. -/
def updM (M : Nat → List Int) (v : Nat) (t : List Int) : Nat → List Int := fun x => if x = v then t else M x

theorem hasB_true {M : Nat → List Int} {v : Nat} : hasB M v = true ↔ M v ≠ [] := by
  unfold hasB; cases h : M v <;> simp

theorem cnL_step (M : Nat → List Int) (k : Nat) : cnL M (k + 1) = if hasB M k = true then cnL M k ++ [(k : Int)] else cnL M k := flt_snoc _ _

theorem cnL_len (M : Nat → List Int) (k : Nat) : (cnL M k).length ≤ k := flt_length _ _ _

theorem cnL_mem {M : Nat → List Int} {k : Nat} {x : Int} : x ∈ cnL M k ↔ ∃ v : Nat, x = v ∧ v < k ∧ M v ≠ [] := by
  unfold cnL flt
  simp only [List.mem_map, List.mem_filter, List.mem_range'_1]
  constructor
  · rintro ⟨j, ⟨⟨_, h1⟩, h2⟩, rfl⟩; exact ⟨j, rfl, by omega, hasB_true.1 h2⟩
  · rintro ⟨j, rfl, h1, h2⟩; exact ⟨j, ⟨⟨by omega, by omega⟩, hasB_true.2 h2⟩, rfl⟩

theorem cnL_upd {M : Nat → List Int} {v : Nat} {t : List Int} (hv : v < 12) (ht : t ≠ []) : cnL (updM M v t) 12 = vput (cnL M 12) v := by
  unfold cnL
  rw [vput_flt _ v 12 0 (by omega) (by omega)]
  refine flt_same 12 0 (fun x _ _ => ?_)
  by_cases e : x = v
  · subst e
    have h1 : hasB (updM M x t) x = true := hasB_true.2 (by simp only [updM, if_true]; exact ht)
    rw [h1]; simp
  · have h1 : hasB (updM M v t) x = hasB M x := by unfold hasB updM; rw [if_neg e]
    rw [h1]; simp [e]

/-- Behind a step nothing ahead has turned. -/
theorem cnD_ahead {M : Nat → List Int} {k i : Nat} (hi : i < (cnL M k).length) : (cnL M (k + 1)).getD i 0 = (cnL M k).getD i 0 := by
  rw [cnL_step]
  split
  · simp [List.getD_eq_getElem?_getD, List.getElem?_append_left hi]
  · rfl

theorem cnD_last {M : Nat → List Int} {k : Nat} (h : hasB M k = true) : (cnL M (k + 1)).getD (cnL M k).length 0 = (k : Int) := by
  rw [cnL_step, if_pos h]
  simp [List.getD_eq_getElem?_getD]

end Go.Proofs.Ytbdgnpjbmlcchaa
