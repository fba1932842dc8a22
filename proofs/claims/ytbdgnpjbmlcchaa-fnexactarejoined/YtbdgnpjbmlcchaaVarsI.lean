/- Contracts: the variables of a term, as the program tells them: by marks. -/
import Derived.Test.YtbdgnpjbmlcchaaPut
namespace Go.Proofs.Ytbdgnpjbmlcchaa
open Go.RowKit

/-- The marks of the variables that the first k nodes are. -/
def MarksV (w : World) (b k : Nat) (T : Nat → Int) : Prop := ∀ j, j < 12 → w.cell? ⟨b, j, none⟩ = some (.bool (mkV T k j)) ∧ w.frozen? ⟨b, j, none⟩ = false

theorem MarksV.keep {w w' : World} {b k : Nat} {T : Nat → Int} (h : MarksV w b k T) (hb : Below w.heap.size w w') (hl : b < w.heap.size) : MarksV w' b k T := fun j hj => by
  rw [hb.cell (p := ⟨b, j, none⟩) hl, hb.frozen (p := ⟨b, j, none⟩) hl]; exact h j hj

theorem MarksV.step {w : World} {b k v : Nat} {T : Nat → Int} (h : MarksV w b k T) (hv : v < 12) (he : T k = -1 - (v : Int)) : MarksV (w.setCell ⟨b, v, none⟩ (.bool true)) b (k + 1) T := by
  intro j hj
  refine ⟨?_, by rw [World.frozen?_setCell]; exact (h j hj).2⟩
  by_cases e : j = v
  · subst e
    have : mkV T (k + 1) j = true := by simp [mkV, he]
    rw [this]
    exact World.cell?_setCell_same _ _ _ (h j hj).1
  · have : mkV T (k + 1) j = mkV T k j := by simp only [mkV, he]; have : decide ((-1 : Int) - v = -1 - j) = false := by simp; omega
                                             rw [this, Bool.or_false]
    rw [World.cell?_setCell_other _ _ _ _ (by simp), this]
    exact (h j hj).1

theorem MarksV.skip {w : World} {b k : Nat} {T : Nat → Int} (h : MarksV w b k T) (he : 0 ≤ T k) : MarksV w b (k + 1) T := by
  intro j hj
  have : mkV T (k + 1) j = mkV T k j := by
    simp only [mkV]
    have : decide (T k = -1 - (j : Int)) = false := by simp; omega
    rw [this, Bool.or_false]
  rw [this]; exact h j hj

set_option maxRecDepth 20000 in
set_option maxHeartbeats 400000 in
theorem variableOf_any (v : Nat) (w : World) (hv : v < 12) :
    Calls Try.prog 101 #[.int .i64 (-1 - (v : Int))] w fun e w' => e = .returned (.int .i64 (v : Int)) ∧ w' = w := by
  go_enter Try.func101, Try.ntmps101
  go_wp2
  go_ret
  have hw : (-1 : Int) - (-1 - (v : Int)) = v := by omega
  exact ⟨by show Ending.returned (Value.int .i64 (-1 - (-1 - (v : Int)))) = _; rw [hw], rfl⟩

/-- What variablesIn answers: no list, or one of its own. -/
def VarAns (w : World) (l : List Int) (e : Ending) (w' : World) : Prop :=
  (l = [] ∧ e = .returned (.slice none 0 0)) ∨ (l ≠ [] ∧ ∃ g d, e = .returned (.slice (some ⟨g, 0, none⟩) l.length d) ∧ OwnL w' w.heap.size g d l)

end Go.Proofs.Ytbdgnpjbmlcchaa
