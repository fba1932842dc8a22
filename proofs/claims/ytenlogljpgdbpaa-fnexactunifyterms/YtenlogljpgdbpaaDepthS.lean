/- Contract: how deep the term at a place is, as the model tells it. -/
import Derived.Test.YtenlogljpgdbpaaSizeAt
namespace Go.Proofs.Ytenlogljpgdbpaa
open Go.RowKit

/-- The depth of the term at a place. -/
def dpt (a : Nat → Nat) (m p : Nat) : Nat := depN a m (p + 1) (a p) + 1

theorem dpt_le (a : Nat → Nat) {m p : Nat} (h : p < m) : dpt a m p ≤ m := by
  have := depN_le a m _ (p + 1) (a p) (Nat.le_refl _)
  unfold dpt; omega

theorem dep_next {a : Nat → Nat} {m r r2 k : Nat} (h : skip a m r 1 = some r2) : depN a m r (k + 1) = max (dpt a m r) (depN a m r2 k) := by
  rw [depN_succ k h, dpt, Nat.add_comm]

end Go.Proofs.Ytenlogljpgdbpaa
