/- Contracts: a term as bytes: the program's packNodes; PackTerm of the model and of the program. -/
import Derived.Test.YtcnkkoegfjggaaaPk
import Derived.Test.YtcnkkoegfjggaaaSub
namespace Go.Proofs.Ytcnkkoegfjggaaa
open Go.RowKit

theorem packV_set (T : Nat → Int) (m k : Nat) (hk : k < m) : (packV T k ++ List.replicate (m - k) (Value.int .u8 0)).set k (.int .u8 (bytN (T k))) = packV T (k + 1) ++ List.replicate (m - (k + 1)) (Value.int .u8 0) := by
  rw [show m - k = (m - (k + 1)) + 1 by omega, List.replicate_succ, List.set_append_right _ _ (by rw [packV_len]; exact Nat.le_refl _), packV_len, Nat.sub_self, List.set_cons_zero, packV_succ, List.append_assoc]
  rfl

end Go.Proofs.Ytcnkkoegfjggaaa
