/- Plain facts: the fields of answers. -/
import Derived.Test.YthgoclbgepfjmaaRanksKey
namespace Go.Proofs.Ythgoclbgepfjmaa
open Go.RowKit

theorem fld48 (C : Int) (a : Option Addr) (b k : Nat) (v : World) : (Instr.field 48 (.agg #[.int .i64 C, .slice a b k]) 0).run Try.prog v = .ok (.int .i64 C) v := by kernel_rfl
theorem fld38a (x y : Int) (v : World) : (Instr.field 38 (.agg #[.int .i64 x, .int .i64 y]) 0).run Try.prog v = .ok (.int .i64 x) v := by kernel_rfl
theorem fld38b (x y : Int) (v : World) : (Instr.field 38 (.agg #[.int .i64 x, .int .i64 y]) 1).run Try.prog v = .ok (.int .i64 y) v := by kernel_rfl

end Go.Proofs.Ythgoclbgepfjmaa
