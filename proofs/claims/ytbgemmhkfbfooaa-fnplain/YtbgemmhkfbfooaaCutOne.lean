/- Contracts: all symbols are cut off bytes: one byte alone; any bytes. -/
import Derived.Test.YtbgemmhkfbfooaaCuts
namespace Go.Proofs.Ytbgemmhkfbfooaa
open Go.RowKit

/-- What cutSymbols answers. -/
def CutAns (w : World) (l : List Int) (q : Nat) (e : Ending) (w' : World) : Prop :=
  (fit l q ∧ ∃ v, e = .returned (.tuple #[.agg #[v], .bool true]) ∧ SymRow w' w.heap.size v q (nmOf l) (arOf l)) ∨ (¬ fit l q ∧ e = .returned noSig)

end Go.Proofs.Ytbgemmhkfbfooaa
