/- Contract: how many nodes the term at a place has, as the program tells it. -/
import Derived.Test.YtbgemmhkfbfooaaOne
import Derived.Sort.CutIn
namespace Go.Proofs.Ytbgemmhkfbfooaa
open Go.RowKit Go.Shelf

attribute [local go_sem] Oper.semAt_some

end Go.Proofs.Ytbgemmhkfbfooaa
