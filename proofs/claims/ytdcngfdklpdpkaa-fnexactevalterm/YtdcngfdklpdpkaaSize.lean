/- Contract: how many nodes the term at a place has, as the program tells it. -/
import Derived.Test.YtdcngfdklpdpkaaOne
import Derived.Sort.CutIn
namespace Go.Proofs.Ytdcngfdklpdpkaa
open Go.RowKit Go.Shelf

attribute [local go_sem] Oper.semAt_some

end Go.Proofs.Ytdcngfdklpdpkaa
