/- Contract: how many nodes the term at a place has, as the program tells it. -/
import Derived.Test.YtfandhpjignabaaOne
import Derived.Sort.CutIn
namespace Go.Proofs.Ytfandhpjignabaa
open Go.RowKit Go.Shelf

attribute [local go_sem] Oper.semAt_some

end Go.Proofs.Ytfandhpjignabaa
