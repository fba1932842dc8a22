/- Contract: a term with another one at a place: the model's l3Replace. -/
import Derived.Test.YtenlogljpgdbpaaCat
namespace Go.Proofs.Ytenlogljpgdbpaa
open Go.RowKit

end Go.Proofs.Ytenlogljpgdbpaa
