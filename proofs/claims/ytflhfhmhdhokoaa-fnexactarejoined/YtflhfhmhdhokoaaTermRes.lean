/- Contracts: answers that hold a term: compared, marked, looked at again. -/
import Derived.Test.YtflhfhmhdhokoaaIntsRes
namespace Go.Proofs.Ytflhfhmhdhokoaa
open Go.RowKit

end Go.Proofs.Ytflhfhmhdhokoaa
