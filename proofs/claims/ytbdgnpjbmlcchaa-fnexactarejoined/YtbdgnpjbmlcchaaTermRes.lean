/- Contracts: answers that hold a term: compared, marked, looked at again. -/
import Derived.Test.YtbdgnpjbmlcchaaIntsRes
namespace Go.Proofs.Ytbdgnpjbmlcchaa
open Go.RowKit

end Go.Proofs.Ytbdgnpjbmlcchaa
