/- Contracts: answers that hold a term: compared, marked, looked at again. -/
import Derived.Test.YtflhfhmhdhokoaaGreatIntsRes
namespace Go.Proofs.YtflhfhmhdhokoaaGreat
open Go.RowKit

end Go.Proofs.YtflhfhmhdhokoaaGreat
