/- Contracts: answers that hold a term: compared, marked, looked at again. -/
import Derived.Test.YtaecahdamaidaaaGreatIntsRes
namespace Go.Proofs.YtaecahdamaidaaaGreat
open Go.RowKit

end Go.Proofs.YtaecahdamaidaaaGreat
