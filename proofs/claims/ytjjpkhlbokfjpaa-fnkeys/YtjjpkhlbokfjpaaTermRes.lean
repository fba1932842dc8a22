/- Contracts: answers that hold a term: compared, marked, looked at again. -/
import Derived.Test.YtjjpkhlbokfjpaaIntsRes
namespace Go.Proofs.Ytjjpkhlbokfjpaa
open Go.RowKit

end Go.Proofs.Ytjjpkhlbokfjpaa
