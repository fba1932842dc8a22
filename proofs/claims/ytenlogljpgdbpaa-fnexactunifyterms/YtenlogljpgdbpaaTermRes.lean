/- Contracts: answers that hold a term: compared, marked, looked at again. -/
import Derived.Test.YtenlogljpgdbpaaIntsRes
namespace Go.Proofs.Ytenlogljpgdbpaa
open Go.RowKit

end Go.Proofs.Ytenlogljpgdbpaa
