/- Contracts: answers that hold a term: compared, marked, looked at again. -/
import Derived.Test.YtdcngfdklpdpkaaIntsRes
namespace Go.Proofs.Ytdcngfdklpdpkaa
open Go.RowKit

end Go.Proofs.Ytdcngfdklpdpkaa
