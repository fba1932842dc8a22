/- Contracts: whether two lists of numbers are the same, as the model and as the program tells it. -/
import Derived.Test.YtdcngfdklpdpkaaInts
namespace Go.Proofs.Ytdcngfdklpdpkaa
open Go.RowKit

open Classical in
noncomputable def sameI (m k : Nat) (L M : Nat → Int) : Bool := decide (m = k ∧ ∀ i, i < m → L i = M i)

end Go.Proofs.Ytdcngfdklpdpkaa
