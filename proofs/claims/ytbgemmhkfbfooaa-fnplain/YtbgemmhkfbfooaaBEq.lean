/- Contracts: a list of bytes is compared with another one; results of two numbers are compared. -/
import Derived.Test.YtbgemmhkfbfooaaBBase
namespace Go.Proofs.Ytbgemmhkfbfooaa.Byt
open Go.RowKit

/-- A row of bytes in memory. -/
structure Row (w : World) (b off n : Nat) (l : List Int) : Prop where
  len : l.length = n
  most : n ≤ 2000000
  byt : ∀ i, 0 ≤ l.getD i 0 ∧ l.getD i 0 ≤ 255
  blk : b < w.heap.size
  cell : ∀ i, i < n → w.cell? ⟨b, off + i, none⟩ = some (.int .u8 (l.getD i 0))

theorem Row.later {w w' : World} {B b off n : Nat} {l : List Int} (h : Row w b off n l) (hb : Below B w w') (hB : b < B) : Row w' b off n l :=
  ⟨h.len, h.most, h.byt, Nat.lt_of_lt_of_le h.blk hb.size, fun i hi => by rw [hb.cell (p := ⟨b, off + i, none⟩) hB]; exact h.cell i hi⟩

end Go.Proofs.Ytbgemmhkfbfooaa.Byt
