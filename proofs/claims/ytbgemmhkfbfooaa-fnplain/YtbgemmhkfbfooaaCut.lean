/- Contracts: symbols are cut off bytes, as the program does it. -/
import Derived.Test.YtbgemmhkfbfooaaBytesRes
namespace Go.Proofs.Ytbgemmhkfbfooaa
open Go.RowKit

def noSym : Value := .tuple #[.agg #[.string ByteArray.empty, .int .i64 0], .slice none 0 0, .bool false]

theorem rowCell {w : World} {b o m : Nat} {l : List Int} (h : Byt.Row w b o m l) {i : Nat} (hi : i < m) (ob : Obj) : (w.alloc ob).cell? ⟨b, o + i, none⟩ = some (.int .u8 (l.getD i 0)) := keepCell (h.cell i hi) ob

/-- k bytes behind the first i. -/
def cutOf (l : List Int) (i k : Nat) : List Int := (List.range k).map fun j => l.getD (i + j) 0

theorem cutOf_at (l : List Int) (i k j : Nat) (h : j < k) : (cutOf l i k).getD j 0 = l.getD (i + j) 0 := by simp [cutOf, List.getD_eq_getElem?_getD, h]

end Go.Proofs.Ytbgemmhkfbfooaa
