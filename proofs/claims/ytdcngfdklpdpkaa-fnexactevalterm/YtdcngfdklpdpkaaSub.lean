/- Contracts: the term at a place: SubtermAt, as the model and as the program tells it. -/
import Derived.Test.YtdcngfdklpdpkaaSizeAt
import Derived.Test.YtdcngfdklpdpkaaTermRes
namespace Go.Proofs.Ytdcngfdklpdpkaa
open Go.RowKit

/-- An answer that holds a list: a code and nothing, or 0 and a list of its own. -/
def ListAns (w : World) (C : Int) (k : Nat) (U : Nat → Int) (e : Ending) (w' : World) : Prop :=
  (C ≠ 0 ∧ e = .returned (.agg #[.int .i64 C, .slice none 0 0])) ∨
  (C = 0 ∧ ∃ g d, e = .returned (.agg #[.int .i64 0, .slice (some ⟨g, 0, none⟩) k d]) ∧ w.heap.size ≤ g ∧ OwnI w' w.heap.size g k d U k)

/-- A part of a row of numbers. -/
theorem Ints.part {w : World} {b off n : Nat} {L : Nat → Int} (h : Ints w b off n L) {q k : Nat} (hq : q + k ≤ n) : Ints w b (off + q) k (fun i => L (q + i)) :=
  ⟨fun h0 => h.blk (by omega), fun i hi => by rw [Nat.add_assoc]; exact h.cell (q + i) (by omega)⟩

section
variable {n : Nat} {N : Nat → ByteArray} {A : Nat → Int} {m : Nat} {T : Nat → Int} {x : Int}
theorem sub_fault (h : termF n N A m T ≠ 0) : szC n N A m T x ≠ 0 := by rw [(sz_fault h).1]; exact h
theorem sub_range (h : termF n N A m T = 0) (hx : inB x m = false) : szC n N A m T x ≠ 0 := by rw [(sz_range h hx).1]; decide
end

end Go.Proofs.Ytdcngfdklpdpkaa
