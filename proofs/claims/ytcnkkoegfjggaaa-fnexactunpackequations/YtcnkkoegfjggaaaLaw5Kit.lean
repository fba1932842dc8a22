/- Small facts for the laws of stage 5: bytes that came in, their copies and marks. -/
import Derived.Test.YtcnkkoegfjggaaaBytesRes
import Derived.Test.YtcnkkoegfjggaaaTermRes
namespace Go.Proofs.Ytcnkkoegfjggaaa
open Go.RowKit

theorem Byt.Src.keep {w w' : World} {p : Option Addr} {n : Nat} {l : List Int} (h : Byt.Src w p n l) (hb : Below w.heap.size w w') : Byt.Src w' p n l := Byt.Src.later h hb
theorem Byt.Row.keep {w w' : World} {b off n : Nat} {l : List Int} (h : Byt.Row w b off n l) (hb : Below w.heap.size w w') : Byt.Row w' b off n l := h.later hb h.blk

/-- A copy of bytes owns its memory. -/
theorem toBy_own (p : Option Addr) (n c : Nat) (l : List Int) (w : World) (h : Byt.Src w p n l) :
    Calls Try.prog 20 #[.slice p n c] w fun e w' => ∃ g, e = .returned (.slice (some ⟨g, 0, none⟩) n n) ∧ w.heap.size ≤ g ∧ OwnR w' w.heap.size g n n (l.map (Value.int .u8)) ∧ Below w.heap.size w w' := by
  refine (Byt.toByteS_any p n c l w h).mono ?_
  rintro e w' ⟨rfl, ho, hb⟩
  exact ⟨w.heap.size, rfl, Nat.le_refl _, ho, hb⟩

theorem mem_getD {l : List Int} (hb : ∀ i, 0 ≤ l.getD i 0 ∧ l.getD i 0 ≤ 255) : ∀ x ∈ l, 0 ≤ x ∧ x ≤ 255 := by
  intro x hx
  obtain ⟨i, hi, rfl⟩ := List.getElem_of_mem hx
  have := hb i
  rw [List.getD_eq_getElem?_getD, List.getElem?_eq_getElem hi] at this
  simpa using this

theorem markByteS_z (B g n d : Nat) (z : Int) (xs : List Value) (w : World) (h : OwnR w B g n d xs) (hm : n ≤ 1048576) (h0 : 0 ≤ z) (h1 : z ≤ 1099511627776) :
    Calls Try.prog 23 #[.slice (some ⟨g, 0, none⟩) n d, .int .i64 z] w fun e w' => e = .returned (.int .i64 (z + n)) ∧ OwnR w' B g n d (Byt.markVals z n) ∧ w.grownBy w' (some g) :=
  Byt.markByteS_any B g n d z xs w h hm h0 h1

end Go.Proofs.Ytcnkkoegfjggaaa
