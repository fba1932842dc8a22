/- What stays while a function runs: facts on memory that later calls keep. -/
import Derived.Test.YtbdgnpjbmlcchaaSame
namespace Go.Proofs.Ytbdgnpjbmlcchaa
open Go.RowKit

theorem keepB {a b c : World} (h : Below a.heap.size a b) (k : Below b.heap.size b c) : Below a.heap.size a c := h.trans (k.mono h.size)

/-- A block of one cell in memory. -/
structure One (w : World) (b : Nat) (v : Value) : Prop where
  blk : b < w.heap.size
  c0 : w.cell? ⟨b, 0, none⟩ = some v

theorem One.new (w : World) (v : Value) (t : TypeId) : One (w.alloc (.cells #[v] t)) w.heap.size v := by
  refine ⟨by simp, ?_⟩; simp [go_sem]

theorem One.keep {w w' : World} {b : Nat} {v : Value} (h : One w b v) (hb : Below w.heap.size w w') : One w' b v :=
  ⟨Nat.lt_of_lt_of_le h.blk hb.size, by rw [hb.cell (p := ⟨b, 0, none⟩) h.blk]; exact h.c0⟩

/-- A block of two cells in memory. -/
structure Two (w : World) (b : Nat) (x y : Value) : Prop where
  blk : b < w.heap.size
  c0 : w.cell? ⟨b, 0, none⟩ = some x
  c1 : w.cell? ⟨b, 1, none⟩ = some y

theorem Two.new (w : World) (x y : Value) (t : TypeId) : Two (w.alloc (.cells #[x, y] t)) w.heap.size x y := by
  refine ⟨by simp, ?_, ?_⟩ <;> simp [go_sem]

theorem Two.keep {w w' : World} {b : Nat} {x y : Value} (h : Two w b x y) (hb : Below w.heap.size w w') : Two w' b x y :=
  ⟨Nat.lt_of_lt_of_le h.blk hb.size, by rw [hb.cell (p := ⟨b, 0, none⟩) h.blk]; exact h.c0, by rw [hb.cell (p := ⟨b, 1, none⟩) h.blk]; exact h.c1⟩

theorem Syms.keep {w w' : World} {b off n : Nat} {N : Nat → ByteArray} {A : Nat → Int} (h : Syms w b off n N A) (hb : Below w.heap.size w w') : Syms w' b off n N A := h.later hb h.blk

theorem SrcS.keep {w w' : World} {p : Option Addr} {n : Nat} {N : Nat → ByteArray} {A : Nat → Int} (h : SrcS w p n N A) (hb : Below w.heap.size w w') : SrcS w' p n N A := h.later hb

theorem OwnS.keep {w w' : World} {B g n c : Nat} {N : Nat → ByteArray} {A : Nat → Int} {k : Nat} (h : OwnS w B g n c N A k) (hb : Below w.heap.size w w') : OwnS w' B g n c N A k := h.later hb h.lt

theorem SrcS.fits {w : World} {p : Option Addr} {n : Nat} {N : Nat → ByteArray} {A : Nat → Int} (h : SrcS w p n N A) : ∀ i, i < n → -9223372036854775808 ≤ A i ∧ A i ≤ 9223372036854775807 := by
  intro i hi
  rcases h.2 with e | ⟨b, off, _, hs⟩
  · omega
  · exact hs.fits i hi

/-- A copy lies in new memory. -/
theorem toSig_new (p : Option Addr) (n c : Nat) (N : Nat → ByteArray) (A : Nat → Int) (w : World) (h : SrcS w p n N A) (hk : Kept n N A) :
    Calls Try.prog 7 #[.agg #[.slice p n c]] w fun e w' => ∃ g, e = .returned (.agg #[.slice (some ⟨g, 0, none⟩) n n]) ∧ w.heap.size ≤ g ∧ g < w'.heap.size ∧ Syms w' g 0 n N A ∧ Below w.heap.size w w' := by
  refine (toSignature_src p n c N A w h hk).mono ?_
  rintro e w' ⟨g, rfl, hg, ho, hb⟩
  exact ⟨g, rfl, hg, ho.lt, ho.syms hk.big hk.fits, hb⟩

end Go.Proofs.Ytbdgnpjbmlcchaa
