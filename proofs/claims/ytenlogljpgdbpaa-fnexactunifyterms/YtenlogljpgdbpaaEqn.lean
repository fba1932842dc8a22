/- Contracts: equations: how great they are, their copies and their comparison. -/
import Derived.Test.YtenlogljpgdbpaaTermF
import Derived.Test.YtenlogljpgdbpaaIntsRes
namespace Go.Proofs.Ytenlogljpgdbpaa
open Go.RowKit

set_option maxRecDepth 20000 in
set_option maxHeartbeats 400000 in
theorem szInt64S_any (p : Option Addr) (n c : Nat) (left : Int) (w : World) (hn : n ≤ maxLen) (h0 : 0 ≤ left) (h1 : left ≤ 1048576) :
    Calls Try.prog 42 #[.slice p n c, .int .i64 left] w fun e w' => (∃ r, e = .returned (.int .i64 r) ∧ (r = -1 ∨ (0 ≤ r ∧ r ≤ left ∧ n ≤ 1048576))) ∧ Below w.heap.size w w' := by
  unfold maxLen at hn
  go_enter Try.func42, Try.ntmps42
  by_cases h : left < n
  · go_wp2
    go_ret
    exact ⟨⟨_, rfl, Or.inl rfl⟩, Below.refl _ _⟩
  · go_wp2
    go_ret
    exact ⟨⟨_, rfl, Or.inr ⟨by omega, by omega, by omega⟩⟩, Below.refl _ _⟩

/-- A block of two cells that may be written. -/
structure Own2 (w : World) (b : Nat) (x y : Value) : Prop where
  two : Two w b x y
  f0 : w.frozen? ⟨b, 0, none⟩ = false
  f1 : w.frozen? ⟨b, 1, none⟩ = false

theorem Own2.new (w : World) (x y : Value) (t : TypeId) : Own2 (w.alloc (.cells #[x, y] t)) w.heap.size x y := by
  refine ⟨Two.new w x y t, ?_, ?_⟩ <;> simp [go_sem]

theorem Own2.keep {w w' : World} {b : Nat} {x y : Value} (h : Own2 w b x y) (hb : Below w.heap.size w w') : Own2 w' b x y :=
  ⟨h.two.keep hb, by rw [(bcell hb).2 _ _ h.two.blk]; exact h.f0, by rw [(bcell hb).2 _ _ h.two.blk]; exact h.f1⟩

theorem Own2.set0 {w : World} {b : Nat} {x y : Value} (h : Own2 w b x y) (v : Value) : Own2 (w.setCell ⟨b, 0, none⟩ v) b v y :=
  ⟨⟨by simpa using h.two.blk, World.cell?_setCell_same _ _ _ h.two.c0, by rw [World.cell?_setCell_other _ _ _ _ (by simp)]; exact h.two.c1⟩, by simpa [go_sem] using h.f0, by simpa [go_sem] using h.f1⟩

theorem Own2.set1 {w : World} {b : Nat} {x y : Value} (h : Own2 w b x y) (v : Value) : Own2 (w.setCell ⟨b, 1, none⟩ v) b x v :=
  ⟨⟨by simpa using h.two.blk, by rw [World.cell?_setCell_other _ _ _ _ (by simp)]; exact h.two.c0, World.cell?_setCell_same _ _ _ h.two.c1⟩, by simpa [go_sem] using h.f0, by simpa [go_sem] using h.f1⟩

theorem Own2.other {w : World} {b : Nat} {x y : Value} (h : Own2 w b x y) (a : Addr) (v : Value) (hne : b ≠ a.block) : Own2 (w.setCell a v) b x y :=
  ⟨⟨by simpa using h.two.blk, by rw [World.cell?_setCell_other _ _ _ _ (by intro e; exact hne (by rw [e]))]; exact h.two.c0, by rw [World.cell?_setCell_other _ _ _ _ (by intro e; exact hne (by rw [e]))]; exact h.two.c1⟩, by simpa [go_sem] using h.f0, by simpa [go_sem] using h.f1⟩

theorem Two.other {w : World} {b : Nat} {x y : Value} (h : Two w b x y) (a : Addr) (v : Value) (hne : b ≠ a.block) : Two (w.setCell a v) b x y :=
  ⟨by simpa using h.blk, by rw [World.cell?_setCell_other _ _ _ _ (by intro e; exact hne (by rw [e]))]; exact h.c0, by rw [World.cell?_setCell_other _ _ _ _ (by intro e; exact hne (by rw [e]))]; exact h.c1⟩

end Go.Proofs.Ytenlogljpgdbpaa
