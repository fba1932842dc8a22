/- Contracts: two signatures are held against each other, as the model and as the program does it. -/
import Derived.Test.YtbdgnpjbmlcchaaSym
namespace Go.Proofs.Ytbdgnpjbmlcchaa
open Go.RowKit

open Classical in
/-- The answer: the same symbols in the same order. -/
noncomputable def sameB (n m : Nat) (N M : Nat → ByteArray) (A C : Nat → Int) : Bool := decide (n = m ∧ ∀ i, i < n → N i = M i ∧ A i = C i)

theorem bne_bytes {a b : ByteArray} (h : a ≠ b) : (a.toList == b.toList) = false := by
  rw [beq_eq_false_iff_ne]
  intro e
  apply h
  rw [ByteArray.toList_eq, ByteArray.toList_eq] at e
  obtain ⟨⟨x⟩⟩ := a
  obtain ⟨⟨y⟩⟩ := b
  simp at e
  rw [e]

theorem keepCell {w : World} {b o : Nat} {v : Value} (h : w.cell? ⟨b, o, none⟩ = some v) (ob : Obj) : (w.alloc ob).cell? ⟨b, o, none⟩ = some v := by
  rw [(alloc_below w ob).cell (p := ⟨b, o, none⟩) (World.block_lt_of_cell? w _ h)]; exact h

/-- Two one-cell blocks that a function lays for its parameters: they stay while it runs. -/
theorem twoCells (w : World) (v0 v1 : Value) (t0 t1 : TypeId) {wr : World} (h : Below (w.heap.size + 1 + 1) ((w.alloc (.cells #[v0] t0)).alloc (.cells #[v1] t1)) wr) :
    wr.cell? ⟨w.heap.size, 0, none⟩ = some v0 ∧ wr.cell? ⟨w.heap.size + 1, 0, none⟩ = some v1 ∧ Below w.heap.size w wr := by
  refine ⟨?_, ?_, ?_⟩
  · rw [h.cell (p := ⟨w.heap.size, 0, none⟩) (by simp; omega)]; simp [go_sem]
  · rw [h.cell (p := ⟨w.heap.size + 1, 0, none⟩) (by simp)]; simp [go_sem]
  · exact ((alloc_below _ _).alloc (by simp) _).trans (h.mono (by omega))

end Go.Proofs.Ytbdgnpjbmlcchaa
