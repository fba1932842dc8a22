/- Contracts: bindings: how great they are, their copies and their comparison. -/
import Derived.Test.YtbdgnpjbmlcchaaMat
namespace Go.Proofs.Ytbdgnpjbmlcchaa
open Go.RowKit

theorem OwnM.other {w : World} {B g n c : Nat} {D : LsL} {k : Nat} (h : OwnM w B g n c D k) (a : Addr) (v : Value) (ha : a.block < B) : OwnM (w.setCell a v) B g n c D k := by
  obtain ⟨xs, G, ho, hx, hm⟩ := h
  have hB : B ≤ g := (ho.lt g rfl).1
  have e : (w.setCell a v).heap[g]? = w.heap[g]? := Below.heap_setCell w a v g (by omega)
  refine ⟨xs, G, ⟨ho.1, ho.2.imp id ?_⟩, fun i hi => ?_, hm⟩
  · rintro ⟨g', cap, cur, h1, h2, h3, h4⟩
    have e' : g' = g := by simp at h1; exact h1.1.symm
    subst e'
    exact ⟨g', cap, cur, h1, h2, by rw [e]; exact h3, h4⟩
  · obtain ⟨d, a1, a2, a3, a4, a5⟩ := hx i hi
    exact ⟨d, a1, a2, a3, a4, a5.other a v (by omega)⟩

theorem OwnM.base {w : World} {B B' g n c : Nat} {D : LsL} {k : Nat} (h : OwnM w B g n c D k) (hB : B' ≤ B) : OwnM w B' g n c D k := by
  obtain ⟨xs, G, ho, hx, hm⟩ := h
  refine ⟨xs, G, ⟨ho.1, ho.2.imp id ?_⟩, fun i hi => ?_, hm⟩
  · rintro ⟨g', cap, cur, h1, h2, h3, h4⟩
    exact ⟨g', cap, cur, h1, by omega, h3, h4⟩
  · obtain ⟨d, a1, a2, a3, a4, a5⟩ := hx i hi
    exact ⟨d, a1, a2, by omega, a4, a5.base (by omega)⟩

end Go.Proofs.Ytbdgnpjbmlcchaa
