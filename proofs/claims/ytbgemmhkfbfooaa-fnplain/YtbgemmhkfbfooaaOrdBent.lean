/- Contracts: the draws of precedences that may be wrong. -/
import Derived.Test.YtbgemmhkfbfooaaOrdDraw
import Derived.Test.YtbgemmhkfbfooaaSigBent
namespace Go.Proofs.Ytbgemmhkfbfooaa
open Go.RowKit

/-- What a drawn list is: a row of numbers in new memory, beside the source. -/
structure DrA (w W : World) (s : Nat) (p : Option Addr) (nn c a g off m : Nat) : Prop where
  gen : Byt.Gen W s p nn c a
  row : ∃ L, Ints W g off m L
  grw : w.grownBy W (some s)
  hs : s < w.heap.size
  hg : w.heap.size ≤ g

theorem Dr.part {w W : World} {s nn c a g m d : Nat} {p : Option Addr} (h : Dr w W s p nn c a g m d) (off m' : Nat) (hm : off + m' ≤ m) : DrA w W s p nn c a g off m' := by
  obtain ⟨L, ho⟩ := h.own
  refine ⟨h.gen, ⟨fun i => L (off + i), ⟨fun _ => ho.lt, fun i hi => ?_⟩⟩, h.grw, h.hs, h.hg⟩
  have := ho.ints.cell (off + i) (by omega)
  rw [Nat.zero_add] at this
  exact this

theorem Dr.cap {w W : World} {s nn c a g m d : Nat} {p : Option Addr} (h : Dr w W s p nn c a g m d) : m ≤ d := by
  obtain ⟨L, xs, ho, _⟩ := h.own
  rcases ho.2 with ⟨hv, _⟩ | ⟨g', cap, cur, hv, _, _, h1, _⟩
  · cases hv
  · simp at hv; omega

end Go.Proofs.Ytbgemmhkfbfooaa
