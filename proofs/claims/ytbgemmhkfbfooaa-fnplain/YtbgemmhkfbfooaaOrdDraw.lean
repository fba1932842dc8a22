/- Contracts: the draws of precedences. -/
import Derived.Test.YtbgemmhkfbfooaaSigDraw
import Derived.Test.YtbgemmhkfbfooaaPut
import Derived.Test.YtbgemmhkfbfooaaCat
namespace Go.Proofs.Ytbgemmhkfbfooaa
open Go.RowKit

theorem valsI_snoc (L : Nat → Int) (n : Nat) (x : Int) : valsI L n ++ [Value.int .i64 x] = valsI (upd L n x) (n + 1) := by
  apply List.ext_getElem?
  intro i
  have l1 : (valsI L n).length = n := by simp [valsI]
  by_cases h1 : i < n
  · rw [List.getElem?_append_left (by omega), valsI_at _ _ _ h1, valsI_at _ _ _ (by omega)]; simp [upd]; omega
  · by_cases h2 : i = n
    · subst h2; rw [List.getElem?_append_right (by omega), l1, valsI_at _ _ _ (by omega)]; simp [upd]
    · rw [List.getElem?_eq_none (by simp [l1]; omega), List.getElem?_eq_none (by simp [valsI]; omega)]

/-- What a draw of a list stands at: the source, and a list of its own. -/
structure Dr (w W : World) (s : Nat) (p : Option Addr) (nn c a g m d : Nat) : Prop where
  gen : Byt.Gen W s p nn c a
  own : ∃ L, OwnI W w.heap.size g m d L m
  grw : w.grownBy W (some s)
  hs : s < w.heap.size
  hg : w.heap.size ≤ g

theorem Dr.call {w W W' : World} {s nn c a a' g m d : Nat} {p : Option Addr} (h : Dr w W s p nn c a g m d) (hg : Byt.Gen W' s p nn c a') (hk : W.grownBy W' (some s)) : Dr w W' s p nn c a' g m d := by
  obtain ⟨L, ho⟩ := h.own
  exact ⟨hg, ⟨L, ho.grown hk (by have := h.hs; have := h.hg; omega)⟩, grownBy_trans h.grw hk, h.hs, h.hg⟩

theorem Dr.store {w W : World} {s nn c a g m d : Nat} {p : Option Addr} (h : Dr w W s p nn c a g m d) {i : Nat} (hi : i < m) : ∃ x, W.cell? ⟨g, i, none⟩ = some (.int .i64 x) ∧ W.frozen? ⟨g, i, none⟩ = false ∧ ∀ y, Dr w (W.setCell ⟨g, i, none⟩ (.int .i64 y)) s p nn c a g m d := by
  obtain ⟨L, ho⟩ := h.own
  obtain ⟨c1, f1, _, _⟩ := ho.store hi 0
  refine ⟨L i, c1, f1, fun y => ?_⟩
  obtain ⟨_, _, o2, g2⟩ := ho.store hi y
  exact ⟨h.gen.grown g2 (by have := h.hs; have := h.hg; omega), ⟨_, o2⟩, Byt.grownBy_new h.grw g2 h.hg, h.hs, h.hg⟩

theorem Dr.below {w0 w W : World} {s nn c a g m d : Nat} {p : Option Addr} (h : Dr w W s p nn c a g m d) (hb : Below w0.heap.size w0 w) (hs0 : w0.heap.size ≤ s) : Below w0.heap.size w0 W :=
  hb.grown h.grw hb.size (fun k hk => by cases hk; exact hs0)

end Go.Proofs.Ytbgemmhkfbfooaa
