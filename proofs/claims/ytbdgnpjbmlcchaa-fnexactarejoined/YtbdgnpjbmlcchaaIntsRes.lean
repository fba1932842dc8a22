/- Contracts: answers that hold a list of numbers: compared, marked, looked at again. -/
import Derived.Test.YtbdgnpjbmlcchaaRaise
namespace Go.Proofs.Ytbdgnpjbmlcchaa
open Go.RowKit

set_option maxRecDepth 20000 in
set_option maxHeartbeats 400000 in
theorem eqInt64S_none (w : World) :
    Calls Try.prog 14 #[.slice none 0 0, .slice none 0 0] w fun e w' => e = .returned (.bool true) ∧ w' = w := by
  go_enter Try.func14, Try.ntmps14
  go_wp2
  refine wp_loop_rounds 1 ?_
  rw [rounds_succ]
  go_wp2
  go_ret
  exact ⟨rfl, rfl⟩

theorem OwnI.grown {w w' : World} {B g n c : Nat} {L : Nat → Int} {k g' : Nat} (h : OwnI w B g n c L k) (hg : w.grownBy w' (some g')) (hne : g ≠ g') : OwnI w' B g n c L k := by
  have hl := h.lt
  obtain ⟨xs, ho, hx⟩ := h
  refine ⟨xs, ⟨ho.1, ho.2.imp id ?_⟩, hx⟩
  rintro ⟨g1, cap, cur, h1, h2, h3, h4⟩
  have e : g1 = g := by simp at h1; exact h1.1.symm
  subst e
  exact ⟨g1, cap, cur, h1, h2, by rw [hg.block g1 hl (by simpa using hne)]; exact h3, h4⟩

theorem OwnS.grown {w w' : World} {B g n c : Nat} {N : Nat → ByteArray} {A : Nat → Int} {k g' : Nat} (h : OwnS w B g n c N A k) (hg : w.grownBy w' (some g')) (hne : g ≠ g') : OwnS w' B g n c N A k := by
  have hl := h.lt
  obtain ⟨xs, ho, hx⟩ := h
  refine ⟨xs, ⟨ho.1, ho.2.imp id ?_⟩, hx⟩
  rintro ⟨g1, cap, cur, h1, h2, h3, h4⟩
  have e : g1 = g := by simp at h1; exact h1.1.symm
  subst e
  exact ⟨g1, cap, cur, h1, h2, by rw [hg.block g1 hl (by simpa using hne)]; exact h3, h4⟩

theorem Two.grown {w w' : World} {b g : Nat} {x y : Value} (h : Two w b x y) (hg : w.grownBy w' (some g)) (hne : b ≠ g) : Two w' b x y :=
  ⟨Nat.lt_of_lt_of_le h.blk hg.size, hg.cell h.c0 (by simpa using hne), hg.cell h.c1 (by simpa using hne)⟩

theorem grownB {w a b : World} {g : Nat} (h : Below w.heap.size w a) (hg : a.grownBy b (some g)) (hw : w.heap.size ≤ g) : Below w.heap.size w b :=
  h.grown hg h.size (fun k hk => by cases hk; exact hw)

end Go.Proofs.Ytbdgnpjbmlcchaa
