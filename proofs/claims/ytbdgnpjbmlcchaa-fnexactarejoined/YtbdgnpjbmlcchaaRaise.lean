/- Contracts: a symbol is raised, as the model and as the program does it. -/
import Derived.Test.YtbdgnpjbmlcchaaMark
import Derived.Test.YtbdgnpjbmlcchaaOrdMath
import Derived.OwnWalk
import Derived.Lib.Slices
namespace Go.Proofs.Ytbdgnpjbmlcchaa
open Go.RowKit

def valsI (L : Nat → Int) (n : Nat) : List Value := (List.range n).map (fun i => Value.int .i64 (L i))

theorem intNews (L : Nat → Int) (n : Nat) : ∀ u ∈ valsI L n, u.oneCell' = true := by
  intro u hu
  obtain ⟨x, _, rfl⟩ := List.mem_map.1 hu
  rfl

theorem valsI_at (L : Nat → Int) (n i : Nat) (h : i < n) : (valsI L n)[i]? = some (.int .i64 (L i)) := by simp [valsI, h]

theorem Ints.src {w : World} {b off n : Nat} {L : Nat → Int} (h : Ints w b off n L) (o : Obj) : ∀ (j : Nat) (u : Value), (valsI L n)[j]? = some u → (w.alloc o).cell? ((⟨b, off, none⟩ : Addr).add j) = some u := by
  intro j u hj
  have hjn : j < n := by
    have := (List.getElem?_eq_some_iff.1 hj).1
    simpa [valsI] using this
  have e : (⟨b, off, none⟩ : Addr).add j = ⟨b, off + j, none⟩ := by unfold Addr.add; split <;> simp_all
  rw [valsI_at L n j hjn] at hj
  rw [e, ← hj]
  exact keepCell (h.cell j hjn) o

set_option maxRecDepth 20000 in
set_option maxHeartbeats 800000 in
theorem clone_any (b off n c : Nat) (L : Nat → Int) (w : World) (h : Ints w b off n L) (hm : n ≤ 1048576) :
    Calls Try.prog 48 #[.slice (some ⟨b, off, none⟩) n c] w fun e w' => ∃ g d, e = .returned (.slice (some ⟨g, 0, none⟩) n d) ∧ w.heap.size ≤ g ∧ OwnI w' w.heap.size g n d L n ∧ Below w.heap.size w w' := by
  have HC := hidden h
  have q48 : ∀ (w : World) (a : Option Addr) (n c n' c' : Nat), (binOp .eql 26 (.slice a n c) (.slice none n' c')).run Try.prog w = .ok (.bool a.isNone) w := fun w a n c n' c' => Lib.run_eql_slice_nil w _ _ a n c n' c' Try.underlying26
  clear h
  go_enter Try.func48, Try.ntmps48
  go_wp2_with (at_builtin; refine wpList_append_own _ rfl _ _ 26 rfl w.heap.size 2 _ (.int .i64 0) 1 8 Try.underlying26 rfl rfl rfl rfl rfl (by decide) _ _ _ rfl (World.ownsRow_made w #[] 0 (Nat.le_refl _) (Nat.zero_le _) rfl) ⟨b, off, none⟩ n c (valsI L n) rfl ?qc1 (HC.out.src _) (intNews L n) ?qc4 ?qc5 ?qc6 ?_)
  case qc1 => simp [valsI]
  case qc4 => unfold maxLen; omega
  case qc5 => omega
  case qc6 => simp
  intro v' w1 hown hgrow hnil
  go_wp2
  go_ret
  rcases hown.2 with ⟨hv, _⟩ | ⟨g, d, cur, hv, hg, _⟩
  · exact absurd hv hnil
  · subst hv
    refine ⟨g, d, rfl, hg, ⟨_, hown, fun i hi => valsI_at L n i hi⟩, ?_⟩
    exact ((Below.refl _ w).alloc (Nat.le_refl _) _).grown hgrow (by simp) (by intro k hk; simp [Value.ownBlock] at hk; omega)

set_option maxRecDepth 20000 in
set_option maxHeartbeats 800000 in
theorem l1Ints_any (b off n c : Nat) (L : Nat → Int) (w : World) (h : Ints w b off n L) (hm : n ≤ 1048576) :
    Calls Try.prog 42 #[.slice (some ⟨b, off, none⟩) n c] w fun e w' => ∃ g d, e = .returned (.slice (some ⟨g, 0, none⟩) n d) ∧ w.heap.size ≤ g ∧ OwnI w' w.heap.size g n d L n ∧ Below w.heap.size w w' := by
  have HC := hidden h
  clear h
  go_enter Try.func42, Try.ntmps42
  go_wp2_with (at_builtin; refine wpList_append_own _ rfl _ _ 26 rfl w.heap.size 2 _ (.int .i64 0) 1 8 Try.underlying26 rfl rfl rfl rfl rfl (by decide) _ _ _ rfl (World.ownsRow_made w #[] 0 (Nat.le_refl _) (Nat.zero_le _) rfl) ⟨b, off, none⟩ n c (valsI L n) rfl ?qc1 (HC.out.src _) (intNews L n) ?qc4 ?qc5 ?qc6 ?_)
  case qc1 => simp [valsI]
  case qc4 => unfold maxLen; omega
  case qc5 => omega
  case qc6 => simp
  intro v' w1 hown hgrow hnil
  go_wp2
  go_ret
  rcases hown.2 with ⟨hv, _⟩ | ⟨g, d, cur, hv, hg, _⟩
  · exact absurd hv hnil
  · subst hv
    refine ⟨g, d, rfl, hg, ⟨_, hown, fun i hi => valsI_at L n i hi⟩, ?_⟩
    exact ((Below.refl _ w).alloc (Nat.le_refl _) _).grown hgrow (by simp) (by intro k hk; simp [Value.ownBlock] at hk; omega)

theorem OwnI.store {w : World} {B g n c : Nat} {L : Nat → Int} (h : OwnI w B g n c L n) {i : Nat} (hi : i < n) (x : Int) :
    w.cell? ⟨g, i, none⟩ = some (.int .i64 (L i)) ∧ w.frozen? ⟨g, i, none⟩ = false ∧ OwnI (w.setCell ⟨g, i, none⟩ (.int .i64 x)) B g n c (upd L i x) n ∧ w.grownBy (w.setCell ⟨g, i, none⟩ (.int .i64 x)) (some g) := by
  obtain ⟨xs, ho, hx⟩ := h
  obtain ⟨o1, g1⟩ := ho.stored i (.int .i64 x)
  have hl : xs.length = n * 1 := ho.1
  refine ⟨(ho.cellAt i (by omega)).trans (hx i hi), ho.frozenAt _, ⟨_, o1, fun j hj => ?_⟩, g1⟩
  by_cases e : j = i
  · subst e; rw [List.getElem?_set_self (by omega)]; simp [upd]
  · rw [List.getElem?_set_ne (by omega), hx j hj]; simp [upd, e]

theorem OwnI.other {w : World} {B g n c : Nat} {L : Nat → Int} {k : Nat} (h : OwnI w B g n c L k) (a : Addr) (u : Value) (hg : g ≠ a.block) : OwnI (w.setCell a u) B g n c L k := by
  obtain ⟨xs, ho, hx⟩ := h
  refine ⟨xs, ⟨ho.1, ho.2.imp id ?_⟩, hx⟩
  rintro ⟨g', cap, cur, h1, h2, h3, h4⟩
  have e : g' = g := by simp at h1; exact h1.1.symm
  subst e
  exact ⟨g', cap, cur, h1, h2, by rw [Below.heap_setCell _ _ _ _ hg]; exact h3, h4⟩

theorem OwnI.base {w : World} {B B' g n c : Nat} {L : Nat → Int} {k : Nat} (h : OwnI w B g n c L k) (hB : B' ≤ g) : OwnI w B' g n c L k := by
  obtain ⟨xs, ho, hx⟩ := h
  refine ⟨xs, ⟨ho.1, ho.2.imp id ?_⟩, hx⟩
  rintro ⟨g', cap, cur, h1, h2, h3, h4⟩
  have e : g' = g := by simp at h1; exact h1.1.symm
  subst e
  exact ⟨g', cap, cur, h1, hB, h3, h4⟩

/-- What RaiseSymbol answers: its code. -/
noncomputable def raC (n : Nat) (N : Nat → ByteArray) (A : Nat → Int) (m : Nat) (L : Nat → Int) (x : Int) : Int := if rkC n N A m L x = 0 then (if rkF m L x + 1 = m then 4 else 0) else rkC n N A m L x

section
variable {n : Nat} {N : Nat → ByteArray} {A : Nat → Int} {m : Nat} {L : Nat → Int} {x : Int}
theorem ra_fault (h : orderF n N A m L ≠ 0) : raC n N A m L x = orderF n N A m L := by
  have h1 := (rk_fault (x := x) h).1
  rw [raC, h1, if_neg h]
theorem ra_range (h : orderF n N A m L = 0) (hx : inB x n = false) : raC n N A m L x = 3 := by
  have h1 := (rk_range h hx).1
  rw [raC, h1, if_neg (by decide)]
theorem ra_last (h : orderF n N A m L = 0) (hx : inB x n = true) (hr : rkF m L x + 1 = m) : raC n N A m L x = 4 := by
  have h1 := (rk_ok h hx).1
  rw [raC, h1, if_pos rfl, if_pos hr]
theorem ra_ok (h : orderF n N A m L = 0) (hx : inB x n = true) (hr : ¬ rkF m L x + 1 = m) : raC n N A m L x = 0 := by
  have h1 := (rk_ok h hx).1
  rw [raC, h1, if_pos rfl, if_neg hr]
end

theorem Res.grown {w w' : World} {b g : Nat} {x y : Value} (h : Res w b x y) (hg : w.grownBy w' (some g)) (hne : b ≠ g) : Res w' b x y := by
  have hb := hg.block b h.blk (by simpa using hne)
  exact ⟨Nat.lt_of_lt_of_le h.blk hg.size, (World.cell?_of_block (w := w) hb).trans h.c0, (World.cell?_of_block (w := w) hb).trans h.c1, (World.frozen?_of_block (w := w) hb).trans h.f0, (World.frozen?_of_block (w := w) hb).trans h.f1⟩

/-- The answer of a raise: a code and nothing, or 0 and a list of its own. -/
def RaiseAns (w : World) (n : Nat) (N : Nat → ByteArray) (A : Nat → Int) (m : Nat) (L : Nat → Int) (x : Int) (e : Ending) (w' : World) : Prop :=
  (raC n N A m L x ≠ 0 ∧ e = .returned (.agg #[.int .i64 (raC n N A m L x), .slice none 0 0])) ∨
  (raC n N A m L x = 0 ∧ ∃ i g d, rkF m L x = (i : Nat) ∧ i + 1 < m ∧ m ≤ 6 ∧ e = .returned (.agg #[.int .i64 0, .slice (some ⟨g, 0, none⟩) m d]) ∧ w.heap.size ≤ g ∧ OwnI w' w.heap.size g m d (raised L i) m)

end Go.Proofs.Ytbdgnpjbmlcchaa
