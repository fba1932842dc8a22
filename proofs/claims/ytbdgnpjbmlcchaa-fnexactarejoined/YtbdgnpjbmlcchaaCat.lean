/- Contracts: lists one behind the other: slices.Concat as the program calls it, and the model's l3Replace. -/
import Derived.Test.YtbdgnpjbmlcchaaSub
import Derived.Lib.AppendZerosOnto
import Derived.Lib.SliceRun
namespace Go.Proofs.Ytbdgnpjbmlcchaa
open Go.RowKit

theorem OwnI.vals {w : World} {B g n d : Nat} {L : Nat → Int} (h : OwnI w B g n d L n) : w.ownsRow B 2 1 (.slice (some ⟨g, 0, none⟩) n d) n (valsI L n) := by
  obtain ⟨xs, ho, hx⟩ := h
  have hl : xs.length = n * 1 := ho.1
  have e : xs = valsI L n := by
    apply List.ext_getElem?
    intro i
    by_cases hi : i < n
    · rw [hx i hi, valsI_at L n i hi]
    · rw [List.getElem?_eq_none (by omega), List.getElem?_eq_none (by simp [valsI]; omega)]
  rw [← e]; exact ho

theorem row_own {w : World} {B g n d : Nat} {L : Nat → Int} (h : w.ownsRow B 2 1 (.slice (some ⟨g, 0, none⟩) n d) n (valsI L n)) : OwnI w B g n d L n :=
  ⟨_, h, fun i hi => valsI_at L n i hi⟩

/-- The first q of T, all k of M, those of T from e on. -/
def catU (q k e : Nat) (T M : Nat → Int) : Nat → Int := fun i => if i < q then T i else if i < q + k then M (i - q) else T (e + (i - (q + k)))

theorem cat_vals (q k e r : Nat) (T M : Nat → Int) : valsI T q ++ valsI M k ++ valsI (fun i => T (e + i)) r = valsI (catU q k e T M) (q + k + r) := by
  apply List.ext_getElem?
  intro i
  have l1 : (valsI T q).length = q := by simp [valsI]
  have l2 : (valsI M k).length = k := by simp [valsI]
  by_cases h1 : i < q
  · rw [List.append_assoc, List.getElem?_append_left (by omega), valsI_at _ _ _ h1, valsI_at _ _ _ (by omega)]; simp [catU, h1]
  · by_cases h2 : i < q + k
    · rw [List.getElem?_append_left (by rw [List.length_append]; omega), List.getElem?_append_right (by omega), l1, valsI_at _ _ _ (by omega), valsI_at _ _ _ (by omega)]; simp [catU, h1, h2]
    · rw [List.getElem?_append_right (by rw [List.length_append]; omega), List.length_append, l1, l2]
      by_cases h3 : i < q + k + r
      · rw [valsI_at _ _ _ (by omega), valsI_at _ _ _ h3]; simp [catU, h1, h2]
      · rw [List.getElem?_eq_none (by simp [valsI]; omega), List.getElem?_eq_none (by simp [valsI]; omega)]

theorem Ints.src0 {w : World} {b off n : Nat} {L : Nat → Int} (h : Ints w b off n L) : ∀ (j : Nat) (u : Value), (valsI L n)[j]? = some u → w.cell? ((⟨b, off, none⟩ : Addr).add j) = some u := by
  intro j u hj
  have hjn : j < n := by
    have := (List.getElem?_eq_some_iff.1 hj).1
    simpa [valsI] using this
  have e : (⟨b, off, none⟩ : Addr).add j = ⟨b, off + j, none⟩ := by unfold Addr.add; split <;> simp_all
  rw [valsI_at L n j hjn] at hj
  rw [e, ← hj]
  exact h.cell j hjn

set_option maxRecDepth 20000 in
set_option maxHeartbeats 1600000 in
theorem grow_any (s : Nat) (w : World) (h1 : 1 ≤ s) (h2 : s ≤ 72) :
    Calls Try.prog 102 #[.slice none 0 0, .int .i64 (s : Int)] w fun e w' => ∃ d, e = .returned (.slice (some ⟨w.heap.size, 0, none⟩) 0 d) ∧ w'.ownsRow w.heap.size 2 1 (.slice (some ⟨w.heap.size, 0, none⟩) 0 d) 0 [] ∧ Below w.heap.size w w' := by
  have hrz : ∀ ty, (Builtin.append_ #[26, 3] ty #[.slice none 0 0, .int .i64 (s : Int)]).run Try.prog w =
      .ok (.slice (some ⟨w.heap.size, 0, none⟩) (0 + s) (grownCap w (0 + s) 0 2)) (w.drew.alloc (.cells (([] : List Value).toArray ++ Builtin.zeroCells (Value.int .i64 0).cells s ++ Builtin.zeroCells (Value.int .i64 0).cells (grownCap w (0 + s) 0 2 - (0 + s))) 2)) := fun ty =>
    Lib.run_append_grow_zeros (P := Try.prog) w 26 3 ty 2 _ (.int .i64 0) .i64 .i64 Try.underlying26 Try.underlying3 rfl rfl none 0 0 [] (run_firstCells_none w.drew 1 0 0 0) s (by omega) (by decide) (by omega) (by omega) (by show s * 8 ≤ _; omega) (by show Builtin.nextslicecap (0 + s) 0 * 8 ≤ _; exact growslice_fits (by omega) (by omega))
  have hGn : s ≤ grownCap w (0 + s) 0 2 := Nat.le_trans (by omega) (grownCap_ge w (0 + s) 0 2)
  have hGm : grownCap w (0 + s) 0 2 ≤ maxLen := grownCap_le_maxLen w (0 + s) 0 2 (by unfold maxLen; omega)
  generalize grownCap w (0 + s) 0 2 = G at *
  rw [Nat.zero_add] at hrz
  have hg1 : ¬ ((s : Int) < 0) := by omega
  have hg2 : (0 : Int) < s := by omega
  have HZ := hidden (show ((([] : List Value).toArray ++ Builtin.zeroCells (Value.int .i64 0).cells s ++ Builtin.zeroCells (Value.int .i64 0).cells (G - s)) : Array Value).size = G * 1 by
    simp [Builtin.zeroCells, Value.cells]; omega)
  generalize (([] : List Value).toArray ++ Builtin.zeroCells (Value.int .i64 0).cells s ++ Builtin.zeroCells (Value.int .i64 0).cells (G - s) : Array Value) = cs at *
  have HM := hidden hGm
  clear hGm
  go_enter Try.func102, Try.ntmps102
  go_wp2_with (at_builtin; refine Lib.wpList_append_run _ rfl _ _ _ _ rfl _ _ rfl rfl _ _ (hrz _) ?_)
  go_ret
  refine ⟨G, rfl, ?_, (Below.refl _ w).drew.alloc (Nat.le_refl _) _⟩
  exact World.ownsRow_made w.drew cs G (Nat.le_refl _) HM.out HZ.out

/-- A row of three slices of numbers. -/
structure Three (w : World) (b : Nat) (x y z : Value) : Prop where
  blk : b < w.heap.size
  c0 : w.cell? ⟨b, 0, none⟩ = some x
  c1 : w.cell? ⟨b, 1, none⟩ = some y
  c2 : w.cell? ⟨b, 2, none⟩ = some z

theorem Three.new (w : World) (x y z : Value) (t : TypeId) : Three (w.alloc (.cells #[x, y, z] t)) w.heap.size x y z := by
  refine ⟨by simp, ?_, ?_, ?_⟩ <;> simp [go_sem]

theorem Three.keep {w w' : World} {b : Nat} {x y z : Value} (h : Three w b x y z) (hb : Below w.heap.size w w') : Three w' b x y z :=
  ⟨Nat.lt_of_lt_of_le h.blk hb.size, by rw [hb.cell (p := ⟨b, 0, none⟩) h.blk]; exact h.c0, by rw [hb.cell (p := ⟨b, 1, none⟩) h.blk]; exact h.c1, by rw [hb.cell (p := ⟨b, 2, none⟩) h.blk]; exact h.c2⟩

theorem row_open {w w1 : World} {B : Nat} {v' : Value} {xs : List Value} {k : Nat} (h : w1.ownsRow B 2 1 v' k xs) (hnil : ¬ v' = .slice none 0 0) (hb : Below B w w1) : ∃ g d, v' = .slice (some ⟨g, 0, none⟩) k d ∧ B ≤ g ∧ w1.ownsRow B 2 1 (.slice (some ⟨g, 0, none⟩) k d) k xs ∧ Below B w w1 := by
  rcases h.2 with ⟨hv, _⟩ | ⟨g, d, cur, hv, hg, _⟩
  · exact absurd hv hnil
  · subst hv; exact ⟨g, d, rfl, hg, h, hb⟩

set_option maxRecDepth 20000 in
set_option maxHeartbeats 3200000 in
theorem concat_any (B b1 o1 q c1 b2 o2 k c2 b3 o3 r c3 : Nat) (L M R : Nat → Int) (w : World) (h0 : Three w B (.slice (some ⟨b1, o1, none⟩) q c1) (.slice (some ⟨b2, o2, none⟩) k c2) (.slice (some ⟨b3, o3, none⟩) r c3))
    (h1 : Ints w b1 o1 q L) (h2 : Ints w b2 o2 k M) (h3 : Ints w b3 o3 r R) (hq : q ≤ 24) (hk : 1 ≤ k ∧ k ≤ 24) (hr : r ≤ 24) :
    Calls Try.prog 90 #[.slice (some ⟨B, 0, none⟩) 3 3] w fun e w' => ∃ g d, e = .returned (.slice (some ⟨g, 0, none⟩) (q + k + r) d) ∧ w.heap.size ≤ g ∧ w'.ownsRow w.heap.size 2 1 (.slice (some ⟨g, 0, none⟩) (q + k + r) d) (q + k + r) (valsI L q ++ valsI M k ++ valsI R r) ∧ Below w.heap.size w w' := by
  have H0 := hidden h0
  have H1 := hidden h1
  have H2 := hidden h2
  have H3 := hidden h3
  have k0 := h0.c0
  have k1 := h0.c1
  have k2 := h0.c2
  have s1 : ¬ ((q : Int) < 0) := by omega
  have s2 : ¬ ((q : Int) + k < 0) := by omega
  have s3 : ¬ ((q : Int) + k + r < 0) := by omega
  have GC := hidden (grow_any (q + k + r) w (by omega) (by omega))
  rw [show ((q + k + r : Nat) : Int) = (q : Int) + k + r by omega] at GC
  clear h0 h1 h2 h3
  go_enter Try.func90, Try.ntmps90
  go_wp2
  refine wp_loop_rounds 4 ?_
  rw [rounds_succ]
  go_wp2
  rw [rounds_succ]
  go_wp2
  rw [rounds_succ]
  go_wp2
  rw [rounds_succ]
  go_wp2_with fail
  with_reducible refine GC.out.mono ?_
  rintro e w1 ⟨d, rfl, ho, hb⟩
  have T1 := hidden (H0.out.keep hb)
  have I1 := hidden (H1.out.keep hb)
  have I2 := hidden (H2.out.keep hb)
  have I3 := hidden (H3.out.keep hb)
  have O1 := hidden ho
  have B1 := hidden hb
  clear hb ho GC k0 k1 k2
  have t0 := T1.out.c0
  go_wp2_with fail
  refine wp_loop_rounds 4 ?_
  rw [rounds_succ]
  go_wp2_with (at_builtin; refine wpList_append_own _ rfl _ _ 26 rfl w.heap.size 2 _ (.int .i64 0) 1 8 Try.underlying26 rfl rfl rfl rfl rfl (by decide) _ _ _ rfl O1.out ⟨b1, o1, none⟩ q c1 (valsI L q) rfl (by simp [valsI]) I1.out.src0 (intNews _ _) (by unfold maxLen; omega) (by omega) (by have := B1.out.size; omega) ?_)
  intro v' w2 hown hgrow hnil
  obtain ⟨g2, d2, rfl, hg2, ho, hb⟩ := row_open hown (by simpa using hnil) (B1.out.grown hgrow B1.out.size (by intro x hx; simp [Value.ownBlock] at hx; omega))
  have T2 := hidden (H0.out.keep hb)
  have I1 := hidden (H1.out.keep hb)
  have I2 := hidden (H2.out.keep hb)
  have I3 := hidden (H3.out.keep hb)
  have O2 := hidden ho
  have B2 := hidden hb
  clear hown hgrow hnil ho hb t0 T1 O1 B1
  go_wp2
  have t0 := T2.out.c1
  rw [rounds_succ]
  go_wp2_with (at_builtin; refine wpList_append_own _ rfl _ _ 26 rfl w.heap.size 2 _ (.int .i64 0) 1 8 Try.underlying26 rfl rfl rfl rfl rfl (by decide) _ _ _ rfl O2.out ⟨b2, o2, none⟩ k c2 (valsI M k) rfl (by simp [valsI]) I2.out.src0 (intNews _ _) (by unfold maxLen; omega) (by omega) (by have := B2.out.size; omega) ?_)
  intro v' w3 hown hgrow hnil
  obtain ⟨g3, d3, rfl, hg3, ho, hb⟩ := row_open hown (by simpa using hnil) (B2.out.grown hgrow B2.out.size (by intro x hx; simp [Value.ownBlock] at hx; omega))
  have T3 := hidden (H0.out.keep hb)
  have I1 := hidden (H1.out.keep hb)
  have I2 := hidden (H2.out.keep hb)
  have I3 := hidden (H3.out.keep hb)
  have O3 := hidden ho
  have B3 := hidden hb
  clear hown hgrow hnil ho hb t0 T2 O2 B2
  go_wp2
  have t0 := T3.out.c2
  rw [rounds_succ]
  go_wp2_with (at_builtin; refine wpList_append_own _ rfl _ _ 26 rfl w.heap.size 2 _ (.int .i64 0) 1 8 Try.underlying26 rfl rfl rfl rfl rfl (by decide) _ _ _ rfl O3.out ⟨b3, o3, none⟩ r c3 (valsI R r) rfl (by simp [valsI]) I3.out.src0 (intNews _ _) (by unfold maxLen; omega) (by omega) (by have := B3.out.size; omega) ?_)
  intro v' w4 hown hgrow hnil
  obtain ⟨g4, d4, rfl, hg4, ho, hb⟩ := row_open hown (by simpa using hnil) (B3.out.grown hgrow B3.out.size (by intro x hx; simp [Value.ownBlock] at hx; omega))
  have T4 := hidden (H0.out.keep hb)
  have I1 := hidden (H1.out.keep hb)
  have I2 := hidden (H2.out.keep hb)
  have I3 := hidden (H3.out.keep hb)
  have O4 := hidden ho
  have B4 := hidden hb
  clear hown hgrow hnil ho hb t0 T3 O3 B3
  go_wp2
  rw [rounds_succ]
  go_wp2
  go_ret
  have O5 := O4.out
  rw [← List.append_assoc] at O5
  exact ⟨g4, d4, rfl, hg4, O5, B4.out⟩

end Go.Proofs.Ytbdgnpjbmlcchaa
