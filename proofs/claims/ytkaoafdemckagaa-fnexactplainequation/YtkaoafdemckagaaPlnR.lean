/- Contracts: equations as answers: their comparison, their marks. -/
import Derived.Test.YtkaoafdemckagaaPlnT
import Derived.Test.YtkaoafdemckagaaMark
namespace Go.Proofs.Ytkaoafdemckagaa
open Go.RowKit

theorem Three.grown {w w' : World} {b g : Nat} {x y z : Value} (h : Three w b x y z) (hg : w.grownBy w' (some g)) (hne : b ≠ g) : Three w' b x y z := by
  have hb : w'.heap[b]? = w.heap[b]? := hg.block b h.blk (fun e => hne (by cases e; rfl))
  exact ⟨Nat.lt_of_lt_of_le h.blk hg.size, (World.cell?_of_block (a := ⟨b, 0, none⟩) hb).trans h.c0, (World.cell?_of_block (a := ⟨b, 1, none⟩) hb).trans h.c1, (World.cell?_of_block (a := ⟨b, 2, none⟩) hb).trans h.c2⟩

theorem grown_of_alloc {w w1 : World} {o : Obj} {g : Option Nat} (h : (w.alloc o).grownBy w1 g) : w.grownBy w1 g := by
  have a := alloc_below w o
  exact ⟨h.os.trans a.os, h.tape.trans a.tape, h.output.trans a.output, Nat.le_trans a.size h.size, fun k hk hne => (h.block k (Nat.lt_of_lt_of_le hk a.size) hne).trans (a.block k hk)⟩

set_option maxRecDepth 20000 in
set_option maxHeartbeats 400000 in
theorem eqEquation_none (w : World) :
    Calls Try.prog 20 #[.agg #[.slice none 0 0, .slice none 0 0], .agg #[.slice none 0 0, .slice none 0 0]] w fun e w' => e = .returned (.bool true) ∧ Below w.heap.size w w' := by
  have A1 := hidden (alloc_below w (.cells #[.slice none 0 0, .slice none 0 0] 43))
  have X1 := hidden (Two.new w (.slice none 0 0) (.slice none 0 0) 43)
  have A2 := hidden (alloc_below (w.alloc (.cells #[.slice none 0 0, .slice none 0 0] 43)) (.cells #[.slice none 0 0, .slice none 0 0] 43))
  have X2 := hidden (Two.new (w.alloc (.cells #[.slice none 0 0, .slice none 0 0] 43)) (.slice none 0 0) (.slice none 0 0) 43)
  replace X1 := hidden (X1.out.keep A2.out)
  have B := hidden (keepB A1.out A2.out)
  simp only [World.size_alloc] at X2
  go_enter Try.func20, Try.ntmps20
  go_wp2_with fail
  with_reducible refine (eqInt64S_none _).mono ?_
  rintro e w1 ⟨rfl, hb⟩
  subst hb
  have x1 := X1.out.c1
  have x2 := X2.out.c1
  go_wp2_with fail
  with_reducible refine (eqInt64S_none _).mono ?_
  rintro e w2 ⟨rfl, hb⟩
  subst hb
  go_wp2
  go_ret
  exact ⟨rfl, B.out⟩

set_option maxRecDepth 20000 in
set_option maxHeartbeats 800000 in
theorem eqEqR_eq (g1 m1 d1 g2 m2 d2 g3 d3 g4 d4 : Nat) (U1 U2 : Nat → Int) (w : World) (h1 : Ints w g1 0 m1 U1) (h2 : Ints w g2 0 m2 U2) (h3 : Ints w g3 0 m1 U1) (h4 : Ints w g4 0 m2 U2) (hm1 : m1 ≤ 1048576) (hm2 : m2 ≤ 1048576) :
    Calls Try.prog 25 #[.agg #[.int .i64 0, .slice (some ⟨g1, 0, none⟩) m1 d1, .slice (some ⟨g2, 0, none⟩) m2 d2], .agg #[.int .i64 0, .slice (some ⟨g3, 0, none⟩) m1 d3, .slice (some ⟨g4, 0, none⟩) m2 d4]] w fun e w' => e = .returned (.bool true) ∧ Below w.heap.size w w' := by
  have A1 := hidden (alloc_below w (.cells #[.int .i64 0, .slice (some ⟨g1, 0, none⟩) m1 d1, .slice (some ⟨g2, 0, none⟩) m2 d2] 49))
  have A2 := hidden (alloc_below (w.alloc (.cells #[.int .i64 0, .slice (some ⟨g1, 0, none⟩) m1 d1, .slice (some ⟨g2, 0, none⟩) m2 d2] 49)) (.cells #[.int .i64 0, .slice (some ⟨g3, 0, none⟩) m1 d3, .slice (some ⟨g4, 0, none⟩) m2 d4] 49))
  have B := hidden (keepB A1.out A2.out)
  have H1 := hidden (h1.keep B.out)
  have H2 := hidden (h2.keep B.out)
  have H3 := hidden (h3.keep B.out)
  have H4 := hidden (h4.keep B.out)
  clear h1 h2 h3 h4 A1 A2
  go_enter Try.func25, Try.ntmps25
  go_wp2_with fail
  with_reducible refine (eqEquation_eq _ _ _ _ _ _ _ _ _ _ _ _ _ _ U1 U2 _ H1.out H2.out H3.out H4.out hm1 hm2).mono ?_
  rintro e w1 ⟨rfl, hb⟩
  replace B := hidden (keepB B.out hb)
  clear hb
  go_wp2
  go_ret
  exact ⟨rfl, B.out⟩

set_option maxRecDepth 20000 in
set_option maxHeartbeats 800000 in
theorem eqEqR_none (C : Int) (w : World) :
    Calls Try.prog 25 #[.agg #[.int .i64 C, .slice none 0 0, .slice none 0 0], .agg #[.int .i64 C, .slice none 0 0, .slice none 0 0]] w fun e w' => e = .returned (.bool true) ∧ Below w.heap.size w w' := by
  have A1 := hidden (alloc_below w (.cells #[.int .i64 C, .slice none 0 0, .slice none 0 0] 49))
  have A2 := hidden (alloc_below (w.alloc (.cells #[.int .i64 C, .slice none 0 0, .slice none 0 0] 49)) (.cells #[.int .i64 C, .slice none 0 0, .slice none 0 0] 49))
  have B := hidden (keepB A1.out A2.out)
  have hcc : (C != C) = false := by simp
  clear A1 A2
  go_enter Try.func25, Try.ntmps25
  go_wp2_with fail
  with_reducible refine (eqEquation_none _).mono ?_
  rintro e w1 ⟨rfl, hb⟩
  replace B := hidden (keepB B.out hb)
  clear hb
  go_wp2
  go_ret
  exact ⟨rfl, B.out⟩

set_option maxRecDepth 20000 in
set_option maxHeartbeats 800000 in
theorem markEq_any (B1 B2 g1 m1 d1 g2 m2 d2 k : Nat) (U1 U2 : Nat → Int) (w : World) (h1 : OwnI w B1 g1 m1 d1 U1 m1) (h2 : OwnI w B2 g2 m2 d2 U2 m2) (hne : g1 < g2) (hm1 : m1 ≤ 1048576) (hm2 : m2 ≤ 1048576) (hk : k ≤ 1000000000) :
    Calls Try.prog 27 #[.agg #[.slice (some ⟨g1, 0, none⟩) m1 d1, .slice (some ⟨g2, 0, none⟩) m2 d2], .int .i64 (k : Int)] w fun e w' => e = .returned (.int .i64 ((k : Int) + m1 + m2)) ∧ OwnI w' B1 g1 m1 d1 (mkI k) m1 ∧ OwnI w' B2 g2 m2 d2 (mkI (k + m1)) m2 ∧ ∃ wm, w.grownBy wm (some g1) ∧ wm.grownBy w' (some g2) := by
  have A1 := hidden (alloc_below w (.cells #[.slice (some ⟨g1, 0, none⟩) m1 d1, .slice (some ⟨g2, 0, none⟩) m2 d2] 43))
  have X := hidden (Two.new w (.slice (some ⟨g1, 0, none⟩) m1 d1) (.slice (some ⟨g2, 0, none⟩) m2 d2) 43)
  have H1 := hidden (h1.keep A1.out)
  have H2 := hidden (h2.keep A1.out)
  have L1 := hidden h1.lt
  have L2 := hidden h2.lt
  clear h1 h2
  go_enter Try.func27, Try.ntmps27
  go_wp2_with fail
  with_reducible refine (markInt64S_any _ _ _ _ k _ _ H1.out hm1 (by omega)).mono ?_
  rintro e w1 ⟨rfl, ho, hg⟩
  replace X := hidden (X.out.grown hg (by have := L1.out; omega))
  replace H2 := hidden (H2.out.grown hg (by omega))
  have O1 := hidden ho
  have G1 := hidden (grown_of_alloc hg)
  clear ho hg H1
  have x1 := X.out.c1
  have MC2 := hidden (markInt64S_any B2 g2 m2 d2 (k + m1) U2 w1 H2.out hm2 (by omega))
  rw [show ((k + m1 : Nat) : Int) = (k : Int) + m1 by omega] at MC2
  go_wp2_with fail
  with_reducible refine MC2.out.mono ?_
  rintro e w2 ⟨rfl, ho, hg⟩
  replace O1 := hidden (O1.out.grown hg (by omega))
  have O2 := hidden ho
  have G2 := hidden hg
  clear ho hg x1 MC2
  go_wp2
  go_ret
  exact ⟨by first | rfl | (congr 2; omega), O1.out, O2.out, w1, G1.out, G2.out⟩

set_option maxRecDepth 20000 in
set_option maxHeartbeats 800000 in
theorem markEqR_any (B1 B2 g1 m1 d1 g2 m2 d2 : Nat) (U1 U2 : Nat → Int) (w : World) (h1 : OwnI w B1 g1 m1 d1 U1 m1) (h2 : OwnI w B2 g2 m2 d2 U2 m2) (hne : g1 < g2) (hm1 : m1 ≤ 1048576) (hm2 : m2 ≤ 1048576) :
    Calls Try.prog 28 #[.agg #[.int .i64 0, .slice (some ⟨g1, 0, none⟩) m1 d1, .slice (some ⟨g2, 0, none⟩) m2 d2], .int .i64 1] w fun e w' => e = .returned (.int .i64 (1 + (m1 : Int) + m2)) ∧ OwnI w' B1 g1 m1 d1 (mkI 1) m1 ∧ OwnI w' B2 g2 m2 d2 (mkI (1 + m1)) m2 ∧ ∃ wm, w.grownBy wm (some g1) ∧ wm.grownBy w' (some g2) := by
  have A1 := hidden (alloc_below w (.cells #[.int .i64 0, .slice (some ⟨g1, 0, none⟩) m1 d1, .slice (some ⟨g2, 0, none⟩) m2 d2] 49))
  have H1 := hidden (h1.keep A1.out)
  have H2 := hidden (h2.keep A1.out)
  clear h1 h2
  have MC := hidden (markEq_any B1 B2 g1 m1 d1 g2 m2 d2 1 U1 U2 _ H1.out H2.out hne hm1 hm2 (by omega))
  go_enter Try.func28, Try.ntmps28
  go_wp2_with fail
  refine MC.out.mono ?_
  rintro e w1 ⟨rfl, o1, o2, wm, ga, gb⟩
  have O1 := hidden o1
  have O2 := hidden o2
  have G1 := hidden (grown_of_alloc ga)
  have G2 := hidden gb
  clear o1 o2 ga gb MC
  go_wp2
  go_ret
  exact ⟨by first | rfl | (congr 2; omega), O1.out, O2.out, wm, G1.out, G2.out⟩

set_option maxRecDepth 20000 in
set_option maxHeartbeats 800000 in
theorem heldEq_any (g1 m1 d1 g2 m2 d2 k : Nat) (w : World) (h1 : Ints w g1 0 m1 (mkI k)) (h2 : Ints w g2 0 m2 (mkI (k + m1))) (hm1 : m1 ≤ 1048576) (hm2 : m2 ≤ 1048576) (hk : k ≤ 1000000000) :
    Calls Try.prog 57 #[.agg #[.slice (some ⟨g1, 0, none⟩) m1 d1, .slice (some ⟨g2, 0, none⟩) m2 d2], .int .i64 (k : Int)] w fun e w' => e = .returned (.int .i64 ((k : Int) + m1 + m2)) ∧ Below w.heap.size w w' := by
  have B := hidden (alloc_below w (.cells #[.slice (some ⟨g1, 0, none⟩) m1 d1, .slice (some ⟨g2, 0, none⟩) m2 d2] 43))
  have X := hidden (Two.new w (.slice (some ⟨g1, 0, none⟩) m1 d1) (.slice (some ⟨g2, 0, none⟩) m2 d2) 43)
  have H1 := hidden (h1.keep B.out)
  have H2 := hidden (h2.keep B.out)
  clear h1 h2
  go_enter Try.func57, Try.ntmps57
  go_wp2_with fail
  with_reducible refine (heldInt64S_any _ _ _ _ _ H1.out hm1 (by omega)).mono ?_
  rintro e w1 ⟨rfl, hb⟩
  replace X := hidden (X.out.keep hb)
  replace H2 := hidden (H2.out.keep hb)
  replace B := hidden (keepB B.out hb)
  clear hb
  have x1 := X.out.c1
  have z1 : ¬ ((k : Int) + m1 < 0) := by omega
  have MC2 := hidden (heldInt64S_any g2 m2 d2 (k + m1) w1 H2.out hm2 (by omega))
  rw [show ((k + m1 : Nat) : Int) = (k : Int) + m1 by omega] at MC2
  go_wp2_with fail
  with_reducible refine MC2.out.mono ?_
  rintro e w2 ⟨rfl, hb⟩
  replace B := hidden (keepB B.out hb)
  clear hb x1 MC2
  have z2 : ¬ ((k : Int) + m1 + m2 < 0) := by omega
  go_wp2
  go_ret
  exact ⟨by first | rfl | (congr 2; omega), B.out⟩

set_option maxRecDepth 20000 in
set_option maxHeartbeats 800000 in
theorem heldEqR_any (g1 m1 d1 g2 m2 d2 : Nat) (w : World) (h1 : Ints w g1 0 m1 (mkI 1)) (h2 : Ints w g2 0 m2 (mkI (1 + m1))) (hm1 : m1 ≤ 1048576) (hm2 : m2 ≤ 1048576) :
    Calls Try.prog 29 #[.agg #[.int .i64 0, .slice (some ⟨g1, 0, none⟩) m1 d1, .slice (some ⟨g2, 0, none⟩) m2 d2], .int .i64 1] w fun e w' => e = .returned (.int .i64 (1 + (m1 : Int) + m2)) ∧ Below w.heap.size w w' := by
  have B := hidden (alloc_below w (.cells #[.int .i64 0, .slice (some ⟨g1, 0, none⟩) m1 d1, .slice (some ⟨g2, 0, none⟩) m2 d2] 49))
  have HC := hidden (heldEq_any g1 m1 d1 g2 m2 d2 1 _ (h1.keep B.out) (h2.keep B.out) hm1 hm2 (by omega))
  clear h1 h2
  go_enter Try.func29, Try.ntmps29
  go_wp2_with fail
  refine HC.out.mono ?_
  rintro e w1 ⟨rfl, hb⟩
  replace B := hidden (keepB B.out hb)
  clear hb HC
  have z2 : ¬ (1 + (m1 : Int) + m2 < 0) := by omega
  go_wp2
  go_ret
  exact ⟨by first | rfl | (congr 2; omega), B.out⟩

theorem Own3.sets {w : World} {b : Nat} {x y z : Value} (h : Own3 w b x y z) (x' y' z' : Value) : Three (((w.setCell ⟨b, 0, none⟩ x').setCell ⟨b, 1, none⟩ y').setCell ⟨b, 2, none⟩ z') b x' y' z' := by
  refine ⟨by simpa using h.blk, ?_, ?_, ?_⟩
  · rw [World.cell?_setCell_other _ _ _ _ (by simp), World.cell?_setCell_other _ _ _ _ (by simp)]; exact World.cell?_setCell_same _ _ _ h.c0
  · rw [World.cell?_setCell_other _ _ _ _ (by simp)]
    exact World.cell?_setCell_same _ _ _ (by rw [World.cell?_setCell_other _ _ _ _ (by simp)]; exact h.c1)
  · exact World.cell?_setCell_same _ _ _ (by rw [World.cell?_setCell_other _ _ _ _ (by simp), World.cell?_setCell_other _ _ _ _ (by simp)]; exact h.c2)

theorem OwnI.other3 {w : World} {B g n c : Nat} {L : Nat → Int} {k : Nat} (h : OwnI w B g n c L k) (b : Nat) (x y z : Value) (hne : g ≠ b) : OwnI (((w.setCell ⟨b, 0, none⟩ x).setCell ⟨b, 1, none⟩ y).setCell ⟨b, 2, none⟩ z) B g n c L k :=
  ((h.other _ _ hne).other _ _ hne).other _ _ hne

theorem markEq_z (B1 B2 g1 m1 d1 g2 m2 d2 : Nat) (z : Int) (U1 U2 : Nat → Int) (w : World) (h1 : OwnI w B1 g1 m1 d1 U1 m1) (h2 : OwnI w B2 g2 m2 d2 U2 m2) (hne : g1 < g2) (hm1 : m1 ≤ 1048576) (hm2 : m2 ≤ 1048576) (hz0 : 0 ≤ z) (hz : z ≤ 1000000000) :
    Calls Try.prog 27 #[.agg #[.slice (some ⟨g1, 0, none⟩) m1 d1, .slice (some ⟨g2, 0, none⟩) m2 d2], .int .i64 z] w fun e w' => e = .returned (.int .i64 (z + m1 + m2)) ∧ ∃ wm, w.grownBy wm (some g1) ∧ wm.grownBy w' (some g2) := by
  obtain ⟨k, rfl⟩ := Int.eq_ofNat_of_zero_le hz0
  refine (markEq_any B1 B2 g1 m1 d1 g2 m2 d2 k U1 U2 w h1 h2 hne hm1 hm2 (by omega)).mono ?_
  rintro e w' ⟨rfl, _, _, wm, ga, gb⟩
  exact ⟨rfl, wm, ga, gb⟩

set_option maxRecDepth 20000 in
set_option maxHeartbeats 800000 in
theorem markEq_none (w : World) :
    Calls Try.prog 27 #[.agg #[.slice none 0 0, .slice none 0 0], .int .i64 1] w fun e w' => e = .returned (.int .i64 1) ∧ Below w.heap.size w w' := by
  have B := hidden (alloc_below w (.cells #[.slice none 0 0, .slice none 0 0] 43))
  have MC := fun w => markInt64S_none 1 w
  go_enter Try.func27, Try.ntmps27
  go_wp2_with fail
  refine (MC _).mono ?_
  rintro e w1 ⟨rfl, rfl⟩
  go_wp2_with fail
  refine (MC _).mono ?_
  rintro e w2 ⟨rfl, rfl⟩
  go_wp2
  go_ret
  exact ⟨rfl, B.out⟩

set_option maxRecDepth 20000 in
set_option maxHeartbeats 800000 in
theorem markEqR_none (C : Int) (w : World) :
    Calls Try.prog 28 #[.agg #[.int .i64 C, .slice none 0 0, .slice none 0 0], .int .i64 1] w fun e w' => e = .returned (.int .i64 1) ∧ Below w.heap.size w w' := by
  have B := hidden (alloc_below w (.cells #[.int .i64 C, .slice none 0 0, .slice none 0 0] 49))
  go_enter Try.func28, Try.ntmps28
  go_wp2_with fail
  with_reducible refine (markEq_none _).mono ?_
  rintro e w1 ⟨rfl, hb⟩
  replace B := hidden (keepB B.out hb)
  clear hb
  go_wp2
  go_ret
  exact ⟨rfl, B.out⟩

set_option maxRecDepth 20000 in
set_option maxHeartbeats 800000 in
theorem heldEq_none (w : World) :
    Calls Try.prog 57 #[.agg #[.slice none 0 0, .slice none 0 0], .int .i64 1] w fun e w' => e = .returned (.int .i64 1) ∧ Below w.heap.size w w' := by
  have B := hidden (alloc_below w (.cells #[.slice none 0 0, .slice none 0 0] 43))
  have MC := fun w => heldInt64S_none 1 w
  go_enter Try.func57, Try.ntmps57
  go_wp2_with fail
  refine (MC _).mono ?_
  rintro e w1 ⟨rfl, rfl⟩
  go_wp2_with fail
  refine (MC _).mono ?_
  rintro e w2 ⟨rfl, rfl⟩
  go_wp2
  go_ret
  exact ⟨rfl, B.out⟩

set_option maxRecDepth 20000 in
set_option maxHeartbeats 800000 in
theorem heldEqR_none (C : Int) (w : World) :
    Calls Try.prog 29 #[.agg #[.int .i64 C, .slice none 0 0, .slice none 0 0], .int .i64 1] w fun e w' => e = .returned (.int .i64 1) ∧ Below w.heap.size w w' := by
  have B := hidden (alloc_below w (.cells #[.int .i64 C, .slice none 0 0, .slice none 0 0] 49))
  go_enter Try.func29, Try.ntmps29
  go_wp2_with fail
  with_reducible refine (heldEq_none _).mono ?_
  rintro e w1 ⟨rfl, hb⟩
  replace B := hidden (keepB B.out hb)
  clear hb
  go_wp2
  go_ret
  exact ⟨rfl, B.out⟩

end Go.Proofs.Ytkaoafdemckagaa
