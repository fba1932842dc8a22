/- Contracts: answers that hold two terms: compared, marked, looked at again. -/
import Derived.Test.YtcnkkoegfjggaaaTermRes
namespace Go.Proofs.Ytcnkkoegfjggaaa
open Go.RowKit

/-- A block of three cells in memory. -/
structure Three (w : World) (b : Nat) (x y z : Value) : Prop where
  blk : b < w.heap.size
  c0 : w.cell? ⟨b, 0, none⟩ = some x
  c1 : w.cell? ⟨b, 1, none⟩ = some y
  c2 : w.cell? ⟨b, 2, none⟩ = some z

theorem Three.new (w : World) (x y z : Value) (t : TypeId) : Three (w.alloc (.cells #[x, y, z] t)) w.heap.size x y z := by
  refine ⟨by simp, ?_, ?_, ?_⟩ <;> simp [go_sem]

theorem Three.keep {w w' : World} {b : Nat} {x y z : Value} (h : Three w b x y z) (hb : Below w.heap.size w w') : Three w' b x y z :=
  ⟨Nat.lt_of_lt_of_le h.blk hb.size, by rw [(bcell hb).1 _ _ h.blk]; exact h.c0, by rw [(bcell hb).1 _ _ h.blk]; exact h.c1, by rw [(bcell hb).1 _ _ h.blk]; exact h.c2⟩

theorem Three.grown {w w' : World} {b g : Nat} {x y z : Value} (h : Three w b x y z) (hg : w.grownBy w' (some g)) (hne : b ≠ g) : Three w' b x y z :=
  ⟨Nat.lt_of_lt_of_le h.blk hg.size, hg.cell h.c0 (by simpa using hne), hg.cell h.c1 (by simpa using hne), hg.cell h.c2 (by simpa using hne)⟩

/-- An answer that holds two lists: a code and nothing, or 0 and two lists of its own. -/
def KeyAns (w : World) (C : Int) (K1 : Nat) (U1 : Nat → Int) (K2 : Nat) (U2 : Nat → Int) (e : Ending) (w' : World) : Prop :=
  (C ≠ 0 ∧ e = .returned (.agg #[.int .i64 C, .slice none 0 0, .slice none 0 0])) ∨
  (C = 0 ∧ ∃ g1 d1 g2 d2, e = .returned (.agg #[.int .i64 0, .slice (some ⟨g1, 0, none⟩) K1 d1, .slice (some ⟨g2, 0, none⟩) K2 d2]) ∧ w.heap.size ≤ g1 ∧ g1 < g2 ∧ OwnI w' w.heap.size g1 K1 d1 U1 K1 ∧ OwnI w' w.heap.size g2 K2 d2 U2 K2)

set_option maxRecDepth 20000 in
set_option maxHeartbeats 800000 in
theorem eqKey_eq (z : Int) (b1 b1' n1 c1 c1' b2 b2' n2 c2 c2' : Nat) (L1 L2 : Nat → Int) (w : World) (h1 : Ints w b1 0 n1 L1) (h1' : Ints w b1' 0 n1 L1) (h2 : Ints w b2 0 n2 L2) (h2' : Ints w b2' 0 n2 L2) (hn1 : n1 ≤ 1048576) (hn2 : n2 ≤ 1048576) :
    Calls Try.prog 26 #[.agg #[.int .i64 z, .slice (some ⟨b1, 0, none⟩) n1 c1, .slice (some ⟨b2, 0, none⟩) n2 c2], .agg #[.int .i64 z, .slice (some ⟨b1', 0, none⟩) n1 c1', .slice (some ⟨b2', 0, none⟩) n2 c2']] w fun e w' => e = .returned (.bool true) ∧ Below w.heap.size w w' := by
  have A1 := hidden (alloc_below w (.cells #[.int .i64 z, .slice (some ⟨b1, 0, none⟩) n1 c1, .slice (some ⟨b2, 0, none⟩) n2 c2] 49))
  have X1 := hidden (Three.new w (.int .i64 z) (.slice (some ⟨b1, 0, none⟩) n1 c1) (.slice (some ⟨b2, 0, none⟩) n2 c2) 49)
  have A2 := hidden (alloc_below (w.alloc (.cells #[.int .i64 z, .slice (some ⟨b1, 0, none⟩) n1 c1, .slice (some ⟨b2, 0, none⟩) n2 c2] 49)) (.cells #[.int .i64 z, .slice (some ⟨b1', 0, none⟩) n1 c1', .slice (some ⟨b2', 0, none⟩) n2 c2'] 49))
  have X2 := hidden (Three.new (w.alloc (.cells #[.int .i64 z, .slice (some ⟨b1, 0, none⟩) n1 c1, .slice (some ⟨b2, 0, none⟩) n2 c2] 49)) (.int .i64 z) (.slice (some ⟨b1', 0, none⟩) n1 c1') (.slice (some ⟨b2', 0, none⟩) n2 c2') 49)
  replace X1 := hidden (X1.out.keep A2.out)
  have B := hidden (keepB A1.out A2.out)
  have H1 := hidden (h1.keep B.out)
  have H2 := hidden (h2.keep B.out)
  have H3 := hidden (h1'.keep B.out)
  have H4 := hidden (h2'.keep B.out)
  clear h1 h2 h1' h2'
  go_enter Try.func26, Try.ntmps26
  go_wp2_with fail
  with_reducible refine (eqInt64S_eq _ _ _ _ _ _ _ L1 _ H1.out H3.out hn1).mono ?_
  rintro e w1 ⟨rfl, hb⟩
  replace B := hidden (keepB B.out hb)
  replace H2 := hidden (H2.out.keep hb)
  replace H4 := hidden (H4.out.keep hb)
  replace X1 := hidden (X1.out.keep hb)
  replace X2 := hidden (X2.out.keep hb)
  clear hb H1 H3
  have x1 := X1.out.c2
  have x2 := X2.out.c2
  simp only [World.size_alloc] at x1 x2
  go_wp2_with fail
  with_reducible refine (eqInt64S_eq _ _ _ _ _ _ _ L2 _ H2.out H4.out hn2).mono ?_
  rintro e w2 ⟨rfl, hb⟩
  replace B := hidden (keepB B.out hb)
  clear hb
  go_wp2
  go_ret
  exact ⟨rfl, B.out⟩

set_option maxRecDepth 20000 in
set_option maxHeartbeats 800000 in
theorem eqKey_none (z : Int) (w : World) :
    Calls Try.prog 26 #[.agg #[.int .i64 z, .slice none 0 0, .slice none 0 0], .agg #[.int .i64 z, .slice none 0 0, .slice none 0 0]] w fun e w' => e = .returned (.bool true) ∧ Below w.heap.size w w' := by
  go_enter Try.func26, Try.ntmps26
  go_wp2_with fail
  refine (eqInt64S_none _).mono ?_
  rintro e w' ⟨rfl, rfl⟩
  go_wp2_with fail
  refine (eqInt64S_none _).mono ?_
  rintro e w' ⟨rfl, rfl⟩
  go_wp2
  go_ret
  exact ⟨rfl, keepB (alloc_below w _) (alloc_below _ _)⟩

set_option maxRecDepth 20000 in
set_option maxHeartbeats 800000 in
theorem markKey_z (y : Int) (B1 g1 K1 d1 : Nat) (U1 : Nat → Int) (B2 g2 K2 d2 : Nat) (U2 : Nat → Int) (w : World) (h1 : OwnI w B1 g1 K1 d1 U1 K1) (h2 : OwnI w B2 g2 K2 d2 U2 K2) (hlt : g1 < g2) (hn1 : K1 ≤ 1048576) (hn2 : K2 ≤ 1048576) :
    Calls Try.prog 27 #[.agg #[.int .i64 y, .slice (some ⟨g1, 0, none⟩) K1 d1, .slice (some ⟨g2, 0, none⟩) K2 d2], .int .i64 1] w fun e w' => e = .returned (.int .i64 (1 + K1 + K2)) ∧ ∃ wm, w.grownBy wm (some g1) ∧ wm.grownBy w' (some g2) ∧ OwnI w' B1 g1 K1 d1 (mkI 1) K1 ∧ OwnI w' B2 g2 K2 d2 (mkI (1 + K1)) K2 := by
  have A := hidden (alloc_below w (.cells #[.int .i64 y, .slice (some ⟨g1, 0, none⟩) K1 d1, .slice (some ⟨g2, 0, none⟩) K2 d2] 49))
  have X := hidden (Three.new w (.int .i64 y) (.slice (some ⟨g1, 0, none⟩) K1 d1) (.slice (some ⟨g2, 0, none⟩) K2 d2) 49)
  have L2 := hidden h2.lt
  have L1 := hidden h1.lt
  have H1 := hidden (h1.keep A.out)
  have H2 := hidden (h2.keep A.out)
  have GA := hidden (World.grownBy_alloc w (.cells #[.int .i64 y, .slice (some ⟨g1, 0, none⟩) K1 d1, .slice (some ⟨g2, 0, none⟩) K2 d2] 49) (some g1))
  clear h1 h2
  go_enter Try.func27, Try.ntmps27
  go_wp2_with fail
  with_reducible refine (markInt64S_z _ _ _ _ 1 U1 _ H1.out hn1 (by omega) (by omega)).mono ?_
  rintro e w1 ⟨rfl, ho, hg⟩
  have G1 := hidden (grownBy_trans GA.out hg)
  have O1 := hidden ho
  have x2 := (X.out.grown hg (by have := L1.out; omega)).c2
  replace H2 := hidden (H2.out.grown hg (by omega))
  clear ho hg H1 GA
  go_wp2_with fail
  with_reducible refine (markInt64S_z _ _ _ _ (1 + K1) U2 _ H2.out hn2 (by omega) (by omega)).mono ?_
  rintro e w2 ⟨rfl, ho, hg⟩
  have G2 := hidden hg
  have O2 := hidden ho
  replace O1 := hidden (O1.out.grown hg (by omega))
  clear ho hg H2 x2
  go_wp2
  go_ret
  exact ⟨rfl, w1, G1.out, G2.out, O1.out, by have := O2.out; rwa [show ((1 : Int) + K1).toNat = 1 + K1 by omega] at this⟩

set_option maxRecDepth 20000 in
set_option maxHeartbeats 800000 in
theorem markKey_none (y : Int) (w : World) :
    Calls Try.prog 27 #[.agg #[.int .i64 y, .slice none 0 0, .slice none 0 0], .int .i64 1] w fun e w' => e = .returned (.int .i64 1) ∧ Below w.heap.size w w' := by
  go_enter Try.func27, Try.ntmps27
  go_wp2_with fail
  refine (markInt64S_none 1 _).mono ?_
  rintro e w1 ⟨rfl, rfl⟩
  go_wp2_with fail
  refine (markInt64S_none 1 _).mono ?_
  rintro e w1 ⟨rfl, rfl⟩
  go_wp2
  go_ret
  exact ⟨rfl, alloc_below w _⟩

set_option maxRecDepth 20000 in
set_option maxHeartbeats 800000 in
theorem heldKey_z (y : Int) (g1 K1 d1 g2 K2 d2 : Nat) (w : World) (h1 : Ints w g1 0 K1 (mkI 1)) (h2 : Ints w g2 0 K2 (mkI (1 + K1))) (hn1 : K1 ≤ 1048576) (hn2 : K2 ≤ 1048576) :
    Calls Try.prog 28 #[.agg #[.int .i64 y, .slice (some ⟨g1, 0, none⟩) K1 d1, .slice (some ⟨g2, 0, none⟩) K2 d2], .int .i64 1] w fun e w' => e = .returned (.int .i64 (1 + K1 + K2)) ∧ Below w.heap.size w w' := by
  have A := hidden (alloc_below w (.cells #[.int .i64 y, .slice (some ⟨g1, 0, none⟩) K1 d1, .slice (some ⟨g2, 0, none⟩) K2 d2] 49))
  have X := hidden (Three.new w (.int .i64 y) (.slice (some ⟨g1, 0, none⟩) K1 d1) (.slice (some ⟨g2, 0, none⟩) K2 d2) 49)
  have H1 := hidden (h1.keep A.out)
  have H2 := hidden (h2.keep A.out)
  clear h1 h2
  have C1 := hidden (fun w (h : Ints w g1 0 K1 (mkI 1)) => heldInt64S_any g1 K1 d1 1 w h hn1 (by omega))
  have C2 := hidden (fun w (h : Ints w g2 0 K2 (mkI (1 + K1))) => heldInt64S_any g2 K2 d2 (1 + K1) w h hn2 (by omega))
  go_enter Try.func28, Try.ntmps28
  go_wp2_with fail
  refine (C1.out _ H1.out).mono ?_
  rintro e w1 ⟨rfl, hb⟩
  replace A := hidden (keepB A.out hb)
  replace H2 := hidden (H2.out.keep hb)
  have x2 := (X.out.keep hb).c2
  clear hb H1 X
  have hz : ¬ ((1 + K1 : Nat) : Int) < 0 := by omega
  generalize hq : ((1 + K1 : Nat) : Int) = q at hz ⊢
  have HQ := hidden hq
  go_wp2_with fail
  rw [← HQ.out]
  refine (C2.out _ H2.out).mono ?_
  rintro e w2 ⟨rfl, hb⟩
  replace A := hidden (keepB A.out hb)
  clear hb H2 x2
  have hz2 : ¬ ((1 + K1 + K2 : Nat) : Int) < 0 := by omega
  have HR := hidden (show ((1 + K1 + K2 : Nat) : Int) = 1 + K1 + K2 by omega)
  generalize ((1 + K1 + K2 : Nat) : Int) = r at hz2 HR ⊢
  clear hq
  go_wp2
  go_ret
  exact ⟨by rw [← HR.out]; rfl, A.out⟩

set_option maxRecDepth 20000 in
set_option maxHeartbeats 800000 in
theorem heldKey_none (y : Int) (w : World) :
    Calls Try.prog 28 #[.agg #[.int .i64 y, .slice none 0 0, .slice none 0 0], .int .i64 1] w fun e w' => e = .returned (.int .i64 1) ∧ Below w.heap.size w w' := by
  go_enter Try.func28, Try.ntmps28
  go_wp2_with fail
  refine (heldInt64S_none 1 _).mono ?_
  rintro e w1 ⟨rfl, rfl⟩
  go_wp2_with fail
  refine (heldInt64S_none 1 _).mono ?_
  rintro e w1 ⟨rfl, rfl⟩
  go_wp2
  go_ret
  exact ⟨rfl, alloc_below w _⟩

end Go.Proofs.Ytcnkkoegfjggaaa
