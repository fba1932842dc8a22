/- Contracts: lists of equations: how great all of them are together, their copies, their marks. -/
import Derived.Test.YtflhfhmhdhokoaaGreatEqsM
namespace Go.Proofs.YtflhfhmhdhokoaaGreat
open Go.RowKit

set_option maxRecDepth 20000 in
set_option maxHeartbeats 400000 in
theorem szInt64S_sum (p : Option Addr) (n c : Nat) (left : Int) (w : World) (hn : n ≤ maxLen) (h0 : 0 ≤ left) (h1 : left ≤ 1048576) :
    Calls Tryz.prog 55 #[.slice p n c, .int .i64 left] w fun e w' => (∃ r, e = .returned (.int .i64 r) ∧ (r = -1 ∨ (0 ≤ r ∧ r + n ≤ left ∧ n ≤ 1048576))) ∧ Below w.heap.size w w' := by
  unfold maxLen at hn
  go_enter Tryz.func55, Tryz.ntmps55
  by_cases h : left < n
  · go_wp2
    go_ret
    exact ⟨⟨_, rfl, Or.inl rfl⟩, Below.refl _ _⟩
  · go_wp2
    go_ret
    exact ⟨⟨_, rfl, Or.inr ⟨by omega, by omega, by omega⟩⟩, Below.refl _ _⟩

set_option maxRecDepth 20000 in
set_option maxHeartbeats 400000 in
theorem szEquation_sum (p1 : Option Addr) (m1 c1 : Nat) (p2 : Option Addr) (m2 c2 : Nat) (left : Int) (w : World) (hn1 : m1 ≤ maxLen) (hn2 : m2 ≤ maxLen) (h0 : 0 ≤ left) (h1 : left ≤ 1048576) :
    Calls Tryz.prog 30 #[.agg #[.slice p1 m1 c1, .slice p2 m2 c2], .int .i64 left] w fun e w' => (∃ r, e = .returned (.int .i64 r) ∧ (r = -1 ∨ (0 ≤ r ∧ r + m1 + m2 ≤ left ∧ m1 ≤ 1048576 ∧ m2 ≤ 1048576))) ∧ Below w.heap.size w w' := by
  have D := hidden (Two.new w (.slice p1 m1 c1) (.slice p2 m2 c2) 59)
  have B := hidden (alloc_below w (.cells #[.slice p1 m1 c1, .slice p2 m2 c2] 59))
  go_enter Tryz.func30, Tryz.ntmps30
  go_wp2_with fail
  with_reducible refine (szInt64S_sum _ _ _ _ _ hn1 h0 h1).mono ?_
  rintro e w1 ⟨⟨r1, rfl, hr⟩, hb⟩
  replace D := hidden (D.out.keep hb)
  replace B := hidden (keepB B.out hb)
  clear hb
  rcases hr with rfl | ⟨q0, q1, q2⟩
  · go_wp2
    go_ret
    exact ⟨⟨_, rfl, Or.inl rfl⟩, B.out⟩
  · have d1 := D.out.c1
    go_wp2_with fail
    with_reducible refine (szInt64S_sum _ _ _ _ _ hn2 q0 (by omega)).mono ?_
    rintro e w2 ⟨⟨r2, rfl, hr⟩, hb⟩
    replace B := hidden (keepB B.out hb)
    clear hb d1
    rcases hr with rfl | ⟨s0, s1, s2⟩
    · go_wp2
      go_ret
      exact ⟨⟨_, rfl, Or.inl rfl⟩, B.out⟩
    · go_wp2
      go_ret
      exact ⟨⟨_, rfl, Or.inr ⟨by omega, by omega, q2, s2⟩⟩, B.out⟩

set_option maxRecDepth 20000 in
set_option maxHeartbeats 800000 in
theorem szSumE_any (b off n c : Nat) (D : EqL) (left : Int) (w : World) (h : RowE w b off n D) (h0 : 0 ≤ left) (h1 : left ≤ 1048576) (hn : ¬ left < n) :
    Calls Tryz.prog 7 #[.slice (some ⟨b, off, none⟩) n c, .int .i64 left] w fun e w' => (∃ r, e = .returned (.int .i64 r) ∧ (r = -1 ∨ (0 ≤ r ∧ r + sumM (fl2 D) (n * 2) ≤ left ∧ KeptE n D))) ∧ Below w.heap.size w w' := by
  have HR := hidden h
  clear h
  go_enter Tryz.func7, Tryz.ntmps7
  go_wp2
  go_loopw [1, 5] (fun l i wr => ∃ (k : Nat) (r : Int), k ≤ n ∧ i = .int .i64 k ∧ l = .int .i64 r ∧ 0 ≤ r ∧ r ≤ left ∧ Hid (r + sumM (fl2 D) (k * 2) ≤ left) ∧ Hid (∀ i, i < k → D.m1 i ≤ 1048576 ∧ D.m2 i ≤ 1048576) ∧ Hid (Below w.heap.size w wr)) (fun _ i _ => n - (intOf i).toNat)
  case atStart => exact ⟨0, _, Nat.zero_le _, rfl, rfl, by omega, by omega, hidden (by simp [sumM]; omega), hidden (fun i hi => by omega), hidden (Below.refl _ _)⟩
  case round =>
    obtain ⟨k, r, hk, rfl, rfl, hr0, hr1, HX, HZ, HB⟩ := hrel
    by_cases hlt : k < n
    · obtain ⟨p1, c1, p2, c2, e1, e2, e3, e4, e5, e6⟩ := (HR.out.keep HB.out).row k hlt
      have E5 := hidden e5
      have E6 := hidden e6
      clear e3 e4 e5 e6
      go_wp2_with fail
      with_reducible refine (szEquation_sum _ _ _ _ _ _ _ _ E5.out E6.out hr0 (by omega)).mono ?_
      rintro e w1 ⟨⟨r1, rfl, hr⟩, hb1⟩
      have B1 := hidden (keepB HB.out hb1)
      clear hb1 e1 e2
      rcases hr with rfl | ⟨q0, q1, q2, q3⟩
      · go_wp2
        go_ret
        exact ⟨⟨_, rfl, Or.inl rfl⟩, B1.out⟩
      · have Q := hidden (And.intro q2 q3)
        clear q2 q3
        go_wp2
        go_roundw
        case rel => exact ⟨k + 1, r1, by omega, by go_num, rfl, q0, by omega, hidden (by have := HX.out; rw [show (k + 1) * 2 = k * 2 + 1 + 1 by omega]; simp only [sumM, fl2_m0, fl2_m1]; omega), hidden (fun i hi => by
          by_cases e : i = k
          · rw [e]; exact Q.out
          · exact HZ.out i (by omega)), B1⟩
        case measure => simp [intOf]; omega
    · go_wp2
      go_ret
      exact ⟨⟨_, rfl, Or.inr ⟨hr0, by rw [← show k = n by omega]; exact HX.out, by omega, fun i hi => (HZ.out i (by omega)).1, fun i hi => (HZ.out i (by omega)).2⟩⟩, HB.out⟩

theorem szSumE_src (p : Option Addr) (n c : Nat) (D : EqL) (left : Int) (w : World) (h : SrcE w p n D) (h0 : 0 ≤ left) (h1 : left ≤ 1048576) :
    Calls Tryz.prog 7 #[.slice p n c, .int .i64 left] w fun e w' => (∃ r, e = .returned (.int .i64 r) ∧ (r = -1 ∨ (0 ≤ r ∧ r + sumM (fl2 D) (n * 2) ≤ left ∧ KeptE n D))) ∧ Below w.heap.size w w' := by
  by_cases hn : left < n
  · refine (szEquationS_many p n c left w h.1 h0 h1 hn).mono ?_
    rintro e w' ⟨rfl, hb⟩
    exact ⟨⟨_, rfl, Or.inl rfl⟩, hb⟩
  · rcases h.2 with rfl | ⟨b, off, rfl, hs⟩
    · refine (szEquationS_none p c left w h0 h1).mono ?_
      rintro e w' ⟨rfl, hb⟩
      exact ⟨⟨_, rfl, Or.inr ⟨h0, by simp [sumM], by omega, fun i hi => by omega, fun i hi => by omega⟩⟩, hb⟩
    · exact szSumE_any b off n c D left w hs h0 h1 hn

set_option maxRecDepth 20000 in
set_option maxHeartbeats 400000 in
theorem toEqsR_none (p : Option Addr) (c : Nat) (D : EqL) (w : World) :
    Calls Tryz.prog 10 #[.slice p 0 c] w fun e w' => e = .returned (.slice (some ⟨w.heap.size, 0, none⟩) 0 0) ∧ OwnFR w' w.heap.size w'.heap.size w.heap.size 0 (fl2 D) ∧ Below w.heap.size w w' := by
  obtain ⟨w1, hmk, how, hgr⟩ := makeEqs w 0 (by omega)
  rw [show ((0 : Nat) : Int) = 0 from rfl] at hmk
  have HO := hidden how
  have HG := hidden hgr
  clear how hgr
  go_enter Tryz.func10, Tryz.ntmps10
  go_wp2
  refine wp_loop_rounds 1 ?_
  rw [rounds_succ]
  go_wp2
  go_ret
  exact ⟨rfl, OwnF.between (U := 0) ⟨_, fun _ => 0, HO.out, fun i hi => by omega, fun i j _ hj => by omega⟩, (Below.refl _ _).grown HG.out (Nat.le_refl _) (fun k hk => by cases hk)⟩

theorem toEqs_own (p : Option Addr) (n c : Nat) (D : EqL) (w : World) (h : SrcE w p n D) (hk : KeptE n D) :
    Calls Tryz.prog 10 #[.slice p n c] w fun e w' => ∃ g, e = .returned (.slice (some ⟨g, 0, none⟩) n n) ∧ OwnFR w' w.heap.size w'.heap.size g n (fl2 D) ∧ Below w.heap.size w w' := by
  rcases h.2 with rfl | ⟨b, off, rfl, hs⟩
  · refine (toEqsR_none p c D w).mono ?_
    rintro e w' ⟨rfl, ho, hb⟩
    exact ⟨_, rfl, ho, hb⟩
  · refine (toEqsR_any b off n c D w hs hk).mono ?_
    rintro e w' ⟨rfl, ho, hb⟩
    exact ⟨_, rfl, ho, hb⟩

theorem kept_fl2 {n : Nat} {D : EqL} (h : KeptE n D) : ∀ e, e < n * 2 → (fl2 D).m e ≤ 1048576 := fun e he => by
  simp only [fl2]
  split
  · exact h.m1 _ (by omega)
  · exact h.m2 _ (by omega)

set_option maxRecDepth 20000 in
set_option maxHeartbeats 1600000 in
theorem markEquationS_any (lo hi g n : Nat) (z : Int) (D : EqL) (w : World) (h : OwnFR w lo hi g n (fl2 D)) (hk : KeptE n D) (h0 : 0 ≤ z) (ht : z + sumM (fl2 D) (n * 2) ≤ 1099511627776) :
    Calls Tryz.prog 18 #[.slice (some ⟨g, 0, none⟩) n n, .int .i64 z] w fun e w' => e = .returned (.int .i64 (z + sumM (fl2 D) (n * 2))) ∧ OwnFR w' lo hi g n (mkD z.toNat (fl2 D) (n * 2)) ∧ Rng lo hi w w' := by
  have hn := hk.most
  have H := hidden h
  have HK := hidden (kept_fl2 hk)
  have HT := hidden ht
  generalize hS : z + (sumM (fl2 D) (n * 2) : Int) = S
  have HS := hidden hS
  obtain ⟨F, hF⟩ : ∃ F, F = fl2 D := ⟨_, rfl⟩
  rw [← hF] at H HK HT HS ⊢
  clear h hk ht hS hF
  go_enter Tryz.func18, Tryz.ntmps18
  go_wp2
  go_loopw [1, 5] (fun a i wr => ∃ (k : Nat) (y : Int), k ≤ n ∧ i = .int .i64 k ∧ a = .int .i64 y ∧ Hid (y = z + sumM F (k * 2)) ∧ Hid (OwnFR wr lo hi g n (mkD z.toNat F (k * 2)) ∧ Rng lo hi w wr)) (fun _ i _ => n - (intOf i).toNat)
  case atStart => exact ⟨0, z, Nat.zero_le _, rfl, rfl, hidden (by simp [sumM]), hidden ⟨by rw [mkD_zero]; exact H.out, Rng.refl _ _ _⟩⟩
  case round =>
    obtain ⟨k, y, hk, rfl, rfl, HY, HI⟩ := hrel
    by_cases hlt : k < n
    · obtain ⟨G, c1, ho, hl, hh, hput⟩ := HI.out.1.one (k := k * 2) (by omega)
      replace c1 : wr.cell? ⟨g, k * 2, none⟩ = some (.slice (some ⟨G, 0, none⟩) (F.m (k * 2)) (F.m (k * 2))) := c1
      have O := hidden ho
      have P := hidden hput
      have LL := hidden (And.intro hl hh)
      have HA := hidden (show 0 ≤ y ∧ y ≤ 1099511627776 by have := sumM_le F (show k * 2 ≤ n * 2 by omega); have := HY.out; have := HT.out; omega)
      have HM := hidden (HK.out (k * 2) (by omega))
      clear ho hput hl hh
      go_wp2_with fail
      with_reducible refine (markInt64S_z lo G (F.m (k * 2)) (F.m (k * 2)) y _ _ O.out HM.out HA.out.1 HA.out.2).mono ?_
      rintro e w2 ⟨rfl, ho, hg⟩
      have e1 : y.toNat = z.toNat + sumM F (k * 2) := by have := HY.out; omega
      rw [e1] at ho
      have HW := hidden (And.intro (P.out w2 _ hg ho) (HI.out.2.trans (Rng.of hg LL.out.1 LL.out.2)))
      rw [mkD_step] at HW
      have HY2 := hidden (show y + (F.m (k * 2) : Int) = z + sumM F (k * 2 + 1) by have := HY.out; simp only [sumM]; omega)
      clear ho hg c1 HI O P LL HA HM e1 HY
      generalize y + (F.m (k * 2) : Int) = y2 at *
      obtain ⟨G, c1, ho, hl, hh, hput⟩ := HW.out.1.one (k := k * 2 + 1) (by omega)
      replace c1 : w2.cell? ⟨g, k * 2 + 1, none⟩ = some (.slice (some ⟨G, 0, none⟩) (F.m (k * 2 + 1)) (F.m (k * 2 + 1))) := c1
      have O := hidden ho
      have P := hidden hput
      have LL := hidden (And.intro hl hh)
      have HA := hidden (show 0 ≤ y2 ∧ y2 ≤ 1099511627776 by have := sumM_le F (show k * 2 + 1 ≤ n * 2 by omega); have := HY2.out; have := HT.out; omega)
      have HM := hidden (HK.out (k * 2 + 1) (by omega))
      clear ho hput hl hh
      go_wp2_with fail
      with_reducible refine (markInt64S_z lo G (F.m (k * 2 + 1)) (F.m (k * 2 + 1)) y2 _ _ O.out HM.out HA.out.1 HA.out.2).mono ?_
      rintro e w3 ⟨rfl, ho, hg⟩
      have e1 : y2.toNat = z.toNat + sumM F (k * 2 + 1) := by have := HY2.out; omega
      rw [e1] at ho
      have HW3 := hidden (And.intro (P.out w3 _ hg ho) (HW.out.2.trans (Rng.of hg LL.out.1 LL.out.2)))
      rw [mkD_step] at HW3
      have HY3 := hidden (show y2 + (F.m (k * 2 + 1) : Int) = z + sumM F ((k + 1) * 2) by have := HY2.out; rw [show (k + 1) * 2 = k * 2 + 1 + 1 by omega]; simp only [sumM] at *; omega)
      clear ho hg c1 HW O P LL HA HM e1 HY2
      generalize y2 + (F.m (k * 2 + 1) : Int) = y3 at *
      go_wp2
      go_roundw
      case rel => exact ⟨k + 1, y3, by omega, by go_num, rfl, HY3, hidden (by have := HW3.out; rw [show k * 2 + 1 + 1 = (k + 1) * 2 by omega] at this; exact this)⟩
      case measure => simp [intOf]; omega
    · obtain rfl : n = k := by omega
      have HE := hidden (HY.out.trans HS.out)
      go_wp2
      go_ret
      exact ⟨by rw [← HE.out]; rfl, HI.out.1, HI.out.2⟩

end Go.Proofs.YtflhfhmhdhokoaaGreat
