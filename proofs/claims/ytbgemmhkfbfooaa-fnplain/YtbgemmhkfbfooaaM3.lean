/- Several texts as one: L3Draw, L3Bent. -/
import Derived.Test.YtbgemmhkfbfooaaTrmKit
import Derived.Test.YtbgemmhkfbfooaaDrawRank
/- Contract: a term is drawn. -/
namespace Go.Proofs.Ytbgemmhkfbfooaa
open Go.RowKit

set_option maxRecDepth 20000 in
set_option maxHeartbeats 12800000 in
theorem l3Draw_any (s : Nat) (p : Option Addr) (nn c : Nat) (l : List Int) (w0 : World) (h0 : Byt.Src w0 p nn l) (hs0 : w0.heap.size ≤ s) (Bg g0 k d0 vars : Nat) (N : Nat → ByteArray) (A : Nat → Int) (hS : Sound k A) (hcons : cons0 k A) (hv : vars ≤ 12) (hBs : Bg ≠ s) (hgs : g0 ≠ s) :
    ∀ (most : Nat), 1 ≤ most → most ≤ 24 → ∀ (a : Nat) (w : World), a + 3 * most ≤ 10000 → Byt.Gen w s p nn c a → Below w0.heap.size w0 w → One w Bg (.slice (some ⟨g0, 0, none⟩) k d0) → Syms w g0 0 k N A →
    Calls Try.prog 38 #[.pointer (some ⟨s, 0, none⟩), .pointer (some ⟨Bg, 0, none⟩), .int .i64 most, .int .i64 vars] w fun e w' => ∃ g d r a', e = .returned (.slice (some ⟨g, 0, none⟩) r d) ∧ 1 ≤ r ∧ r ≤ most ∧ a' ≤ a + 3 * r ∧ Dr w w' s p nn c a' g r d := by
  intro most
  induction most using Nat.strongRecOn with
  | _ most ih =>
  intro hm1 hm24 a w ha hs hb hO hY
  have hsw := hs.blk
  have G0 := hidden (Sr.mk (w := w) hs ⟨rfl, rfl, rfl, Nat.le_refl _, fun _ _ _ => rfl⟩)
  have HB := hidden hb
  have H0 := hidden h0
  have HO := hidden hO
  have HY := hidden hY
  have IH := hidden ih
  have HS := hidden hS
  have HC := hidden hcons
  have hk6 := hS.most
  have hk1 := hS.least
  clear hs hb h0 hO hY ih hS hcons
  go_enter Try.func38, Try.ntmps38
  go_upto_region 1 with fail
  go_cut [28] (fun t wc => ∃ (v : Bool) (a1 : Nat), t = .bool v ∧ (v = true → 0 < vars) ∧ a1 ≤ a + 2 ∧ (v = true → a1 ≤ a + 2) ∧ Hid (Sr w wc s p nn c a1))
  case first =>
    by_cases hv0 : vars = 0
    · subst hv0
      go_wp2
      go_meet
      exact ⟨false, a, rfl, (fun h => by cases h), by omega, (fun h => by cases h), G0⟩
    have hv1 : (0 : Int) < vars := by omega
    by_cases hm2 : most < 2
    · have hm2' : (most : Int) < 2 := by omega
      go_wp2_with fail
      with_reducible refine (Byt.l1Chance_any s p nn c a l 2 w0 _ G0.out.gen H0.out (G0.out.below HB.out hs0) hs0 (by omega) (by omega) (by omega)).mono ?_
      rintro e w1 ⟨v, rfl, hg, hk, -⟩
      have G1 := hidden (G0.out.call hg hk)
      clear hg hk
      cases v
      · go_wp2_with fail
        with_reducible refine (Byt.l1Chance_any s p nn c (a + 1) l 4 w0 _ G1.out.gen H0.out (G1.out.below HB.out hs0) hs0 (by omega) (by omega) (by omega)).mono ?_
        rintro e w2 ⟨v, rfl, hg, hk, -⟩
        have G2 := hidden (G1.out.call hg hk)
        clear hg hk
        cases v
        · go_wp2
          go_meet
          exact ⟨false, _, rfl, (fun h => by cases h), by omega, (fun h => by cases h), G2⟩
        · go_wp2
          go_meet
          exact ⟨true, _, rfl, fun _ => by omega, by omega, fun _ => by omega, G2⟩
      · go_wp2
        go_meet
        exact ⟨true, _, rfl, fun _ => by omega, by omega, fun _ => by omega, G1⟩
    · have hm2' : ¬ (most : Int) < 2 := by omega
      go_wp2_with fail
      with_reducible refine (Byt.l1Chance_any s p nn c a l 4 w0 _ G0.out.gen H0.out (G0.out.below HB.out hs0) hs0 (by omega) (by omega) (by omega)).mono ?_
      rintro e w1 ⟨v, rfl, hg, hk, -⟩
      have G1 := hidden (G0.out.call hg hk)
      clear hg hk
      cases v
      · go_wp2
        go_meet
        exact ⟨false, _, rfl, (fun h => by cases h), by omega, (fun h => by cases h), G1⟩
      · go_wp2
        go_meet
        exact ⟨true, _, rfl, fun _ => by omega, by omega, fun _ => by omega, G1⟩
  case rest =>
    rename World => w1
    obtain ⟨v, a1, rfl, hvt, ha1, -, G1⟩ := hcut
    clear G0
    cases v
    rotate_left
    · have hv1 := hvt rfl
      clear hvt
      go_wp2_with fail
      with_reducible refine (Byt.l1Next_any s p nn c a1 l (vars : Int) w0 _ G1.out.gen H0.out (G1.out.below HB.out hs0) hs0 (by omega) (by omega) (by omega)).mono ?_
      rintro e w2 ⟨x, rfl, hx0, hx1, hg, hk, -⟩
      have G2 := hidden (G1.out.call hg hk)
      clear hg hk G1
      have hsz := G2.out.grw.size
      go_wp2
      go_ret
      exact ⟨w2.heap.size, 1, 1, a1 + 1, rfl, by omega, hm1, by omega, ⟨G2.out.gen.alloc _, ⟨_, ownI_one w2 w.heap.size _ hsz⟩, grownBy_trans G2.out.grw (World.grownBy_alloc w2 _ (some s)), hsw, hsz⟩⟩
    · clear hvt
      have d1 := (HO.out.grown G1.out.grw hBs).c0
      go_wp2_with fail
      with_reducible refine (Byt.l1Next_any s p nn c a1 l (k : Int) w0 _ G1.out.gen H0.out (G1.out.below HB.out hs0) hs0 (by omega) (by omega) (by omega)).mono ?_
      rintro e w2 ⟨x, rfl, hx0, hx1, hg, hk, -⟩
      have G2 := hidden (G1.out.call hg hk)
      obtain ⟨n0, rfl⟩ := Int.eq_ofNat_of_zero_le hx0
      have hn0 : n0 < k := by omega
      clear hg hk G1 hx0 hx1 d1
      have O2 := hidden (HO.out.grown G2.out.grw hBs)
      have Y2 := hidden (HY.out.grown G2.out.grw hgs)
      have d1 := O2.out.c0
      go_wp2
      go_loopw [10, 11] (fun z i wr => ∃ (j t : Nat), j < k ∧ t ≤ k ∧ z = .int .i64 j ∧ i = .int .i64 t ∧ wr = w2 ∧ Hid (j = (n0 + t) % k) ∧ Hid (∀ u, u < t → (most : Int) ≤ A ((n0 + u) % k))) (fun _ i _ => k - (intOf i).toNat)
      case atStart => exact ⟨n0, 0, hn0, Nat.zero_le _, rfl, rfl, rfl, hidden (by rw [Nat.add_zero]; exact (Nat.mod_eq_of_lt hn0).symm), hidden (fun u hu => by omega)⟩
      case round =>
        obtain ⟨j, t, hj, ht, rfl, rfl, rfl, HJ, HM⟩ := hrel
        have c1 := Y2.out.arity j hj
        have har := HS.out.arity j hj
        obtain ⟨ar, hA⟩ : ∃ ar : Nat, A j = ar := ⟨(A j).toNat, by omega⟩
        have HA := hidden hA
        rw [hA] at c1 har
        clear hA
        rw [Nat.zero_add] at c1
        have htk : t < k := by
          refine Classical.byContradiction fun htk => ?_
          obtain ⟨ci, hci, hc0⟩ := HC.out
          obtain ⟨u, hu, hue⟩ := round_all hn0 hci
          have := HM.out u (by omega)
          rw [hue, hc0] at this
          omega
        have htk' : (t : Int) < k := by omega
        by_cases hma : most ≤ ar
        · have hma' : (most : Int) ≤ ar := by omega
          obtain ⟨j2, hj2, hj2k⟩ : ∃ j2 : Nat, ((j : Int) + 1) % (k : Int) = (j2 : Int) ∧ j2 < k := ⟨(j + 1) % k, by rw [Int.natCast_emod, Int.natCast_add]; rfl, Nat.mod_lt _ hk1⟩
          have hkz : ((k : Int) == 0) = false := by simp; omega
          have HJ2 := hidden (show j2 = (n0 + (t + 1)) % k from by
            have h1 : ((j2 : Nat) : Int) = (((j + 1) % k : Nat) : Int) := by rw [← hj2, Int.natCast_emod, Int.natCast_add]; rfl
            have h2 : j2 = (j + 1) % k := by omega
            rw [h2, HJ.out, Nat.mod_add_mod, Nat.add_assoc])
          have HM2 := hidden (show ∀ u, u < t + 1 → (most : Int) ≤ A ((n0 + u) % k) from fun u hu => by
            by_cases e : u = t
            · rw [e, ← HJ.out, HA.out]; exact hma'
            · exact HM.out u (by omega))
          go_wp2
          go_roundw
          case rel => exact ⟨j2, t + 1, hj2k, by omega, by rw [hj2], by go_num, trivial, HJ2, HM2⟩
          case measure => simp [intOf]; omega
        · have hlt : ¬ (most : Int) ≤ ar := by omega
          have D1 := hidden (show Dr w (wr.alloc (.cells #[.int .i64 (j : Int)] 2)) s p nn c (a1 + 1) wr.heap.size 1 1 from ⟨G2.out.gen.alloc _, ⟨_, ownI_one wr w.heap.size _ G2.out.grw.size⟩, grownBy_trans G2.out.grw (World.grownBy_alloc wr _ (some s)), hsw, G2.out.grw.size⟩)
          have O3 := hidden (O2.out.keep (alloc_below wr (.cells #[.int .i64 (j : Int)] 2)))
          have Y3 := hidden (Y2.out.keep (alloc_below wr (.cells #[.int .i64 (j : Int)] 2)))
          have d2 := O3.out.c0
          have c2 := Y3.out.arity j hj
          rw [HA.out, Nat.zero_add] at c2
          clear HM HJ
          by_cases hm2 : most < 2
          · have hm2' : (most : Int) < 2 := by omega
            obtain rfl : ar = 0 := by omega
            go_wp2
            go_loopw [10, 12] (fun z i wr' => z = .int .i64 j ∧ i = .int .i64 0 ∧ wr' = wr) (fun _ _ _ => 0)
            case atStart => exact ⟨rfl, rfl, rfl⟩
            case round =>
              obtain ⟨rfl, rfl, rfl⟩ := hrel
              have hk0 : (0 : Int) < k := by omega
              go_wp2
              go_ret
              exact ⟨_, 1, 1, a1 + 1, rfl, by omega, hm1, by omega, D1.out⟩
          · have hm2' : ¬ (most : Int) < 2 := by omega
            rcases (show ar = 0 ∨ ar = 1 ∨ ar = 2 by omega) with rfl | rfl | rfl
            · go_wp2
              go_ret
              exact ⟨_, 1, 1, rfl, Nat.le_refl _, hm1, a1 + 1, by omega, D1.out⟩
            · have hmc : (most : Int) - 1 = ((most - 1 : Nat) : Int) := by omega
              have C1 := IH.out (most - 1) (by omega) (by omega) (by omega) (a1 + 1) (wr.alloc (.cells #[.int .i64 (j : Int)] 2)) (by omega) D1.out.gen (D1.out.below HB.out hs0) O3.out Y3.out
              rw [← hmc] at C1
              have C1 := hidden C1
              clear IH hmc
              go_wp2_with fail
              with_reducible refine C1.out.mono ?_
              rintro e w3 ⟨g3, d3, r3, a3, rfl, hr3, hr3m, ha3, hd⟩
              obtain ⟨M, hM⟩ := hd.own
              obtain ⟨L, hL⟩ := (D1.out.call hd.gen hd.grw).own
              have OL := hidden hL.vals
              have OM := hidden hM.ints
              have W3 := hidden (show w.heap.size ≤ w3.heap.size from (grownBy_trans D1.out.grw hd.grw).size)
              have D3 := hidden hd
              clear hd hM hL C1
              go_wp2_with (first | (at_builtin; refine wpList_append_own _ rfl _ _ 27 rfl w.heap.size 2 _ (.int .i64 0) 1 8 Try.underlying27 rfl rfl rfl rfl rfl (by decide) _ _ _ rfl OL.out ⟨g3, 0, none⟩ r3 d3 (valsI M r3) rfl (by simp [valsI]) OM.out.src0 (intNews _ _) (by unfold maxLen; omega) (by omega) W3.out ?_) | fail)
              intro v' w4 hown hgrow hnil
              obtain ⟨g4, d4, rfl, hd4⟩ := Dr.more D1.out D3.out hgrow hown (by simpa using hnil)
              have D4 := hidden hd4
              clear hown hgrow hnil hd4 D3 OL OM W3
              go_wp2
              go_ret
              exact ⟨g4, d4, 1 + r3, a3, rfl, by omega, by omega, by omega, D4.out⟩
            · have hmc : (most : Int) - 2 = ((most - 2 : Nat) : Int) := by omega
              have C1 := IH.out (most - 2) (by omega) (by omega) (by omega) (a1 + 1) (wr.alloc (.cells #[.int .i64 (j : Int)] 2)) (by omega) D1.out.gen (D1.out.below HB.out hs0) O3.out Y3.out
              rw [← hmc] at C1
              have C1 := hidden C1
              clear hmc
              go_wp2_with fail
              with_reducible refine C1.out.mono ?_
              rintro e w3 ⟨g3, d3, r3, a3, rfl, hr3, hr3m, ha3, hd⟩
              obtain ⟨M, hM⟩ := hd.own
              obtain ⟨L, hL⟩ := (D1.out.call hd.gen hd.grw).own
              have OL := hidden hL.vals
              have OM := hidden hM.ints
              have W3 := hidden (show w.heap.size ≤ w3.heap.size from (grownBy_trans D1.out.grw hd.grw).size)
              have D3 := hidden hd
              clear hd hM hL C1
              go_wp2_with (first | (at_builtin; refine wpList_append_own _ rfl _ _ 27 rfl w.heap.size 2 _ (.int .i64 0) 1 8 Try.underlying27 rfl rfl rfl rfl rfl (by decide) _ _ _ rfl OL.out ⟨g3, 0, none⟩ r3 d3 (valsI M r3) rfl (by simp [valsI]) OM.out.src0 (intNews _ _) (by unfold maxLen; omega) (by omega) W3.out ?_) | fail)
              intro v' w4 hown hgrow hnil
              obtain ⟨g4, d4, rfl, hd4⟩ := Dr.more D1.out D3.out hgrow hown (by simpa using hnil)
              have D4 := hidden hd4
              clear hown hgrow hnil hd4 D3 OL OM W3 O3 Y3 D1 d2 c2
              have hmc : (most : Int) - 1 - r3 = ((most - 1 - r3 : Nat) : Int) := by omega
              have C2 := IH.out (most - 1 - r3) (by omega) (by omega) (by omega) a3 w4 (by omega) D4.out.gen (D4.out.below HB.out hs0) (HO.out.grown D4.out.grw hBs) (HY.out.grown D4.out.grw hgs)
              rw [← hmc] at C2
              have C2 := hidden C2
              clear hmc IH
              go_wp2_with fail
              with_reducible refine C2.out.mono ?_
              rintro e w5 ⟨g5, d5, r5, a5, rfl, hr5, hr5m, ha5, hd⟩
              obtain ⟨M', hM⟩ := hd.own
              obtain ⟨L', hL⟩ := (D4.out.call hd.gen hd.grw).own
              have OL := hidden hL.vals
              have OM := hidden hM.ints
              have W5 := hidden (show w.heap.size ≤ w5.heap.size from (grownBy_trans D4.out.grw hd.grw).size)
              have D5 := hidden hd
              clear hd hM hL C2
              go_wp2_with (first | (at_builtin; refine wpList_append_own _ rfl _ _ 27 rfl w.heap.size 2 _ (.int .i64 0) 1 8 Try.underlying27 rfl rfl rfl rfl rfl (by decide) _ _ _ rfl OL.out ⟨g5, 0, none⟩ r5 d5 (valsI M' r5) rfl (by simp [valsI]) OM.out.src0 (intNews _ _) (by unfold maxLen; omega) (by omega) W5.out ?_) | fail)
              intro v' w6 hown hgrow hnil
              obtain ⟨g6, d6, rfl, hd6⟩ := Dr.more D4.out D5.out hgrow hown (by simpa using hnil)
              have D6 := hidden hd6
              clear hown hgrow hnil hd6 D5 OL OM W5
              go_wp2
              go_ret
              exact ⟨g6, d6, 1 + r3 + r5, a5, rfl, by omega, by omega, by omega, D6.out⟩

end Go.Proofs.Ytbgemmhkfbfooaa

/- Contract: a term is drawn that now and then is none. -/
namespace Go.Proofs.Ytbgemmhkfbfooaa
open Go.RowKit

theorem fault_cons {n : Nat} {N : Nat → ByteArray} {A : Nat → Int} (h : faultF n N A = 0) : cons0 n A := by
  unfold faultF at h
  split at h
  · cases h
  · split at h
    · split at h
      · cases h
      · split at h
        · assumption
        · cases h
    · exact absurd h (by assumption)

theorem specFault_7 (g n d : Nat) (N : Nat → ByteArray) (A : Nat → Int) (w : World) (h : Syms w g 0 n N A) (hk : Kept n N A) :
    Calls Try.prog 37 #[.agg #[.slice (some ⟨g, 0, none⟩) n d]] w fun e w' => e = .returned (.int .i64 (faultF n N A)) ∧ Below w.heap.size w w' := by
  by_cases hn : n < 1 ∨ 6 < n
  · exact specFault_many _ _ _ w hn N A
  · exact specFault_any g 0 n d N A w h hk hn

theorem nums_three (W : World) (x y z : Int) (t : TypeId) : Byt.Nums (W.alloc (.cells #[.int .i64 x, .int .i64 y, .int .i64 z] t)) W.heap.size 3 [x, y, z] :=
  ⟨rfl, fun i hi => by
    match i, hi with
    | 0, _ => simp [go_sem]
    | 1, _ => simp [go_sem]
    | 2, _ => simp [go_sem]⟩

theorem by_row {w w' : World} (h : Below w.heap.size w w') (r : Option Nat) : w.grownBy w' r := ⟨h.os, h.tape, h.output, h.size, fun k hk _ => h.block k hk⟩

set_option maxRecDepth 20000 in
set_option maxHeartbeats 6400000 in
theorem l3BentTerm_any (s : Nat) (p : Option Addr) (nn c a : Nat) (l : List Int) (w0 w : World) (hs : Byt.Gen w s p nn c a) (h0 : Byt.Src w0 p nn l) (hb : Below w0.heap.size w0 w) (hs0 : w0.heap.size ≤ s) (ha : a ≤ 5000) (Bg : Nat) (q : Option Addr) (n d0 : Nat) (hO : One w Bg (.slice q n d0)) (hV : SigV w (.slice q n d0)) (hBs : Bg ≠ s) (hqs : ∀ b, q = some b → b.block ≠ s) (most vars : Nat) (hm1 : 1 ≤ most) (hm24 : most ≤ 24) (hv : vars ≤ 12) :
    Calls Try.prog 15 #[.pointer (some ⟨s, 0, none⟩), .pointer (some ⟨Bg, 0, none⟩), .int .i64 most, .int .i64 vars] w fun e w' => ∃ g m d a', e = .returned (.slice (some ⟨g, 0, none⟩) m d) ∧ m ≤ 25 ∧ m ≤ d ∧ a' ≤ a + 200 ∧ DrA w w' s p nn c a' g 0 m := by
  have hsw := hs.blk
  have HB := hidden hb
  have H0 := hidden h0
  have HO := hidden hO
  have HS := hidden hs
  have d1 := hO.c0
  have LIT := hidden (show ∀ W, Byt.Gen W s p nn c a → w.grownBy W (some s) → DrA w (W.alloc (.cells #[.int .i64 0] 2)) s p nn c a W.heap.size 0 1 from fun W hg hk => Dr.part (d := 1) (m := 1) ⟨hg.alloc _, ⟨_, ownI_one W w.heap.size _ hk.size⟩, grownBy_trans hk (World.grownBy_alloc W _ (some s)), hsw, hk.size⟩ 0 1 (by omega))
  by_cases hn1 : n < 1
  · have hn1' : (n : Int) < 1 := by omega
    clear hs hb h0 hO hV
    go_enter Try.func15, Try.ntmps15
    go_wp2
    go_ret
    exact ⟨_, 1, 1, a, rfl, by omega, by omega, by omega, LIT.out w HS.out ⟨rfl, rfl, rfl, Nat.le_refl _, fun _ _ _ => rfl⟩⟩
  have hn1' : ¬ (n : Int) < 1 := by omega
  rcases hV with hV | ⟨g0, n', d', N, A, hV, hn7, hK, hY⟩
  · cases hV; omega
  cases hV
  have hgs : g0 ≠ s := hqs _ rfl
  have HY := hidden hY
  have HK := hidden hK
  clear hs hb h0 hO hK hY hqs
  go_enter Try.func15, Try.ntmps15
  go_wp2_with fail
  with_reducible refine (specFault_7 g0 n d0 N A _ HY.out HK.out).mono ?_
  rintro e w1 ⟨rfl, hb1⟩
  have G1 := hidden (Sr.mk (w := w) (HS.out.grown (by_row hb1 (some (s + 1))) (by omega)) (by_row hb1 (some s)))
  clear hb1 HS d1
  by_cases hF : faultF n N A = 0
  rotate_left
  · have hF' : (faultF n N A != 0) = true := by simpa using hF
    have L1 := hidden (LIT.out w1 G1.out.gen G1.out.grw)
    clear hF LIT
    generalize faultF n N A = F at *
    go_wp2
    go_ret
    exact ⟨_, 1, 1, a, rfl, by omega, by omega, by omega, L1.out⟩
  have hsd := fault_sound hF
  have hcn := fault_cons hF
  rw [hF]
  clear hF
  have C1 := hidden (l3Draw_any s p nn c l w0 H0.out hs0 Bg g0 n d0 vars N A hsd hcn hv hBs hgs most hm1 hm24 a w1 (by omega) G1.out.gen (G1.out.below HB.out hs0) (HO.out.grown G1.out.grw hBs) (HY.out.grown G1.out.grw hgs))
  clear hsd hcn LIT
  go_wp2_with fail
  with_reducible refine C1.out.mono ?_
  rintro e w2 ⟨g, d, r, a2, rfl, hr1, hrm, ha2, hd⟩
  have D2 := hidden (show Dr w w2 s p nn c a2 g r d from ⟨hd.gen, by obtain ⟨L, ho⟩ := hd.own; exact ⟨L, ho.base (Nat.le_trans G1.out.grw.size hd.hg)⟩, grownBy_trans G1.out.grw hd.grw, hsw, Nat.le_trans G1.out.grw.size hd.hg⟩)
  have hcap := D2.out.cap
  clear hd G1 C1
  go_wp2_with fail
  with_reducible refine (Byt.l1Chance_any s p nn c a2 l 11 w0 _ D2.out.gen H0.out (D2.out.below HB.out hs0) hs0 (by omega) (by omega) (by omega)).mono ?_
  rintro e w3 ⟨v, rfl, hgn, hgr, -⟩
  have D3 := hidden (D2.out.call hgn hgr)
  clear hgn hgr D2
  cases v
  · go_wp2
    go_ret
    exact ⟨g, r, d, _, rfl, by omega, hcap, by omega, D3.out.part 0 r (by omega)⟩
  go_wp2_with fail
  with_reducible refine (Byt.l1Next_any s p nn c (a2 + 1) l 4 w0 _ D3.out.gen H0.out (D3.out.below HB.out hs0) hs0 (by omega) (by omega) (by omega)).mono ?_
  rintro e w4 ⟨v, rfl, hv0, hv1, hgn, hgr, -⟩
  have D4 := hidden (D3.out.call hgn hgr)
  clear hgn hgr D3
  rcases (show v = 0 ∨ v = 1 ∨ v = 2 ∨ v = 3 by omega) with rfl | rfl | rfl | rfl
  · obtain ⟨r', rfl⟩ : ∃ r', r = r' + 1 := ⟨r - 1, by omega⟩
    go_wp2
    go_ret
    exact ⟨g, r', d, _, rfl, by omega, by omega, by omega, D4.out.part 0 r' (by omega)⟩
  · have W4 := hidden (show w.heap.size ≤ w4.heap.size from D4.out.grw.size)
    obtain ⟨L, hL⟩ := D4.out.own
    have OL := hidden hL.vals
    clear hL
    go_wp2_with (first | (at_builtin; refine wpList_append_own _ rfl _ _ 27 rfl w.heap.size 2 _ (.int .i64 0) 1 8 Try.underlying27 rfl rfl rfl rfl rfl (by decide) _ _ _ rfl (OL.out.alloc _) ⟨w4.heap.size, 0, none⟩ 1 1 [.int .i64 0] rfl rfl (one_srcI _ _ _) (oneValI _) (by unfold maxLen; omega) (by omega) (by have := W4.out; simp; omega) ?_) | go_in)
    intro v' w5 hown hgrow hnil
    rw [valsI_snoc] at hown
    obtain ⟨g2, d2, rfl, hg2, ho, -⟩ := row_open hown (by simpa using hnil) (Below.refl w.heap.size w5)
    have hg4 := D4.out.hg
    have D5 := hidden (show Dr w w5 s p nn c (a2 + 1 + 1) g2 (r + 1) d2 from ⟨(D4.out.gen.alloc _).grown hgrow (by show s ≠ g; omega), ⟨_, row_own ho⟩, Byt.grownBy_new (grownBy_trans D4.out.grw (World.grownBy_alloc w4 _ (some s))) hgrow hg4, hsw, hg2⟩)
    clear hown hgrow hnil ho OL D4
    go_wp2
    go_ret
    exact ⟨g2, r + 1, d2, _, rfl, by omega, D5.out.cap, by omega, D5.out.part 0 (r + 1) (by omega)⟩
  · have hs4 := D4.out.gen.blk
    have F1 := hidden (show ∀ wc, w4.grownBy wc (some s) → Byt.Gen wc s p nn c (a2 + 1 + 1) → Calls Try.prog 36 #[.pointer (some ⟨s, 0, none⟩), .int .i64 (r : Int)] wc fun e w' => ∃ idx : Nat, e = .returned (.int .i64 (idx : Int)) ∧ idx < r ∧ Hid (w4.grownBy w' (some s) ∧ wc.grownBy w' (some s) ∧ Byt.Gen w' s p nn c (a2 + 1 + 1 + 1)) ∧ w'.cell? ⟨Bg, 0, none⟩ = some (.slice (some ⟨g0, 0, none⟩) n d0) from fun wc hk hg => by
      refine (Byt.l1Next_any s p nn c (a2 + 1 + 1) l (r : Int) w0 wc hg H0.out ((D4.out.call hg hk).below HB.out hs0) hs0 (by omega) (by omega) (by omega)).mono ?_
      rintro e w' ⟨v, rfl, hv0, hv1, hgn, hgr, -⟩
      have hk' := grownBy_trans hk hgr
      exact ⟨v.toNat, by rw [show ((v.toNat : Nat) : Int) = v by omega], by omega, hidden ⟨hk', hgr, hgn⟩, (HO.out.grown (grownBy_trans D4.out.grw hk') hBs).c0⟩)
    have F2 := hidden (show ∀ wc b, w4.grownBy wc (some s) → Byt.Gen wc s p nn c (a2 + 1 + 1 + 1) → Byt.Nums wc b 3 [(n : Int), -13, -12] → b ≠ s → Calls Try.prog 16 #[.pointer (some ⟨s, 0, none⟩), .slice (some ⟨b, 0, none⟩) 3 3] wc fun e w' => ∃ x, e = .returned (.int .i64 x) ∧ Dr w w' s p nn c (a2 + 1 + 1 + 1 + 1) g r d from fun wc b hk hg hx hbs => by
      refine (Byt.l1Pick_any s p nn c (a2 + 1 + 1 + 1) l b 3 3 [(n : Int), -13, -12] w0 wc hg H0.out ((D4.out.call hg hk).below HB.out hs0) hs0 (by omega) hx hbs (by omega) (by omega)).mono ?_
      rintro e w' ⟨i, hi, rfl, hg', hgr, -⟩
      exact ⟨_, rfl, (D4.out.call hg hk).call hg' hgr⟩)
    have d4 := (HO.out.grown D4.out.grw hBs).c0
    have KD := hidden (show w4.grownBy w4.drew (some s) from ⟨rfl, rfl, rfl, Nat.le_refl _, fun _ _ _ => rfl⟩)
    have GD := hidden (D4.out.gen.grown (show w4.grownBy w4.drew (some (s + 1)) from ⟨rfl, rfl, rfl, Nat.le_refl _, fun _ _ _ => rfl⟩) (by omega))
    have KA := hidden (show w4.grownBy (w4.alloc (.cells #[.int .i64 (n : Int), .int .i64 (-13), .int .i64 (-12)] 2)).drew (some s) from grownBy_trans (World.grownBy_alloc w4 (.cells #[.int .i64 (n : Int), .int .i64 (-13), .int .i64 (-12)] 2) (some s)) ⟨rfl, rfl, rfl, Nat.le_refl _, fun _ _ _ => rfl⟩)
    have GA := hidden ((D4.out.gen.alloc (.cells #[.int .i64 (n : Int), .int .i64 (-13), .int .i64 (-12)] 2)).grown (show (w4.alloc (.cells #[.int .i64 (n : Int), .int .i64 (-13), .int .i64 (-12)] 2)).grownBy (w4.alloc (.cells #[.int .i64 (n : Int), .int .i64 (-13), .int .i64 (-12)] 2)).drew (some (s + 1)) from ⟨rfl, rfl, rfl, Nat.le_refl _, fun _ _ _ => rfl⟩) (by omega))
    have NA := hidden (show Byt.Nums (w4.alloc (.cells #[.int .i64 (n : Int), .int .i64 (-13), .int .i64 (-12)] 2)).drew w4.heap.size 3 [(n : Int), -13, -12] from ⟨rfl, (nums_three w4 _ _ _ 2).cell⟩)
    clear D4
    go_wp2_with fail
    go_region_with (first
      | (go_at_call 36; with_reducible refine (F1.out _ KD.out GD.out).mono ?_; rintro e v5 ⟨idx, rfl, hidx, HX, t5⟩)
      | (go_at_call 36; with_reducible refine (F1.out _ KA.out GA.out).mono ?_; rintro e v5 ⟨idx, rfl, hidx, HX, t5⟩)
      | (go_at_call 16; with_reducible refine (F2.out _ _ HX.out.1 HX.out.2.2 (Nums.grown NA.out HX.out.2.1 (by omega)) (by omega)).mono ?_; rintro e v6 ⟨x, rfl, hd6⟩; obtain ⟨y, c1, f1, st⟩ := hd6.store hidx; have D6 := hidden (st x); clear st hd6)
      | (go_at_call 16; with_reducible refine (F2.out _ _ (grownBy_trans HX.out.1 (World.grownBy_alloc _ _ (some s))) (HX.out.2.2.alloc _) (nums_three v5 _ _ _ 2) (by have := HX.out.2.2.blk; omega)).mono ?_; rintro e v6 ⟨x, rfl, hd6⟩; obtain ⟨y, c1, f1, st⟩ := hd6.store hidx; have D6 := hidden (st x); clear st hd6))
    all_goals go_wp2
    all_goals go_ret
    all_goals exact ⟨g, r, d, _, rfl, by omega, D6.out.cap, by omega, D6.out.part 0 r (by omega)⟩
  · have D5 := hidden (show Dr w (w4.alloc (.cells #[] 2)) s p nn c (a2 + 1 + 1) w4.heap.size 0 0 from ⟨D4.out.gen.alloc _, ⟨fun _ => 0, [], World.ownsRow_made w4 #[] 0 D4.out.grw.size (Nat.zero_le _) rfl, fun i hi => by omega⟩, grownBy_trans D4.out.grw (World.grownBy_alloc w4 _ (some s)), hsw, D4.out.grw.size⟩)
    clear D4 hcap
    go_wp2
    go_loopw [10, 11] (fun o i wr => ∃ (k g' d' b' : Nat), k ≤ 25 ∧ i = .int .i64 k ∧ o = .slice (some ⟨g', 0, none⟩) k d' ∧ b' ≤ a2 + 2 + 2 * k ∧ Hid (Dr w wr s p nn c b' g' k d')) (fun _ i _ => 26 - (intOf i).toNat)
    case atStart => exact ⟨0, _, _, _, Nat.zero_le _, rfl, rfl, by omega, D5⟩
    case round =>
      clear D5
      obtain ⟨k, g', d', b', hk, rfl, rfl, hb', DK⟩ := hrel
      have hsr := DK.out.gen.blk
      go_wp2_with fail
      with_reducible refine (Byt.l1Pick_any s p nn c b' l wr.heap.size 2 2 [24, 25] w0 _ (DK.out.gen.alloc _) H0.out (keepB (DK.out.below HB.out hs0) (alloc_below wr _)) hs0 (by omega) (nums_two wr 24 25 2) (by omega) (by omega) (by omega)).mono ?_
      rintro e w5 ⟨i, hi, rfl, hgn, hgr, -⟩
      have DP := hidden ((DK.out.call (DK.out.gen.alloc _) (World.grownBy_alloc wr _ (some s))).call hgn hgr)
      clear hgn hgr DK hsr
      obtain ⟨x, hx, hx2⟩ : ∃ x : Nat, [(24 : Int), 25].getD i 0 = (x : Int) ∧ (x = 24 ∨ x = 25) := by
        rcases (show i = 0 ∨ i = 1 by omega) with rfl | rfl
        · exact ⟨24, rfl, Or.inl rfl⟩
        · exact ⟨25, rfl, Or.inr rfl⟩
      rw [hx]
      clear hx
      by_cases hkx : k < x
      · have hkx' : (k : Int) < x := by omega
        have hsr := DP.out.gen.blk
        go_wp2_with fail
        with_reducible refine (Byt.l1Pick_any s p nn c (b' + 1) l w5.heap.size 3 3 [1, 2, 0] w0 _ (DP.out.gen.alloc _) H0.out (keepB (DP.out.below HB.out hs0) (alloc_below w5 _)) hs0 (by omega) (nums_three w5 1 2 0 2) (by omega) (by omega) (by omega)).mono ?_
        rintro e w6 ⟨i2, hi2, rfl, hgn, hgr, -⟩
        have DQ := hidden ((DP.out.call (DP.out.gen.alloc _) (World.grownBy_alloc w5 _ (some s))).call hgn hgr)
        clear hgn hgr DP hsr
        generalize [(1 : Int), 2, 0].getD i2 0 = y
        have W6 := hidden (show w.heap.size ≤ w6.heap.size from DQ.out.grw.size)
        obtain ⟨L, hL⟩ := DQ.out.own
        have OL := hidden hL.vals
        clear hL
        go_wp2_with (first | (at_builtin; refine wpList_append_own _ rfl _ _ 27 rfl w.heap.size 2 _ (.int .i64 0) 1 8 Try.underlying27 rfl rfl rfl rfl rfl (by decide) _ _ _ rfl (OL.out.alloc _) ⟨w6.heap.size, 0, none⟩ 1 1 [.int .i64 y] rfl rfl (one_srcI _ _ _) (oneValI _) (by unfold maxLen; omega) (by omega) (by have := W6.out; simp; omega) ?_) | go_in)
        intro v' w7 hown hgrow hnil
        rw [valsI_snoc] at hown
        obtain ⟨g2, d2, rfl, hg2, ho, -⟩ := row_open hown (by simpa using hnil) (Below.refl w.heap.size w7)
        have hg4 := DQ.out.hg
        have D7 := hidden (show Dr w w7 s p nn c (b' + 1 + 1) g2 (k + 1) d2 from ⟨(DQ.out.gen.alloc _).grown hgrow (by show s ≠ g'; omega), ⟨_, row_own ho⟩, Byt.grownBy_new (grownBy_trans DQ.out.grw (World.grownBy_alloc w6 _ (some s))) hgrow hg4, hsw, hg2⟩)
        clear hown hgrow hnil ho OL DQ W6
        go_wp2
        go_roundw
        case rel => exact ⟨k + 1, g2, d2, b' + 1 + 1, by omega, by go_num, rfl, by omega, D7⟩
        case measure => simp [intOf]; omega
      · have hkx' : ¬ (k : Int) < x := by omega
        go_wp2
        go_ret
        exact ⟨g', k, d', _, rfl, by omega, DP.out.cap, by omega, DP.out.part 0 k (by omega)⟩

end Go.Proofs.Ytbgemmhkfbfooaa
