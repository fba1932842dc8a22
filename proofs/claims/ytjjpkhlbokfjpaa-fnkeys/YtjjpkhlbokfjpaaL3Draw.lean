/- Contract: a term is drawn. -/
import Derived.Test.YtjjpkhlbokfjpaaTrmKit
namespace Go.Proofs.Ytjjpkhlbokfjpaa
open Go.RowKit

set_option maxRecDepth 20000 in
set_option maxHeartbeats 12800000 in
theorem l3Draw_any (s : Nat) (p : Option Addr) (nn c : Nat) (l : List Int) (w0 : World) (h0 : Byt.Src w0 p nn l) (hs0 : w0.heap.size ≤ s) (Bg g0 k d0 vars : Nat) (N : Nat → ByteArray) (A : Nat → Int) (hS : Sound k A) (hcons : cons0 k A) (hv : vars ≤ 12) (hBs : Bg ≠ s) (hgs : g0 ≠ s) :
    ∀ (most : Nat), 1 ≤ most → most ≤ 24 → ∀ (a : Nat) (w : World), a + 3 * most ≤ 10000 → Byt.Gen w s p nn c a → Below w0.heap.size w0 w → One w Bg (.slice (some ⟨g0, 0, none⟩) k d0) → Syms w g0 0 k N A →
    Calls Try.prog 63 #[.pointer (some ⟨s, 0, none⟩), .pointer (some ⟨Bg, 0, none⟩), .int .i64 most, .int .i64 vars] w fun e w' => ∃ g d r a', e = .returned (.slice (some ⟨g, 0, none⟩) r d) ∧ 1 ≤ r ∧ r ≤ most ∧ a' ≤ a + 3 * r ∧ Dr w w' s p nn c a' g r d := by
  intro most
  induction most using Nat.strongRecOn with
  | _ most ih =>
  intro hm1 hm24 a w ha hs hb hO hY
  have hsw := hs.blk
  have G0 := hidden (Sr.mk (w := w) hs ⟨rfl, rfl, rfl, Nat.le_refl _, fun _ _ _ => rfl⟩)
  have HB := hidden hb
  have H0 := hidden h0
  have HO := hidden hO
  have HY := hidden hY
  have IH := hidden ih
  have HS := hidden hS
  have HC := hidden hcons
  have hk6 := hS.most
  have hk1 := hS.least
  clear hs hb h0 hO hY ih hS hcons
  go_enter Try.func63, Try.ntmps63
  go_upto_region 1 with fail
  go_cut [28] (fun t wc => ∃ (v : Bool) (a1 : Nat), t = .bool v ∧ (v = true → 0 < vars) ∧ a1 ≤ a + 2 ∧ (v = true → a1 ≤ a + 2) ∧ Hid (Sr w wc s p nn c a1))
  case first =>
    by_cases hv0 : vars = 0
    · subst hv0
      go_wp2
      go_meet
      exact ⟨false, a, rfl, (fun h => by cases h), by omega, (fun h => by cases h), G0⟩
    have hv1 : (0 : Int) < vars := by omega
    by_cases hm2 : most < 2
    · have hm2' : (most : Int) < 2 := by omega
      go_wp2_with fail
      with_reducible refine (Byt.l1Chance_any s p nn c a l 2 w0 _ G0.out.gen H0.out (G0.out.below HB.out hs0) hs0 (by omega) (by omega) (by omega)).mono ?_
      rintro e w1 ⟨v, rfl, hg, hk, -⟩
      have G1 := hidden (G0.out.call hg hk)
      clear hg hk
      cases v
      · go_wp2_with fail
        with_reducible refine (Byt.l1Chance_any s p nn c (a + 1) l 4 w0 _ G1.out.gen H0.out (G1.out.below HB.out hs0) hs0 (by omega) (by omega) (by omega)).mono ?_
        rintro e w2 ⟨v, rfl, hg, hk, -⟩
        have G2 := hidden (G1.out.call hg hk)
        clear hg hk
        cases v
        · go_wp2
          go_meet
          exact ⟨false, _, rfl, (fun h => by cases h), by omega, (fun h => by cases h), G2⟩
        · go_wp2
          go_meet
          exact ⟨true, _, rfl, fun _ => by omega, by omega, fun _ => by omega, G2⟩
      · go_wp2
        go_meet
        exact ⟨true, _, rfl, fun _ => by omega, by omega, fun _ => by omega, G1⟩
    · have hm2' : ¬ (most : Int) < 2 := by omega
      go_wp2_with fail
      with_reducible refine (Byt.l1Chance_any s p nn c a l 4 w0 _ G0.out.gen H0.out (G0.out.below HB.out hs0) hs0 (by omega) (by omega) (by omega)).mono ?_
      rintro e w1 ⟨v, rfl, hg, hk, -⟩
      have G1 := hidden (G0.out.call hg hk)
      clear hg hk
      cases v
      · go_wp2
        go_meet
        exact ⟨false, _, rfl, (fun h => by cases h), by omega, (fun h => by cases h), G1⟩
      · go_wp2
        go_meet
        exact ⟨true, _, rfl, fun _ => by omega, by omega, fun _ => by omega, G1⟩
  case rest =>
    rename World => w1
    obtain ⟨v, a1, rfl, hvt, ha1, -, G1⟩ := hcut
    clear G0
    cases v
    rotate_left
    · have hv1 := hvt rfl
      clear hvt
      go_wp2_with fail
      with_reducible refine (Byt.l1Next_any s p nn c a1 l (vars : Int) w0 _ G1.out.gen H0.out (G1.out.below HB.out hs0) hs0 (by omega) (by omega) (by omega)).mono ?_
      rintro e w2 ⟨x, rfl, hx0, hx1, hg, hk, -⟩
      have G2 := hidden (G1.out.call hg hk)
      clear hg hk G1
      have hsz := G2.out.grw.size
      go_wp2
      go_ret
      exact ⟨w2.heap.size, 1, 1, a1 + 1, rfl, by omega, hm1, by omega, ⟨G2.out.gen.alloc _, ⟨_, ownI_one w2 w.heap.size _ hsz⟩, grownBy_trans G2.out.grw (World.grownBy_alloc w2 _ (some s)), hsw, hsz⟩⟩
    · clear hvt
      have d1 := (HO.out.grown G1.out.grw hBs).c0
      go_wp2_with fail
      with_reducible refine (Byt.l1Next_any s p nn c a1 l (k : Int) w0 _ G1.out.gen H0.out (G1.out.below HB.out hs0) hs0 (by omega) (by omega) (by omega)).mono ?_
      rintro e w2 ⟨x, rfl, hx0, hx1, hg, hk, -⟩
      have G2 := hidden (G1.out.call hg hk)
      obtain ⟨n0, rfl⟩ := Int.eq_ofNat_of_zero_le hx0
      have hn0 : n0 < k := by omega
      clear hg hk G1 hx0 hx1 d1
      have O2 := hidden (HO.out.grown G2.out.grw hBs)
      have Y2 := hidden (HY.out.grown G2.out.grw hgs)
      have d1 := O2.out.c0
      go_wp2
      go_loopw [10, 11] (fun z i wr => ∃ (j t : Nat), j < k ∧ t ≤ k ∧ z = .int .i64 j ∧ i = .int .i64 t ∧ wr = w2 ∧ Hid (j = (n0 + t) % k) ∧ Hid (∀ u, u < t → (most : Int) ≤ A ((n0 + u) % k))) (fun _ i _ => k - (intOf i).toNat)
      case atStart => exact ⟨n0, 0, hn0, Nat.zero_le _, rfl, rfl, rfl, hidden (by rw [Nat.add_zero]; exact (Nat.mod_eq_of_lt hn0).symm), hidden (fun u hu => by omega)⟩
      case round =>
        obtain ⟨j, t, hj, ht, rfl, rfl, rfl, HJ, HM⟩ := hrel
        have c1 := Y2.out.arity j hj
        have har := HS.out.arity j hj
        obtain ⟨ar, hA⟩ : ∃ ar : Nat, A j = ar := ⟨(A j).toNat, by omega⟩
        have HA := hidden hA
        rw [hA] at c1 har
        clear hA
        rw [Nat.zero_add] at c1
        have htk : t < k := by
          refine Classical.byContradiction fun htk => ?_
          obtain ⟨ci, hci, hc0⟩ := HC.out
          obtain ⟨u, hu, hue⟩ := round_all hn0 hci
          have := HM.out u (by omega)
          rw [hue, hc0] at this
          omega
        have htk' : (t : Int) < k := by omega
        by_cases hma : most ≤ ar
        · have hma' : (most : Int) ≤ ar := by omega
          obtain ⟨j2, hj2, hj2k⟩ : ∃ j2 : Nat, ((j : Int) + 1) % (k : Int) = (j2 : Int) ∧ j2 < k := ⟨(j + 1) % k, by rw [Int.natCast_emod, Int.natCast_add]; rfl, Nat.mod_lt _ hk1⟩
          have hkz : ((k : Int) == 0) = false := by simp; omega
          have HJ2 := hidden (show j2 = (n0 + (t + 1)) % k from by
            have h1 : ((j2 : Nat) : Int) = (((j + 1) % k : Nat) : Int) := by rw [← hj2, Int.natCast_emod, Int.natCast_add]; rfl
            have h2 : j2 = (j + 1) % k := by omega
            rw [h2, HJ.out, Nat.mod_add_mod, Nat.add_assoc])
          have HM2 := hidden (show ∀ u, u < t + 1 → (most : Int) ≤ A ((n0 + u) % k) from fun u hu => by
            by_cases e : u = t
            · rw [e, ← HJ.out, HA.out]; exact hma'
            · exact HM.out u (by omega))
          go_wp2
          go_roundw
          case rel => exact ⟨j2, t + 1, hj2k, by omega, by rw [hj2], by go_num, trivial, HJ2, HM2⟩
          case measure => simp [intOf]; omega
        · have hlt : ¬ (most : Int) ≤ ar := by omega
          have D1 := hidden (show Dr w (wr.alloc (.cells #[.int .i64 (j : Int)] 2)) s p nn c (a1 + 1) wr.heap.size 1 1 from ⟨G2.out.gen.alloc _, ⟨_, ownI_one wr w.heap.size _ G2.out.grw.size⟩, grownBy_trans G2.out.grw (World.grownBy_alloc wr _ (some s)), hsw, G2.out.grw.size⟩)
          have O3 := hidden (O2.out.keep (alloc_below wr (.cells #[.int .i64 (j : Int)] 2)))
          have Y3 := hidden (Y2.out.keep (alloc_below wr (.cells #[.int .i64 (j : Int)] 2)))
          have d2 := O3.out.c0
          have c2 := Y3.out.arity j hj
          rw [HA.out, Nat.zero_add] at c2
          clear HM HJ
          by_cases hm2 : most < 2
          · have hm2' : (most : Int) < 2 := by omega
            obtain rfl : ar = 0 := by omega
            go_wp2
            go_loopw [10, 12] (fun z i wr' => z = .int .i64 j ∧ i = .int .i64 0 ∧ wr' = wr) (fun _ _ _ => 0)
            case atStart => exact ⟨rfl, rfl, rfl⟩
            case round =>
              obtain ⟨rfl, rfl, rfl⟩ := hrel
              have hk0 : (0 : Int) < k := by omega
              go_wp2
              go_ret
              exact ⟨_, 1, 1, a1 + 1, rfl, by omega, hm1, by omega, D1.out⟩
          · have hm2' : ¬ (most : Int) < 2 := by omega
            rcases (show ar = 0 ∨ ar = 1 ∨ ar = 2 by omega) with rfl | rfl | rfl
            · go_wp2
              go_ret
              exact ⟨_, 1, 1, rfl, Nat.le_refl _, hm1, a1 + 1, by omega, D1.out⟩
            · have hmc : (most : Int) - 1 = ((most - 1 : Nat) : Int) := by omega
              have C1 := IH.out (most - 1) (by omega) (by omega) (by omega) (a1 + 1) (wr.alloc (.cells #[.int .i64 (j : Int)] 2)) (by omega) D1.out.gen (D1.out.below HB.out hs0) O3.out Y3.out
              rw [← hmc] at C1
              have C1 := hidden C1
              clear IH hmc
              go_wp2_with fail
              with_reducible refine C1.out.mono ?_
              rintro e w3 ⟨g3, d3, r3, a3, rfl, hr3, hr3m, ha3, hd⟩
              obtain ⟨M, hM⟩ := hd.own
              obtain ⟨L, hL⟩ := (D1.out.call hd.gen hd.grw).own
              have OL := hidden hL.vals
              have OM := hidden hM.ints
              have W3 := hidden (show w.heap.size ≤ w3.heap.size from (grownBy_trans D1.out.grw hd.grw).size)
              have D3 := hidden hd
              clear hd hM hL C1
              go_wp2_with (first | (at_builtin; refine wpList_append_own _ rfl _ _ 27 rfl w.heap.size 2 _ (.int .i64 0) 1 8 Try.underlying27 rfl rfl rfl rfl rfl (by decide) _ _ _ rfl OL.out ⟨g3, 0, none⟩ r3 d3 (valsI M r3) rfl (by simp [valsI]) OM.out.src0 (intNews _ _) (by unfold maxLen; omega) (by omega) W3.out ?_) | fail)
              intro v' w4 hown hgrow hnil
              obtain ⟨g4, d4, rfl, hd4⟩ := Dr.more D1.out D3.out hgrow hown (by simpa using hnil)
              have D4 := hidden hd4
              clear hown hgrow hnil hd4 D3 OL OM W3
              go_wp2
              go_ret
              exact ⟨g4, d4, 1 + r3, a3, rfl, by omega, by omega, by omega, D4.out⟩
            · have hmc : (most : Int) - 2 = ((most - 2 : Nat) : Int) := by omega
              have C1 := IH.out (most - 2) (by omega) (by omega) (by omega) (a1 + 1) (wr.alloc (.cells #[.int .i64 (j : Int)] 2)) (by omega) D1.out.gen (D1.out.below HB.out hs0) O3.out Y3.out
              rw [← hmc] at C1
              have C1 := hidden C1
              clear hmc
              go_wp2_with fail
              with_reducible refine C1.out.mono ?_
              rintro e w3 ⟨g3, d3, r3, a3, rfl, hr3, hr3m, ha3, hd⟩
              obtain ⟨M, hM⟩ := hd.own
              obtain ⟨L, hL⟩ := (D1.out.call hd.gen hd.grw).own
              have OL := hidden hL.vals
              have OM := hidden hM.ints
              have W3 := hidden (show w.heap.size ≤ w3.heap.size from (grownBy_trans D1.out.grw hd.grw).size)
              have D3 := hidden hd
              clear hd hM hL C1
              go_wp2_with (first | (at_builtin; refine wpList_append_own _ rfl _ _ 27 rfl w.heap.size 2 _ (.int .i64 0) 1 8 Try.underlying27 rfl rfl rfl rfl rfl (by decide) _ _ _ rfl OL.out ⟨g3, 0, none⟩ r3 d3 (valsI M r3) rfl (by simp [valsI]) OM.out.src0 (intNews _ _) (by unfold maxLen; omega) (by omega) W3.out ?_) | fail)
              intro v' w4 hown hgrow hnil
              obtain ⟨g4, d4, rfl, hd4⟩ := Dr.more D1.out D3.out hgrow hown (by simpa using hnil)
              have D4 := hidden hd4
              clear hown hgrow hnil hd4 D3 OL OM W3 O3 Y3 D1 d2 c2
              have hmc : (most : Int) - 1 - r3 = ((most - 1 - r3 : Nat) : Int) := by omega
              have C2 := IH.out (most - 1 - r3) (by omega) (by omega) (by omega) a3 w4 (by omega) D4.out.gen (D4.out.below HB.out hs0) (HO.out.grown D4.out.grw hBs) (HY.out.grown D4.out.grw hgs)
              rw [← hmc] at C2
              have C2 := hidden C2
              clear hmc IH
              go_wp2_with fail
              with_reducible refine C2.out.mono ?_
              rintro e w5 ⟨g5, d5, r5, a5, rfl, hr5, hr5m, ha5, hd⟩
              obtain ⟨M', hM⟩ := hd.own
              obtain ⟨L', hL⟩ := (D4.out.call hd.gen hd.grw).own
              have OL := hidden hL.vals
              have OM := hidden hM.ints
              have W5 := hidden (show w.heap.size ≤ w5.heap.size from (grownBy_trans D4.out.grw hd.grw).size)
              have D5 := hidden hd
              clear hd hM hL C2
              go_wp2_with (first | (at_builtin; refine wpList_append_own _ rfl _ _ 27 rfl w.heap.size 2 _ (.int .i64 0) 1 8 Try.underlying27 rfl rfl rfl rfl rfl (by decide) _ _ _ rfl OL.out ⟨g5, 0, none⟩ r5 d5 (valsI M' r5) rfl (by simp [valsI]) OM.out.src0 (intNews _ _) (by unfold maxLen; omega) (by omega) W5.out ?_) | fail)
              intro v' w6 hown hgrow hnil
              obtain ⟨g6, d6, rfl, hd6⟩ := Dr.more D4.out D5.out hgrow hown (by simpa using hnil)
              have D6 := hidden hd6
              clear hown hgrow hnil hd6 D5 OL OM W5
              go_wp2
              go_ret
              exact ⟨g6, d6, 1 + r3 + r5, a5, rfl, by omega, by omega, by omega, D6.out⟩

end Go.Proofs.Ytjjpkhlbokfjpaa
