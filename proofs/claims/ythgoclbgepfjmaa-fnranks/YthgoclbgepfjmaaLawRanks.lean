/- Law FnRanks, walked. -/
import Derived.Test.YthgoclbgepfjmaaFld
import Derived.Deep.RegionHeld3
namespace Go.Proofs.Ythgoclbgepfjmaa
open Go.RowKit

set_option maxRecDepth 20000 in
set_option maxHeartbeats 25600000 in
theorem law_ranks (p : Option Addr) (nn c : Nat) (l : List Int) (w : World) (h : Byt.Src w p nn l) (hn : nn ≤ 1048576) :
    Calls Try.prog 4 #[.slice p nn c] w fun e w' => e = .returned (.bool true) ∧ Below w.heap.size w w' := by
  have H := hidden h
  clear h
  go_enter Try.func4, Try.ntmps4
  go_wp2_with fail
  with_reducible refine (lwBig_any p nn c w hn).mono ?_
  rintro e w0 ⟨rfl, rfl⟩
  go_wp2_with fail
  with_reducible refine (drawRaise_any p nn c l w0 H.out).mono ?_
  rintro e w1 ⟨q, n, d0, g, off, m, d, x, rfl, hm, hL, hsv, -, -, hb⟩
  have KEY := ranks_key q n d0 g off m d x w1 hm hL hsv
  have B := hidden (keepB hb (alloc_below w1 (.cells #[.slice q n d0] 26)))
  have D := hidden (One.new w1 (.slice q n d0) 26)
  have BW := hidden (alloc_below w1 (.cells #[.slice q n d0] 26))
  clear hL hsv hb H
  have f48 := fld48
  have f38a := fld38a
  have f38b := fld38b
  rcases KEY with ⟨C, O, K, hC, c21, c22, c23, c24, c25, c26⟩ | ⟨g0, N, A, L, rfl, hn7, hk, hS, hI, hc⟩
  · have C21 := hidden c21
    have C22 := hidden c22
    have C23 := hidden c23
    have C24 := hidden c24
    have C25 := hidden c25
    have C26 := hidden c26
    have HC := hidden hC
    clear c21 c22 c23 c24 c25 c26 hC
    go_wp2_with fail
    with_reducible refine (C21.out _ BW.out).mono ?_
    rintro e w2 ⟨rfl, hb⟩
    replace hb := keepB hb (alloc_below _ (.cells #[.int .i64 C, .slice none 0 0] 48))
    replace D := hidden (D.out.keep hb)
    replace B := hidden (keepB B.out hb)
    replace BW := hidden (keepB BW.out hb)
    have R := hidden (Two.new w2 (.int .i64 C) (.slice none 0 0) 48)
    clear hb C21
    have S22 := hidden (show ∀ wc, Below (w2.alloc (.cells #[.int .i64 C, .slice none 0 0] 48)).heap.size (w2.alloc (.cells #[.int .i64 C, .slice none 0 0] 48)) wc → Calls Try.prog 22 #[.agg #[.slice q n d0], .slice (some ⟨g, off, none⟩) m d, .int .i64 x] wc fun e w' => (∃ a b k, e = .returned (.agg #[.int .i64 C, .slice a b k])) ∧ Below (w2.alloc (.cells #[.int .i64 C, .slice none 0 0] 48)).heap.size (w2.alloc (.cells #[.int .i64 C, .slice none 0 0] 48)) w' ∧ w'.cell? ⟨w1.heap.size, 0, none⟩ = some (.slice q n d0) ∧ w'.cell? ⟨w2.heap.size, 0, none⟩ = some (.int .i64 C) from fun wc hc => by
      refine (C22.out wc (keepB BW.out hc)).mono ?_
      rintro e w' ⟨h, hb'⟩
      exact ⟨h, keepB hc hb', (D.out.keep (keepB hc hb')).c0, (R.out.keep (keepB hc hb')).c0⟩)
    have S23 := hidden (show ∀ wc, Below (w2.alloc (.cells #[.int .i64 C, .slice none 0 0] 48)).heap.size (w2.alloc (.cells #[.int .i64 C, .slice none 0 0] 48)) wc → Calls Try.prog 23 #[.agg #[.slice q n d0], .slice (some ⟨g, off, none⟩) m d] wc fun e w' => e = .returned (.int .i64 O) ∧ Below (w2.alloc (.cells #[.int .i64 C, .slice none 0 0] 48)).heap.size (w2.alloc (.cells #[.int .i64 C, .slice none 0 0] 48)) w' ∧ w'.cell? ⟨w1.heap.size, 0, none⟩ = some (.slice q n d0) ∧ w'.cell? ⟨w2.heap.size, 0, none⟩ = some (.int .i64 C) from fun wc hc => by
      refine (C23.out wc (keepB BW.out hc)).mono ?_
      rintro e w' ⟨h, hb'⟩
      exact ⟨h, keepB hc hb', (D.out.keep (keepB hc hb')).c0, (R.out.keep (keepB hc hb')).c0⟩)
    have S24 := hidden (show ∀ wc, Below (w2.alloc (.cells #[.int .i64 C, .slice none 0 0] 48)).heap.size (w2.alloc (.cells #[.int .i64 C, .slice none 0 0] 48)) wc → Calls Try.prog 24 #[.agg #[.slice q n d0], .slice (some ⟨g, off, none⟩) m d] wc fun e w' => e = .returned (.int .i64 O) ∧ Below (w2.alloc (.cells #[.int .i64 C, .slice none 0 0] 48)).heap.size (w2.alloc (.cells #[.int .i64 C, .slice none 0 0] 48)) w' ∧ w'.cell? ⟨w1.heap.size, 0, none⟩ = some (.slice q n d0) ∧ w'.cell? ⟨w2.heap.size, 0, none⟩ = some (.int .i64 C) from fun wc hc => by
      refine (C24.out wc (keepB BW.out hc)).mono ?_
      rintro e w' ⟨h, hb'⟩
      exact ⟨h, keepB hc hb', (D.out.keep (keepB hc hb')).c0, (R.out.keep (keepB hc hb')).c0⟩)
    have e0 := D.out.c0
    have r0 := R.out.c0
    have hcc : (C != C) = false := by simp
    have hoo : (O != O) = false := by simp
    go_wp2_with fail
    go_cut [39] (fun t wc => t = .bool false ∧ Below (w2.alloc (.cells #[.int .i64 C, .slice none 0 0] 48)).heap.size (w2.alloc (.cells #[.int .i64 C, .slice none 0 0] 48)) wc)
    case first =>
      go_region_held3 (fun wz => wz.cell? ⟨w1.heap.size, 0, none⟩ = some (.slice q n d0) ∧ wz.cell? ⟨w2.heap.size, 0, none⟩ = some (.int .i64 C)) (first | exact ⟨by assumption, by assumption⟩ | go_keep) (first
        | (go_at_call 22; with_reducible refine (S22.out _ ?_).mono ?_; exact (Below.refl _ _).drew; rintro e v5 ⟨⟨a5, b5, k5, rfl⟩, bb5, t5, r5⟩)
        | (go_at_call 23; with_reducible refine (S23.out _ bb5).mono ?_; rintro e v6 ⟨rfl, bb6, t6, r6⟩)
        | (go_at_call 24; with_reducible refine (S24.out _ bb6).mono ?_; rintro e v7 ⟨rfl, bb7, t7, r7⟩))
      all_goals (go_wp2_with fail; go_meet)
      all_goals exact ⟨rfl, bb7⟩
    case rest =>
      rename World => w3
      obtain ⟨rfl, hb⟩ := hcut
      replace D := hidden (D.out.keep hb)
      replace B := hidden (keepB B.out hb)
      replace BW := hidden (keepB BW.out hb)
      replace R := hidden (R.out.keep hb)
      clear hb S22 S23 S24 e0 r0 C22 C23 C24 hcc hoo
      have r0 := R.out.c0
      have hC' : (C != 0) = true := by have := HC.out; simpa using this
      have S25 := hidden (show ∀ wc, Below w3.heap.size w3 wc → Calls Try.prog 25 #[.agg #[.slice q n d0], .slice (some ⟨g, off, none⟩) m d, .int .i64 x] wc fun e w' => (∃ z, e = .returned (.agg #[.int .i64 K, .int .i64 z])) ∧ Below w3.heap.size w3 w' ∧ w'.cell? ⟨w1.heap.size, 0, none⟩ = some (.slice q n d0) from fun wc hc => by
        refine (C25.out wc (keepB BW.out hc)).mono ?_
        rintro e w' ⟨h, hb'⟩
        exact ⟨h, keepB hc hb', (D.out.keep (keepB hc hb')).c0⟩)
      have S26 := hidden (show ∀ wc, Below w3.heap.size w3 wc → Calls Try.prog 26 #[.agg #[.slice q n d0], .slice (some ⟨g, off, none⟩) m d, .int .i64 x] wc fun e w' => (∃ z, e = .returned (.agg #[.int .i64 K, .int .i64 z])) ∧ Below w3.heap.size w3 w' ∧ w'.cell? ⟨w1.heap.size, 0, none⟩ = some (.slice q n d0) from fun wc hc => by
        refine (C26.out wc (keepB BW.out hc)).mono ?_
        rintro e w' ⟨h, hb'⟩
        exact ⟨h, keepB hc hb', (D.out.keep (keepB hc hb')).c0⟩)
      have e0 := D.out.c0
      have hkk : (K == K) = true := by simp
      go_wp2_with fail
      go_region_held3 (fun wz => wz.cell? ⟨w1.heap.size, 0, none⟩ = some (.slice q n d0)) (first | assumption | go_keep) (first
        | (go_at_call 25; with_reducible refine (S25.out _ ?_).mono ?_; exact (Below.refl _ _).drew; rintro e v5 ⟨⟨z5, rfl⟩, bb5, t5⟩)
        | (go_at_call 26; with_reducible refine (S26.out _ bb5).mono ?_; rintro e v6 ⟨⟨z6, rfl⟩, bb6, t6⟩))
      all_goals go_wp2
      all_goals go_ret
      all_goals exact ⟨rfl, keepB B.out bb6⟩
  · obtain ⟨ho1, hx1⟩ : orderF n N A m L = 0 ∧ inB x n = true := by
      refine ⟨Classical.byContradiction fun h => ?_, ?_⟩
      · rw [ra_fault h] at hc; exact h hc
      · cases hb : inB x n
        · by_cases h : orderF n N A m L = 0
          · rw [ra_range h hb] at hc; omega
          · rw [ra_fault h] at hc; exact absurd hc h
        · rfl
    obtain rfl : m = n := (order_ok ho1).1
    have Q := hidden (hS.keep BW.out)
    have I := hidden (hI.keep BW.out)
    have HK := hidden hk
    have HO := hidden ho1
    have HX := hidden hx1
    have HC := hidden hc
    clear hS hI hk ho1 hx1 hc
    go_wp2_with fail
    with_reducible refine (implRaise_any _ _ _ _ _ _ _ _ N A L x _ Q.out I.out HK.out (by omega)).mono ?_
    rintro e w2 ⟨ha, hb⟩
    rcases ha with ⟨ha, -⟩ | ⟨-, i, gr, dr, hi, him, h6, rfl, hgr, ho⟩
    · exact absurd HC.out ha
    replace hb := keepB hb (alloc_below _ (.cells #[.int .i64 0, .slice (some ⟨gr, 0, none⟩) m dr] 48))
    replace D := hidden (D.out.keep hb)
    replace B := hidden (keepB B.out hb)
    replace BW := hidden (keepB BW.out hb)
    replace Q := hidden (Q.out.keep hb)
    replace I := hidden (I.out.keep hb)
    have R := hidden (Two.new w2 (.int .i64 0) (.slice (some ⟨gr, 0, none⟩) m dr) 48)
    have IR := hidden (ho.ints.keep (alloc_below w2 (.cells #[.int .i64 0, .slice (some ⟨gr, 0, none⟩) m dr] 48)))
    have HI := hidden hi
    have HOR := hidden (raised_order HO.out him)
    clear hb ho hgr HC hi
    have S22 := hidden (show ∀ wc, Below (w2.alloc (.cells #[.int .i64 0, .slice (some ⟨gr, 0, none⟩) m dr] 48)).heap.size (w2.alloc (.cells #[.int .i64 0, .slice (some ⟨gr, 0, none⟩) m dr] 48)) wc → Calls Try.prog 22 #[.agg #[.slice (some ⟨g0, 0, none⟩) m d0], .slice (some ⟨g, off, none⟩) m d, .int .i64 x] wc fun e w' => (∃ a b k, e = .returned (.agg #[.int .i64 0, .slice a b k])) ∧ Below (w2.alloc (.cells #[.int .i64 0, .slice (some ⟨gr, 0, none⟩) m dr] 48)).heap.size (w2.alloc (.cells #[.int .i64 0, .slice (some ⟨gr, 0, none⟩) m dr] 48)) w' ∧ w'.cell? ⟨w1.heap.size, 0, none⟩ = some (.slice (some ⟨g0, 0, none⟩) m d0) ∧ w'.cell? ⟨w2.heap.size, 0, none⟩ = some (.int .i64 0) from fun wc hc => by
      refine (show Calls Try.prog 22 #[.agg #[.slice (some ⟨g0, 0, none⟩) m d0], .slice (some ⟨g, off, none⟩) m d, .int .i64 x] wc (fun e w' => (∃ a b k, e = .returned (.agg #[.int .i64 0, .slice a b k])) ∧ Below wc.heap.size wc w') from (specRaise_any _ _ _ _ _ _ _ _ N A L x wc (Q.out.keep hc) (I.out.keep hc) HK.out (by omega)).mono (by rintro e w' ⟨⟨h0, _⟩ | ⟨_, _, _, _, _, _, _, rfl, _⟩, hb⟩; exact absurd (ra_ok HO.out HX.out (by rw [HI.out]; omega)) h0; exact ⟨⟨_, _, _, rfl⟩, hb⟩)).mono ?_
      rintro e w' ⟨h, hb'⟩
      exact ⟨h, keepB hc hb', (D.out.keep (keepB hc hb')).c0, (R.out.keep (keepB hc hb')).c0⟩)
    have S23 := hidden (show ∀ wc, Below (w2.alloc (.cells #[.int .i64 0, .slice (some ⟨gr, 0, none⟩) m dr] 48)).heap.size (w2.alloc (.cells #[.int .i64 0, .slice (some ⟨gr, 0, none⟩) m dr] 48)) wc → Calls Try.prog 23 #[.agg #[.slice (some ⟨g0, 0, none⟩) m d0], .slice (some ⟨g, off, none⟩) m d] wc fun e w' => e = .returned (.int .i64 0) ∧ Below (w2.alloc (.cells #[.int .i64 0, .slice (some ⟨gr, 0, none⟩) m dr] 48)).heap.size (w2.alloc (.cells #[.int .i64 0, .slice (some ⟨gr, 0, none⟩) m dr] 48)) w' ∧ w'.cell? ⟨w1.heap.size, 0, none⟩ = some (.slice (some ⟨g0, 0, none⟩) m d0) ∧ w'.cell? ⟨w2.heap.size, 0, none⟩ = some (.int .i64 0) from fun wc hc => by
      refine (show Calls Try.prog 23 #[.agg #[.slice (some ⟨g0, 0, none⟩) m d0], .slice (some ⟨g, off, none⟩) m d] wc (fun e w' => e = .returned (.int .i64 0) ∧ Below wc.heap.size wc w') from (implOrder_any _ _ _ _ _ _ _ _ N A L wc (Q.out.keep hc) (I.out.keep hc) HK.out (by omega)).mono (by rintro e w' ⟨rfl, hb⟩; exact ⟨by rw [HO.out], hb⟩)).mono ?_
      rintro e w' ⟨h, hb'⟩
      exact ⟨h, keepB hc hb', (D.out.keep (keepB hc hb')).c0, (R.out.keep (keepB hc hb')).c0⟩)
    have S24 := hidden (show ∀ wc, Below (w2.alloc (.cells #[.int .i64 0, .slice (some ⟨gr, 0, none⟩) m dr] 48)).heap.size (w2.alloc (.cells #[.int .i64 0, .slice (some ⟨gr, 0, none⟩) m dr] 48)) wc → Calls Try.prog 24 #[.agg #[.slice (some ⟨g0, 0, none⟩) m d0], .slice (some ⟨g, off, none⟩) m d] wc fun e w' => e = .returned (.int .i64 0) ∧ Below (w2.alloc (.cells #[.int .i64 0, .slice (some ⟨gr, 0, none⟩) m dr] 48)).heap.size (w2.alloc (.cells #[.int .i64 0, .slice (some ⟨gr, 0, none⟩) m dr] 48)) w' ∧ w'.cell? ⟨w1.heap.size, 0, none⟩ = some (.slice (some ⟨g0, 0, none⟩) m d0) ∧ w'.cell? ⟨w2.heap.size, 0, none⟩ = some (.int .i64 0) from fun wc hc => by
      refine (show Calls Try.prog 24 #[.agg #[.slice (some ⟨g0, 0, none⟩) m d0], .slice (some ⟨g, off, none⟩) m d] wc (fun e w' => e = .returned (.int .i64 0) ∧ Below wc.heap.size wc w') from (specOrder_any _ _ _ _ _ _ _ _ N A L wc (Q.out.keep hc) (I.out.keep hc) HK.out).mono (by rintro e w' ⟨rfl, hb⟩; exact ⟨by rw [HO.out], hb⟩)).mono ?_
      rintro e w' ⟨h, hb'⟩
      exact ⟨h, keepB hc hb', (D.out.keep (keepB hc hb')).c0, (R.out.keep (keepB hc hb')).c0⟩)
    have e0 := D.out.c0
    have r0 := R.out.c0
    go_wp2_with fail
    go_cut [39] (fun t wc => t = .bool false ∧ Below (w2.alloc (.cells #[.int .i64 0, .slice (some ⟨gr, 0, none⟩) m dr] 48)).heap.size (w2.alloc (.cells #[.int .i64 0, .slice (some ⟨gr, 0, none⟩) m dr] 48)) wc)
    case first =>
      go_region_held3 (fun wz => wz.cell? ⟨w1.heap.size, 0, none⟩ = some (.slice (some ⟨g0, 0, none⟩) m d0) ∧ wz.cell? ⟨w2.heap.size, 0, none⟩ = some (.int .i64 0)) (first | exact ⟨by assumption, by assumption⟩ | go_keep) (first
        | (go_at_call 22; with_reducible refine (S22.out _ ?_).mono ?_; exact (Below.refl _ _).drew; rintro e v5 ⟨⟨a5, b5, k5, rfl⟩, bb5, t5, r5⟩)
        | (go_at_call 23; with_reducible refine (S23.out _ bb5).mono ?_; rintro e v6 ⟨rfl, bb6, t6, r6⟩)
        | (go_at_call 24; with_reducible refine (S24.out _ bb6).mono ?_; rintro e v7 ⟨rfl, bb7, t7, r7⟩))
      all_goals (go_wp2_with fail; go_meet)
      all_goals exact ⟨rfl, bb7⟩
    case rest =>
      rename World => w3
      obtain ⟨rfl, hb⟩ := hcut
      replace D := hidden (D.out.keep hb)
      replace B := hidden (keepB B.out hb)
      replace BW := hidden (keepB BW.out hb)
      replace R := hidden (R.out.keep hb)
      replace Q := hidden (Q.out.keep hb)
      replace I := hidden (I.out.keep hb)
      replace IR := hidden (IR.out.keep hb)
      clear hb S22 S23 S24 e0 r0
      have r0 := R.out.c0
      have r1 := R.out.c1
      have e0 := D.out.c0
      go_wp2_with fail
      with_reducible refine (implOrder_any _ _ _ _ _ _ _ _ N A (raised L i) _ Q.out IR.out HK.out (by omega)).mono ?_
      rintro e w4 ⟨rfl, hb⟩
      rw [HOR.out]
      clear r0 r1 e0
      replace D := hidden (D.out.keep hb)
      replace B := hidden (keepB B.out hb)
      replace R := hidden (R.out.keep hb)
      replace Q := hidden (Q.out.keep hb)
      replace I := hidden (I.out.keep hb)
      replace IR := hidden (IR.out.keep hb)
      clear hb BW
      go_wp2
      go_loopw [7, 8] (fun z j wr => ∃ k : Nat, k ≤ m ∧ j = .int .i64 k ∧ z = .int .i64 ((mvN (L i) (L (i + 1)) k : Nat) : Int) ∧ Hid (Below w4.heap.size w4 wr)) (fun _ j _ => m - (intOf j).toNat)
      case atStart => exact ⟨0, Nat.zero_le _, rfl, rfl, hidden (Below.refl _ _)⟩
      case round =>
        obtain ⟨k, hk, rfl, rfl, HB⟩ := hrel
        have hmv := mv_le (L i) (L (i + 1)) k
        by_cases hlt : k < m
        · have hkx : inB (k : Int) m = true := by simp [inB]; omega
          obtain ⟨r, hr, hLr, hrk, hrr⟩ := rank_raised HO.out him hkx
          have HRK := hidden (show rkC m N A m L (k : Int) = 0 ∧ rkV m N A m L (k : Int) = (r : Int) from ⟨(rk_ok HO.out hkx).1, by rw [(rk_ok HO.out hkx).2, hrk]⟩)
          have HRR := hidden (show rkC m N A m (raised L i) (k : Int) = 0 ∧ rkV m N A m (raised L i) (k : Int) = ((sw i r : Nat) : Int) from ⟨(rk_ok HOR.out hkx).1, by rw [(rk_ok HOR.out hkx).2, hrr]⟩)
          have HMV := hidden (show mvN (L i) (L (i + 1)) (k + 1) = mvN (L i) (L (i + 1)) k + (if r = i ∨ r = i + 1 then 1 else 0) from by
            simp only [mvN]
            congr 1
            have h1 : ((k : Int) = L i ∨ (k : Int) = L (i + 1)) ↔ (r = i ∨ r = i + 1) := by
              constructor
              · rintro (h | h)
                · exact Or.inl (order_inj HO.out hr (by omega) (hLr.trans h))
                · exact Or.inr (order_inj HO.out hr him (hLr.trans h))
              · rintro (h | h)
                · exact Or.inl (by rw [← hLr, h])
                · exact Or.inr (by rw [← hLr, h])
            simp only [h1])
          have hsw := sw_lt him hr
          generalize mvN (L i) (L (i + 1)) k = mv at *
          have D5 := hidden (D.out.keep HB.out)
          have R5 := hidden (R.out.keep HB.out)
          have Q5 := hidden (Q.out.keep HB.out)
          have I5 := hidden (I.out.keep HB.out)
          have IR5 := hidden (IR.out.keep HB.out)
          have e0 := D5.out.c0
          clear hLr hrk hrr hkx
          go_wp2_with fail
          with_reducible refine (implRank_any _ _ _ _ _ _ _ _ N A L (k : Int) _ Q5.out I5.out HK.out (by omega)).mono ?_
          rw [HRK.out.1, HRK.out.2]
          rintro e w5 ⟨rfl, hb⟩
          replace hb := keepB hb (alloc_below _ (.cells #[.int .i64 0, .int .i64 (r : Int)] 38))
          replace D5 := hidden (D5.out.keep hb)
          replace R5 := hidden (R5.out.keep hb)
          replace Q5 := hidden (Q5.out.keep hb)
          replace I5 := hidden (I5.out.keep hb)
          replace IR5 := hidden (IR5.out.keep hb)
          replace HB := hidden (keepB HB.out hb)
          have V1 := hidden (Two.new w5 (.int .i64 0) (.int .i64 (r : Int)) 38)
          clear hb e0
          have e0 := D5.out.c0
          have r1 := R5.out.c1
          go_wp2_with fail
          with_reducible refine (implRank_any _ _ _ _ _ _ _ _ N A (raised L i) (k : Int) _ Q5.out IR5.out HK.out (by omega)).mono ?_
          rw [HRR.out.1, HRR.out.2]
          rintro e w6 ⟨rfl, hb⟩
          replace hb := keepB hb (alloc_below _ (.cells #[.int .i64 0, .int .i64 (sw i r : Nat)] 38))
          replace D5 := hidden (D5.out.keep hb)
          replace Q5 := hidden (Q5.out.keep hb)
          replace I5 := hidden (I5.out.keep hb)
          replace V1 := hidden (V1.out.keep hb)
          replace HB := hidden (keepB HB.out hb)
          have V2 := hidden (Two.new w6 (.int .i64 0) (.int .i64 (sw i r : Nat)) 38)
          clear hb e0 r1 R5 IR5
          have S26 := hidden (show ∀ wc, Below (w6.alloc (.cells #[.int .i64 0, .int .i64 (sw i r : Nat)] 38)).heap.size (w6.alloc (.cells #[.int .i64 0, .int .i64 (sw i r : Nat)] 38)) wc → Calls Try.prog 26 #[.agg #[.slice (some ⟨g0, 0, none⟩) m d0], .slice (some ⟨g, off, none⟩) m d, .int .i64 (k : Int)] wc fun e w' => e = .returned (.agg #[.int .i64 0, .int .i64 (r : Int)]) ∧ Below (w6.alloc (.cells #[.int .i64 0, .int .i64 (sw i r : Nat)] 38)).heap.size (w6.alloc (.cells #[.int .i64 0, .int .i64 (sw i r : Nat)] 38)) w' ∧ w'.cell? ⟨w1.heap.size, 0, none⟩ = some (.slice (some ⟨g0, 0, none⟩) m d0) ∧ w'.cell? ⟨w5.heap.size, 0, none⟩ = some (.int .i64 0) ∧ w'.cell? ⟨w5.heap.size, 1, none⟩ = some (.int .i64 (r : Int)) ∧ w'.cell? ⟨w6.heap.size, 0, none⟩ = some (.int .i64 0) from fun wc hc => by
            refine (show Calls Try.prog 26 #[.agg #[.slice (some ⟨g0, 0, none⟩) m d0], .slice (some ⟨g, off, none⟩) m d, .int .i64 (k : Int)] wc (fun e w' => e = .returned (.agg #[.int .i64 0, .int .i64 (r : Int)]) ∧ Below wc.heap.size wc w') from (specRank_any _ _ _ _ _ _ _ _ N A L (k : Int) wc (Q5.out.keep hc) (I5.out.keep hc) HK.out (by omega)).mono (by rintro e w' ⟨rfl, hb⟩; exact ⟨by rw [HRK.out.1, HRK.out.2], hb⟩)).mono ?_
            rintro e w' ⟨h, hb'⟩
            exact ⟨h, keepB hc hb', (D5.out.keep (keepB hc hb')).c0, (V1.out.keep (keepB hc hb')).c0, (V1.out.keep (keepB hc hb')).c1, (V2.out.keep (keepB hc hb')).c0⟩)
          have e0 := D5.out.c0
          have a0 := V1.out.c0
          have a1 := V1.out.c1
          have b0 := V2.out.c0
          go_wp2_with fail
          go_cut [89] (fun t wc => t = .bool false ∧ Below (w6.alloc (.cells #[.int .i64 0, .int .i64 (sw i r : Nat)] 38)).heap.size (w6.alloc (.cells #[.int .i64 0, .int .i64 (sw i r : Nat)] 38)) wc)
          case first =>
            go_region_held3 (fun wz => wz.cell? ⟨w1.heap.size, 0, none⟩ = some (.slice (some ⟨g0, 0, none⟩) m d0) ∧ wz.cell? ⟨w5.heap.size, 0, none⟩ = some (.int .i64 0) ∧ wz.cell? ⟨w5.heap.size, 1, none⟩ = some (.int .i64 (r : Int)) ∧ wz.cell? ⟨w6.heap.size, 0, none⟩ = some (.int .i64 0)) (first | exact ⟨by assumption, by assumption, by assumption, by assumption⟩ | go_keep) (first
              | (go_at_call 26; with_reducible refine (S26.out _ ?_).mono ?_; exact (Below.refl _ _).drew; rintro e v5 ⟨rfl, bb5, t5, x5, y5, z5⟩))
            all_goals (go_wp2_with fail; go_meet)
            all_goals exact ⟨rfl, bb5⟩
          case rest =>
            rename World => w7
            obtain ⟨rfl, hb⟩ := hcut
            replace V1 := hidden (V1.out.keep hb)
            replace V2 := hidden (V2.out.keep hb)
            replace HB := hidden (keepB HB.out hb)
            clear hb S26 e0 a0 a1 b0 D5 Q5 I5
            have a1 := V1.out.c1
            have b1 := V2.out.c1
            by_cases hri : r = i ∨ r = i + 1
            · have HM := hidden (show mv + 1 = mvN (L i) (L (i + 1)) (k + 1) by rw [HMV.out, if_pos hri])
              have hne : ((r : Int) != ((sw i r : Nat) : Int)) = true := by
                have : r ≠ sw i r := by unfold sw; split <;> (try split) <;> omega
                simp; omega
              clear hri
              generalize sw i r = r' at *
              go_wp2
              go_roundw
              case rel => exact ⟨k + 1, by omega, by go_num, by rw [← HM.out]; go_num, HB⟩
              case measure => simp [intOf]; omega
            · have HM := hidden (show mv = mvN (L i) (L (i + 1)) (k + 1) by rw [HMV.out, if_neg hri]; rfl)
              have hne : ((r : Int) != ((sw i r : Nat) : Int)) = false := by
                have : r = sw i r := by unfold sw; split <;> (try split) <;> omega
                simp; omega
              clear hri
              generalize sw i r = r' at *
              go_wp2
              go_roundw
              case rel => exact ⟨k + 1, by omega, by go_num, by rw [← HM.out], HB⟩
              case measure => simp [intOf]; omega
        · obtain rfl : k = m := by omega
          obtain ⟨rx, hrx, hLx, hrkx, hrrx⟩ := rank_raised HO.out him HX.out
          obtain rfl : rx = i := by have := hrkx.symm.trans HI.out; omega
          have hin : ∀ j, j < k → 0 ≤ L j ∧ L j < k := by
            obtain ⟨_, _, _, hout, _⟩ := order_ok HO.out
            intro j hj
            cases hb : inB (L j) k
            · exact absurd ⟨j, hj, hb⟩ hout
            · simpa [inB] using hb
          have hm2 := mv_two (m := k) (a := L rx) (b := L (rx + 1)) (fun e => by have := order_inj HO.out (by omega) him e; omega) (hin rx (by omega)) (hin (rx + 1) him)
          have hm3 : ((mvN (L rx) (L (rx + 1)) k : Nat) : Int) = 2 := by rw [hm2]; rfl
          rw [hm3]
          clear hm3
          have hwr : IntKind.i64.wrap ((rx : Int) + 1) = (rx : Int) + 1 := wrap_i64_small _ (by omega) (by omega)
          have HR1 := hidden (show rkC k N A k (raised L rx) x = 0 ∧ rkV k N A k (raised L rx) x = (rx : Int) + 1 from ⟨(rk_ok HOR.out HX.out).1, by rw [(rk_ok HOR.out HX.out).2, hrrx]; simp [sw]⟩)
          have HR2 := hidden (show rkC k N A k L x = 0 ∧ rkV k N A k L x = (rx : Int) from ⟨(rk_ok HO.out HX.out).1, by rw [(rk_ok HO.out HX.out).2, hrkx]⟩)
          have D5 := hidden (D.out.keep HB.out)
          have R5 := hidden (R.out.keep HB.out)
          have Q5 := hidden (Q.out.keep HB.out)
          have I5 := hidden (I.out.keep HB.out)
          have IR5 := hidden (IR.out.keep HB.out)
          clear hin hm2 hLx hrkx hrrx hmv hlt hk
          have S25a := hidden (show ∀ wc, Below wr.heap.size wr wc → Calls Try.prog 25 #[.agg #[.slice (some ⟨g0, 0, none⟩) k d0], .slice (some ⟨gr, 0, none⟩) k dr, .int .i64 x] wc fun e w' => e = .returned (.agg #[.int .i64 0, .int .i64 ((rx : Int) + 1)]) ∧ Below wr.heap.size wr w' ∧ w'.cell? ⟨w1.heap.size, 0, none⟩ = some (.slice (some ⟨g0, 0, none⟩) k d0) ∧ w'.cell? ⟨w2.heap.size, 1, none⟩ = some (.slice (some ⟨gr, 0, none⟩) k dr) from fun wc hc => by
            refine (show Calls Try.prog 25 #[.agg #[.slice (some ⟨g0, 0, none⟩) k d0], .slice (some ⟨gr, 0, none⟩) k dr, .int .i64 x] wc (fun e w' => e = .returned (.agg #[.int .i64 0, .int .i64 ((rx : Int) + 1)]) ∧ Below wc.heap.size wc w') from (implRank_any _ _ _ _ _ _ _ _ N A (raised L rx) x wc (Q5.out.keep hc) (IR5.out.keep hc) HK.out (by omega)).mono (by rintro e w' ⟨rfl, hb⟩; exact ⟨by rw [HR1.out.1, HR1.out.2], hb⟩)).mono ?_
            rintro e w' ⟨h, hb'⟩
            exact ⟨h, keepB hc hb', (D5.out.keep (keepB hc hb')).c0, (R5.out.keep (keepB hc hb')).c1⟩)
          have S25b := hidden (show ∀ wc, Below wr.heap.size wr wc → Calls Try.prog 25 #[.agg #[.slice (some ⟨g0, 0, none⟩) k d0], .slice (some ⟨g, off, none⟩) k d, .int .i64 x] wc fun e w' => e = .returned (.agg #[.int .i64 0, .int .i64 (rx : Int)]) ∧ Below wr.heap.size wr w' ∧ w'.cell? ⟨w1.heap.size, 0, none⟩ = some (.slice (some ⟨g0, 0, none⟩) k d0) ∧ w'.cell? ⟨w2.heap.size, 1, none⟩ = some (.slice (some ⟨gr, 0, none⟩) k dr) from fun wc hc => by
            refine (show Calls Try.prog 25 #[.agg #[.slice (some ⟨g0, 0, none⟩) k d0], .slice (some ⟨g, off, none⟩) k d, .int .i64 x] wc (fun e w' => e = .returned (.agg #[.int .i64 0, .int .i64 (rx : Int)]) ∧ Below wc.heap.size wc w') from (implRank_any _ _ _ _ _ _ _ _ N A L x wc (Q5.out.keep hc) (I5.out.keep hc) HK.out (by omega)).mono (by rintro e w' ⟨rfl, hb⟩; exact ⟨by rw [HR2.out.1, HR2.out.2], hb⟩)).mono ?_
            rintro e w' ⟨h, hb'⟩
            exact ⟨h, keepB hc hb', (D5.out.keep (keepB hc hb')).c0, (R5.out.keep (keepB hc hb')).c1⟩)
          have e0 := D5.out.c0
          have r1 := R5.out.c1
          have hii : (((rx : Int) + 1) == ((rx : Int) + 1)) = true := by simp
          go_wp2_with fail
          go_region_held3 (fun wz => wz.cell? ⟨w1.heap.size, 0, none⟩ = some (.slice (some ⟨g0, 0, none⟩) k d0) ∧ wz.cell? ⟨w2.heap.size, 1, none⟩ = some (.slice (some ⟨gr, 0, none⟩) k dr)) (first | exact ⟨by assumption, by assumption⟩ | go_keep) (first
            | (go_at_call 25; with_reducible refine (S25a.out _ ?_).mono ?_; exact (Below.refl _ _).drew; rintro e v5 ⟨rfl, bb5, t5, r5⟩)
            | (go_at_call 25; with_reducible refine (S25b.out _ bb5).mono ?_; rintro e v6 ⟨rfl, bb6, t6, r6⟩))
          all_goals go_wp2
          all_goals go_ret
          all_goals exact ⟨by simp, keepB B.out (keepB HB.out bb6)⟩

end Go.Proofs.Ythgoclbgepfjmaa
