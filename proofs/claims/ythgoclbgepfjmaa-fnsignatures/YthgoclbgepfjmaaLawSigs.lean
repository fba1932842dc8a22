/- Law FnSignatures, walked. -/
import Derived.Test.YthgoclbgepfjmaaSigsKey
import Derived.Deep.RegionHeld3
namespace Go.Proofs.Ythgoclbgepfjmaa
open Go.RowKit

set_option maxRecDepth 20000 in
set_option maxHeartbeats 25600000 in
theorem law_sigs (p : Option Addr) (nn c : Nat) (l : List Int) (w : World) (h : Byt.Src w p nn l) (hn : nn ≤ 1048576) :
    Calls Try.prog 3 #[.slice p nn c] w fun e w' => e = .returned (.bool true) ∧ Below w.heap.size w w' := by
  have H := hidden h
  clear h
  go_enter Try.func3, Try.ntmps3
  go_wp2_with fail
  with_reducible refine (sgBig_any p nn c w hn).mono ?_
  rintro e w0 ⟨rfl, rfl⟩
  go_wp2_with fail
  with_reducible refine (drawPack_any p nn c l w0 H.out).mono ?_
  rintro e w1 ⟨vs, rfl, hsd, hb⟩
  obtain ⟨q, n, d0, rfl⟩ : ∃ q n d0, vs = .slice q n d0 := by
    rcases hsd with rfl | ⟨g, m, d, N, A, rfl, _⟩
    · exact ⟨_, _, _, rfl⟩
    · exact ⟨_, _, _, rfl⟩
  obtain ⟨C, c9, c12, c13⟩ := pack_key q n d0 w1 hsd
  have C9 := hidden c9
  have C12 := hidden c12
  have C13 := hidden c13
  have B := hidden (keepB hb (alloc_below w1 (.cells #[.slice q n d0] 26)))
  have D := hidden (One.new w1 (.slice q n d0) 26)
  have BW := hidden (alloc_below w1 (.cells #[.slice q n d0] 26))
  clear hsd hb c9 c12 c13
  have e0 := D.out.c0
  go_wp2_with fail
  with_reducible refine (C9.out _ BW.out).mono ?_
  rintro e w2 ⟨⟨q2, n2, d2, rfl, hpk⟩, hb⟩
  have PK := hidden (fun hC => (hpk hC).keep (alloc_below w2 (.cells #[.int .i64 C, .slice q2 n2 d2] 29)))
  replace hb := keepB hb (alloc_below _ (.cells #[.int .i64 C, .slice q2 n2 d2] 29))
  replace D := hidden (D.out.keep hb)
  replace B := hidden (keepB B.out hb)
  replace BW := hidden (keepB BW.out hb)
  have R := hidden (Two.new w2 (.int .i64 C) (.slice q2 n2 d2) 29)
  have HS := hidden (src_keep H.out B.out)
  clear hb hpk C9 e0 H
  go_wp2_with fail
  with_reducible refine (drawRd_any p nn c l _ HS.out).mono ?_
  rintro e w3 ⟨g, v, d, dat, rfl, hg, hv, hvd, hd, hrow, hb⟩
  obtain ⟨K, c11, c14, -⟩ := read_key g v d dat w3 (by omega) hvd hd hrow
  have C11 := hidden c11
  have C14 := hidden c14
  have ROW := hidden hrow
  replace D := hidden (D.out.keep hb)
  replace B := hidden (keepB B.out hb)
  replace BW := hidden (keepB BW.out hb)
  replace R := hidden (R.out.keep hb)
  replace PK := hidden (fun hC => (PK.out hC).keep hb)
  clear hb hrow c11 c14 HS hg
  go_wp2_with fail
  with_reducible refine (C11.out _ (Below.refl _ _)).mono ?_
  rintro e w4 ⟨⟨q3, n3, d3, rfl, hrd⟩, hb⟩
  have RD := hidden (fun hK => (hrd hK).keep (alloc_below w4 (.cells #[.int .i64 K, .slice q3 n3 d3] 33)))
  replace hb := keepB hb (alloc_below _ (.cells #[.int .i64 K, .slice q3 n3 d3] 33))
  have BR := hidden hb
  replace D := hidden (D.out.keep hb)
  replace B := hidden (keepB B.out hb)
  replace BW := hidden (keepB BW.out hb)
  replace R := hidden (R.out.keep hb)
  replace PK := hidden (fun hC => (PK.out hC).keep hb)
  replace ROW := hidden (ROW.out.later hb ROW.out.blk)
  have T := hidden (Two.new w4 (.int .i64 K) (.slice q3 n3 d3) 33)
  clear hb hrd C11
  have f33 := fld33a
  have S12 := hidden (show ∀ wc, Below (w4.alloc (.cells #[.int .i64 K, .slice q3 n3 d3] 33)).heap.size (w4.alloc (.cells #[.int .i64 K, .slice q3 n3 d3] 33)) wc → Calls Try.prog 12 #[.agg #[.slice q n d0]] wc fun e w' => e = .returned (.int .i64 C) ∧ Below (w4.alloc (.cells #[.int .i64 K, .slice q3 n3 d3] 33)).heap.size (w4.alloc (.cells #[.int .i64 K, .slice q3 n3 d3] 33)) w' ∧ w'.cell? ⟨w1.heap.size, 0, none⟩ = some (.slice q n d0) ∧ w'.cell? ⟨w2.heap.size, 0, none⟩ = some (.int .i64 C) ∧ w'.cell? ⟨w4.heap.size, 0, none⟩ = some (.int .i64 K) from fun wc hc => by
    refine (C12.out wc (keepB BW.out hc)).mono ?_
    rintro e w' ⟨h, hb'⟩
    exact ⟨h, keepB hc hb', (D.out.keep (keepB hc hb')).c0, (R.out.keep (keepB hc hb')).c0, (T.out.keep (keepB hc hb')).c0⟩)
  have S13 := hidden (show ∀ wc, Below (w4.alloc (.cells #[.int .i64 K, .slice q3 n3 d3] 33)).heap.size (w4.alloc (.cells #[.int .i64 K, .slice q3 n3 d3] 33)) wc → Calls Try.prog 13 #[.agg #[.slice q n d0]] wc fun e w' => e = .returned (.int .i64 C) ∧ Below (w4.alloc (.cells #[.int .i64 K, .slice q3 n3 d3] 33)).heap.size (w4.alloc (.cells #[.int .i64 K, .slice q3 n3 d3] 33)) w' ∧ w'.cell? ⟨w1.heap.size, 0, none⟩ = some (.slice q n d0) ∧ w'.cell? ⟨w2.heap.size, 0, none⟩ = some (.int .i64 C) ∧ w'.cell? ⟨w4.heap.size, 0, none⟩ = some (.int .i64 K) from fun wc hc => by
    refine (C13.out wc (keepB BW.out hc)).mono ?_
    rintro e w' ⟨h, hb'⟩
    exact ⟨h, keepB hc hb', (D.out.keep (keepB hc hb')).c0, (R.out.keep (keepB hc hb')).c0, (T.out.keep (keepB hc hb')).c0⟩)
  have S14 := hidden (show ∀ wc, Below (w4.alloc (.cells #[.int .i64 K, .slice q3 n3 d3] 33)).heap.size (w4.alloc (.cells #[.int .i64 K, .slice q3 n3 d3] 33)) wc → Calls Try.prog 14 #[.slice (some ⟨g, 0, none⟩) v d] wc fun e w' => (∃ a b k, e = .returned (.agg #[.int .i64 K, .slice a b k])) ∧ Below (w4.alloc (.cells #[.int .i64 K, .slice q3 n3 d3] 33)).heap.size (w4.alloc (.cells #[.int .i64 K, .slice q3 n3 d3] 33)) w' ∧ w'.cell? ⟨w1.heap.size, 0, none⟩ = some (.slice q n d0) ∧ w'.cell? ⟨w2.heap.size, 0, none⟩ = some (.int .i64 C) ∧ w'.cell? ⟨w4.heap.size, 0, none⟩ = some (.int .i64 K) from fun wc hc => by
    refine (C14.out wc (keepB BR.out hc)).mono ?_
    rintro e w' ⟨h, hb'⟩
    exact ⟨h, keepB hc hb', (D.out.keep (keepB hc hb')).c0, (R.out.keep (keepB hc hb')).c0, (T.out.keep (keepB hc hb')).c0⟩)
  have e0 := D.out.c0
  have r0 := R.out.c0
  have t0 := T.out.c0
  have hcc : (C != C) = false := by simp
  have hkk : (K != K) = false := by simp
  go_wp2_with fail
  go_cut [38] (fun t wc => t = .bool false ∧ Below (w4.alloc (.cells #[.int .i64 K, .slice q3 n3 d3] 33)).heap.size (w4.alloc (.cells #[.int .i64 K, .slice q3 n3 d3] 33)) wc)
  case first =>
    go_region_held3 (fun wz => wz.cell? ⟨w1.heap.size, 0, none⟩ = some (.slice q n d0) ∧ wz.cell? ⟨w2.heap.size, 0, none⟩ = some (.int .i64 C) ∧ wz.cell? ⟨w4.heap.size, 0, none⟩ = some (.int .i64 K)) (first | exact ⟨by assumption, by assumption, by assumption⟩ | go_keep) (first
      | (go_at_call 12; with_reducible refine (S12.out _ ?_).mono ?_; exact (Below.refl _ _).drew; rintro e v5 ⟨rfl, bb5, t5, r5, s5⟩)
      | (go_at_call 13; with_reducible refine (S13.out _ bb5).mono ?_; rintro e v6 ⟨rfl, bb6, t6, r6, s6⟩)
      | (go_at_call 14; with_reducible refine (S14.out _ bb6).mono ?_; rintro e v7 ⟨⟨a7, b7, k7, rfl⟩, bb7, t7, r7, s7⟩))
    all_goals (go_wp2_with fail; go_meet)
    all_goals exact ⟨rfl, bb7⟩
  case rest =>
    rename World => w5
    obtain ⟨rfl, hb⟩ := hcut
    replace D := hidden (D.out.keep hb)
    replace B := hidden (keepB B.out hb)
    replace R := hidden (R.out.keep hb)
    replace T := hidden (T.out.keep hb)
    replace PK := hidden (fun hC => (PK.out hC).keep hb)
    replace RD := hidden (fun hK => (RD.out hK).keep hb)
    replace ROW := hidden (ROW.out.later hb ROW.out.blk)
    clear hb S12 S13 S14 e0 r0 t0 C12 C13 C14 BW BR hcc hkk
    have f29 := fld29a
    go_upto_region 9 with fail
    go_cut [50] (fun t wc => t = .bool false ∧ Below w5.heap.size w5 wc)
    case first =>
      have t0 := T.out.c0
      have t1 := T.out.c1
      by_cases hK : K = 0
      · have P9 := hidden (pack_back q3 n3 d3 v dat w5 ROW.out.len ROW.out.byt (RD.out hK))
        subst hK
        go_wp2_with fail
        with_reducible refine P9.out.mono ?_
        rintro e w6 ⟨g4, d4, rfl, h4, hb⟩
        have P15 := hidden (lwBytes_same g4 0 v d4 g 0 d dat w6 h4 (ROW.out.later hb ROW.out.blk))
        have B6 := hidden hb
        clear h4 hb t0 t1
        go_wp2_with fail
        with_reducible refine P15.out.mono ?_
        rintro e w7 ⟨rfl, hb⟩
        have B7 := hidden (keepB B6.out hb)
        clear hb
        go_wp2_with fail
        go_meet
        exact ⟨rfl, B7.out⟩
      · have hk0 : (K == 0) = false := by simpa using hK
        go_wp2_with fail
        go_meet
        exact ⟨rfl, Below.refl _ _⟩
    case rest =>
      rename World => w6
      obtain ⟨rfl, hb⟩ := hcut
      replace D := hidden (D.out.keep hb)
      replace B := hidden (keepB B.out hb)
      replace R := hidden (R.out.keep hb)
      replace PK := hidden (fun hC => (PK.out hC).keep hb)
      clear hb T RD ROW f29 f33
      have r0 := R.out.c0
      by_cases hC : C = 0
      · obtain ⟨g1, o, N, A, g2, rfl, hn7, hk, hS, hf, rfl, hn2, hn3, hn4, hd2, hrow⟩ := PK.out hC
        subst hC
        have Q := hidden hS
        have HK := hidden hk
        have HF := hidden hf
        have ROW := hidden hrow
        have HN2 := hidden hn2
        clear hS hk hf hrow PK hn2
        go_wp2
        clear r0
        go_loopw [7] (fun i wr => ∃ k : Nat, k ≤ n ∧ i = .int .i64 k ∧ Hid (Below w6.heap.size w6 wr)) (fun i _ => n - (intOf i).toNat)
        case atStart => exact ⟨0, Nat.zero_le _, rfl, hidden (Below.refl _ _)⟩
        case round =>
          obtain ⟨k, hk, rfl, HB⟩ := hrel
          have D7 := hidden (D.out.keep HB.out)
          have e0 := D7.out.c0
          by_cases hlt : k < n
          · have Q7 := hidden (Q.out.keep HB.out)
            have c1 := Q7.out.name k hlt
            have c2 := Q7.out.arity k hlt
            have HSY := hidden (sym_key HF.out hlt)
            have HAR := hidden (ar_key HF.out hlt)
            have S16 := hidden (show ∀ wc, Below wr.heap.size wr wc → Calls Try.prog 16 #[.agg #[.slice (some ⟨g1, o, none⟩) n d0], .string (N k)] wc fun e w' => e = .returned (.agg #[.int .i64 0, .int .i64 (k : Int)]) ∧ Below wr.heap.size wr w' ∧ w'.cell? ⟨w1.heap.size, 0, none⟩ = some (.slice (some ⟨g1, o, none⟩) n d0) ∧ w'.cell? ⟨g1, o + k * 2, none⟩ = some (.string (N k)) ∧ w'.cell? ⟨g1, o + k * 2 + 1, none⟩ = some (.int .i64 (A k)) from fun wc hc => by
              refine (implSymbol_any g1 o n d0 N A (N k) wc (Q7.out.keep hc) HK.out (HK.out.big k hlt)).mono ?_
              rw [HSY.out.1, HSY.out.2]
              rintro e w' ⟨h, hb'⟩
              have hbb := keepB hc hb'
              exact ⟨h, hbb, (D7.out.keep hbb).c0, (Q7.out.keep hbb).name k hlt, (Q7.out.keep hbb).arity k hlt⟩)
            have S17 := hidden (show ∀ wc, Below wr.heap.size wr wc → Calls Try.prog 17 #[.agg #[.slice (some ⟨g1, o, none⟩) n d0], .int .i64 (k : Int)] wc fun e w' => e = .returned (.agg #[.int .i64 0, .int .i64 (A k)]) ∧ Below wr.heap.size wr w' ∧ w'.cell? ⟨w1.heap.size, 0, none⟩ = some (.slice (some ⟨g1, o, none⟩) n d0) ∧ w'.cell? ⟨g1, o + k * 2, none⟩ = some (.string (N k)) ∧ w'.cell? ⟨g1, o + k * 2 + 1, none⟩ = some (.int .i64 (A k)) from fun wc hc => by
              refine (implArity_any g1 o n d0 N A (k : Int) wc (Q7.out.keep hc) HK.out).mono ?_
              rw [HAR.out.1, HAR.out.2]
              rintro e w' ⟨h, hb'⟩
              have hbb := keepB hc hb'
              exact ⟨h, hbb, (D7.out.keep hbb).c0, (Q7.out.keep hbb).name k hlt, (Q7.out.keep hbb).arity k hlt⟩)
            go_wp2_with fail
            go_cut [84] (fun t wc => t = .bool false ∧ Below wr.heap.size wr wc)
            case first =>
              go_region_held3 (fun wz => wz.cell? ⟨w1.heap.size, 0, none⟩ = some (.slice (some ⟨g1, o, none⟩) n d0) ∧ wz.cell? ⟨g1, o + k * 2, none⟩ = some (.string (N k)) ∧ wz.cell? ⟨g1, o + k * 2 + 1, none⟩ = some (.int .i64 (A k))) (first | exact ⟨by assumption, by assumption, by assumption⟩ | go_keep) (first
                | (go_at_call 16; with_reducible refine (S16.out _ ?_).mono ?_; exact (Below.refl _ _).drew; rintro e v5 ⟨rfl, bb5, t5, r5, s5⟩)
                | (go_at_call 17; with_reducible refine (S17.out _ bb5).mono ?_; rintro e v6 ⟨rfl, bb6, t6, r6, s6⟩))
              all_goals (go_wp2_with fail; go_meet)
              all_goals exact ⟨rfl, bb6⟩
            case rest =>
              rename World => w7
              obtain ⟨rfl, hb⟩ := hcut
              have HB7 := hidden (keepB HB.out hb)
              clear hb S16 S17 e0 c1 c2
              go_wp2
              go_roundw
              case rel => exact ⟨k + 1, by omega, by go_num, HB7⟩
              case measure => simp [intOf]; omega
          · obtain rfl : k = n := by omega
            have Q7 := hidden (Q.out.keep HB.out)
            have R7 := hidden (R.out.keep HB.out)
            have ROW7 := hidden (ROW.out.later HB.out ROW.out.blk)
            obtain ⟨K7, c11, -, hw7⟩ := read_key g2 n2 d2 _ wr hn3 hn4 hd2 ROW7.out
            obtain rfl := hw7 (packL_whole HF.out).1
            have C11 := hidden (c11 wr (Below.refl _ _))
            have r1 := R7.out.c1
            clear c11
            go_wp2_with fail
            with_reducible refine C11.out.mono ?_
            rintro e w8 ⟨⟨q5, n5, d5, rfl, hrd⟩, hb⟩
            obtain ⟨g5, rfl, h5, -, hS5⟩ := hrd (by simp)
            rw [(packL_whole HF.out).2] at h5
            subst h5
            replace hb := keepB hb (alloc_below _ (.cells #[.int .i64 0, .slice (some ⟨g5, 0, none⟩) n5 d5] 33))
            have T := hidden (Two.new w8 (.int .i64 0) (.slice (some ⟨g5, 0, none⟩) n5 d5) 33)
            have D8 := hidden (D7.out.keep hb)
            have Q8 := hidden (Q7.out.keep hb)
            have Q5 := hidden (hS5.keep (alloc_below _ (.cells #[.int .i64 0, .slice (some ⟨g5, 0, none⟩) n5 d5] 33)))
            have B8 := hidden (keepB B.out (keepB HB.out hb))
            have SK := hidden (same_key n5 N A)
            clear hb hS5 hrd C11 e0 r1
            have e0 := D8.out.c0
            have t0 := T.out.c0
            have t1 := T.out.c1
            have P18 := hidden (implSame_any g5 0 g1 o n5 d5 d0 _ N _ A _ Q5.out Q8.out (by omega))
            rw [SK.out] at P18
            go_wp2_with fail
            with_reducible refine P18.out.mono ?_
            rintro e w9 ⟨rfl, hb⟩
            replace D8 := hidden (D8.out.keep hb)
            replace Q8 := hidden (Q8.out.keep hb)
            replace Q5 := hidden (Q5.out.keep hb)
            replace T := hidden (T.out.keep hb)
            replace B8 := hidden (keepB B8.out hb)
            clear hb e0 t0 t1 P18
            have e0 := D8.out.c0
            have t1 := T.out.c1
            have P19 := hidden (specSame_any g5 0 g1 o n5 d5 d0 _ N _ A _ Q5.out Q8.out (by omega))
            rw [SK.out] at P19
            go_wp2_with fail
            with_reducible refine P19.out.mono ?_
            rintro e w10 ⟨rfl, hb⟩
            replace B8 := hidden (keepB B8.out hb)
            clear hb e0 t1 P19
            go_wp2
            go_ret
            exact ⟨rfl, B8.out⟩
      · have hc0 : (C != 0) = true := by simpa using hC
        go_wp2
        go_ret
        exact ⟨rfl, B.out⟩

end Go.Proofs.Ythgoclbgepfjmaa
