/- Law FnKeys, walked. -/
import Derived.Test.YtjjpkhlbokfjpaaPkC
import Derived.Deep.RegionHeld3
namespace Go.Proofs.Ytjjpkhlbokfjpaa
open Go.RowKit

set_option maxRecDepth 20000 in
set_option maxHeartbeats 25600000 in
theorem law_ky (p : Option Addr) (nn c : Nat) (l : List Int) (w : World) (h : Byt.Src w p nn l) (hn : nn ≤ 1048576) (hp : p = none → c = 0) :
    Calls Try.prog 5 #[.slice p nn c] w fun e w' => e = .returned (.bool true) ∧ Below w.heap.size w w' := by
  have H := hidden h
  have HP := hidden hp
  clear h hp
  go_enter Try.func5, Try.ntmps5
  go_wp2_with fail
  with_reducible refine (lwBig_any p nn c w hn).mono ?_
  rintro e w0 ⟨rfl, rfl⟩
  go_wp2_with fail
  with_reducible refine (drawKey_any p nn c l w0 H.out).mono ?_
  rintro e w1 ⟨q, n, d0, g, m, d, g2, m2, d2, rfl, hdr⟩
  obtain ⟨L, hL⟩ := hdr.row
  obtain ⟨L2, hL2⟩ := hdr.row2
  have hm25 := hdr.few
  have hm225 := hdr.few2
  have B := hidden (keepB hdr.below (alloc_below w1 (.cells #[.slice q n d0] 26)))
  have D := hidden (One.new w1 (.slice q n d0) 26)
  have I1 := hidden (hL.keep (alloc_below w1 (.cells #[.slice q n d0] 26)))
  have I2 := hidden (hL2.keep (alloc_below w1 (.cells #[.slice q n d0] 26)))
  have SG := hidden (hdr.sig.keep (alloc_below w1 (.cells #[.slice q n d0] 26)))
  have HC1 := hidden (H.out.later B.out)
  clear hdr hL hL2
  go_upto_region 4 with fail
  obtain ⟨w4, hw4⟩ : ∃ w4, w4 = w1.alloc (.cells #[.slice q n d0] 26) := ⟨_, rfl⟩
  rw [← hw4] at B D I1 I2 SG HC1 ⊢
  clear hw4
  go_cut [7, 8] (fun t t' wx => ∃ (g3 m3 d3 g4 m4 d4 : Nat), t = .slice (some ⟨g3, 0, none⟩) m3 d3 ∧ t' = .slice (some ⟨g4, 0, none⟩) m4 d4 ∧ m3 ≤ 25 ∧ m4 ≤ 25 ∧ Hid (∃ L3, Ints wx g3 0 m3 L3) ∧ Hid (∃ L4, Ints wx g4 0 m4 L4) ∧ Hid (Below w4.heap.size w4 wx))
  case first =>
    have HL1 := hidden (show (w4.alloc (.cells #[.int .u8 9] 5)).ownsRow w4.heap.size 5 1 (.slice (some ⟨w4.heap.size, 0, none⟩) 1 1) 1 [.int .u8 9] from World.ownsRow_lit w4 #[.int .u8 9] 1 (Nat.le_refl _) (by unfold maxLen; omega) rfl)
    have HCA := hidden (show Byt.Src (w4.alloc (.cells #[.int .u8 9] 5)) p nn l from H.out.later (keepB B.out (alloc_below _ _)))
    have fin := hidden (show ∀ (v' : Value) (w2 : World), w2.ownsRow w4.heap.size 5 1 v' (nn + 1) (((9 : Int) :: l).map (Value.int .u8)) → v' ≠ .slice none 0 0 → Below w4.heap.size w4 w2 → ∃ gz dz, v' = .slice (some ⟨gz, 0, none⟩) (nn + 1) dz ∧ Calls Try.prog 23 #[.slice (some ⟨gz, 0, none⟩) (nn + 1) dz] w2 fun e w3 => ∃ q n d0 g m d g2 m2 d2, e = .returned (.tuple #[.agg #[.slice q n d0], .slice (some ⟨g, 0, none⟩) m d, .slice (some ⟨g2, 0, none⟩) m2 d2]) ∧ m ≤ 25 ∧ m2 ≤ 25 ∧ Hid ((∃ L, Ints w3 g 0 m L) ∧ (∃ L, Ints w3 g2 0 m2 L) ∧ Below w4.heap.size w4 w3) from fun v' w2 hown hnil hb2 => by
      rcases hown.2 with ⟨hv, _⟩ | ⟨gz, dz, cur, hv, hg2, _⟩
      · exact absurd hv hnil
      · subst hv
        refine ⟨gz, dz, rfl, (drawKey_any _ _ _ ((9 : Int) :: l) _ (src_cons hown (by omega) HC1.out.2.2.1 hn HC1.out.1)).mono ?_⟩
        rintro e w3 ⟨q3, n3, d3, g3, m3, d4, g4, m4, d5, rfl, hA⟩
        exact ⟨q3, n3, d3, g3, m3, d4, g4, m4, d5, rfl, hA.few, hA.few2, hidden ⟨hA.row, hA.row2, keepB hb2 hA.below⟩⟩)
    cases p with
    | none =>
      have hn0 : nn = 0 := by
        obtain ⟨_, _, _, h4 | ⟨_, _, h5, _⟩⟩ := HC1.out
        · exact h4
        · cases h5
      have hc0 := HP.out rfl
      have hl0 : l = [] := List.eq_nil_of_length_eq_zero (by rw [HC1.out.1]; exact hn0)
      subst hn0 hc0
      obtain ⟨gz, dz, hv, hcall⟩ := fin.out (.slice (some ⟨w4.heap.size, 0, none⟩) 1 1) (w4.alloc (.cells #[.int .u8 9] 5)) (by rw [hl0]; exact HL1.out) (by simp) (alloc_below _ _)
      have hv2 : w4.heap.size = gz ∧ 1 = dz := by simpa using hv
      obtain ⟨rfl, rfl⟩ := hv2
      have HC := hidden hcall
      clear hcall hv fin hl0
      go_wp2_with fail
      refine HC.out.mono ?_
      rintro e w3 ⟨q3, n3, d3, g3, m3, d4, g4, m4, d5, rfl, h1, h2, h3⟩
      have h5 := hidden (And.intro (show ∃ L2, Ints (w3.alloc (.cells #[.slice q3 n3 d3] 26)) g3 0 m3 L2 from h3.out.1.imp fun L2 h => h.keep (alloc_below _ _)) (And.intro (show ∃ L2, Ints (w3.alloc (.cells #[.slice q3 n3 d3] 26)) g4 0 m4 L2 from h3.out.2.1.imp fun L2 h => h.keep (alloc_below _ _)) (keepB h3.out.2.2 (alloc_below w3 (.cells #[.slice q3 n3 d3] 26)))))
      clear h3
      go_wp2_with fail
      go_meet
      exact ⟨g3, m3, d4, g4, m4, d5, rfl, rfl, h1, h2, hidden h5.out.1, hidden h5.out.2.1, hidden h5.out.2.2⟩
    | some a =>
      go_wp2_with (at_builtin; refine wpList_append_own _ rfl _ _ 22 rfl w4.heap.size 5 _ (.int .u8 0) 1 1 Try.underlying22 rfl rfl rfl rfl rfl (by decide) (.slice (some ⟨w4.heap.size, 0, none⟩) 1 1) 1 [.int .u8 9] rfl HL1.out a nn c (l.map (Value.int .u8)) rfl ?qc1 ?qc2 (Byt.byteNews l) ?qc4 ?qc5 ?qc6 ?_)
      case qc1 => rw [List.length_map, HC1.out.1]; omega
      case qc2 => exact srcCells (HCA.out)
      case qc4 => unfold maxLen; omega
      case qc5 => omega
      case qc6 => simp
      intro v' w2 hown hgrow hnil
      have hbw : Below w4.heap.size w4 w2 := (alloc_below w4 _).grown hgrow (by simp) (by intro k hk; simp [Value.ownBlock] at hk; omega)
      obtain ⟨gz, dz, hv, hcall⟩ := fin.out v' w2 (by rw [Nat.add_comm]; exact hown) hnil hbw
      rw [hv]
      have HC := hidden hcall
      clear hcall hv fin hown hgrow hnil hbw
      go_wp2_with fail
      refine HC.out.mono ?_
      rintro e w3 ⟨q3, n3, d3, g3, m3, d4, g4, m4, d5, rfl, h1, h2, h3⟩
      have h5 := hidden (And.intro (show ∃ L2, Ints (w3.alloc (.cells #[.slice q3 n3 d3] 26)) g3 0 m3 L2 from h3.out.1.imp fun L2 h => h.keep (alloc_below _ _)) (And.intro (show ∃ L2, Ints (w3.alloc (.cells #[.slice q3 n3 d3] 26)) g4 0 m4 L2 from h3.out.2.1.imp fun L2 h => h.keep (alloc_below _ _)) (keepB h3.out.2.2 (alloc_below w3 (.cells #[.slice q3 n3 d3] 26)))))
      clear h3
      go_wp2_with fail
      go_meet
      exact ⟨g3, m3, d4, g4, m4, d5, rfl, rfl, h1, h2, hidden h5.out.1, hidden h5.out.2.1, hidden h5.out.2.2⟩
  case rest =>
    rename World => w5
    obtain ⟨g3, m3, d3, g4, m4, d4, rfl, rfl, hm325, hm425, hI3, hI4, hb5⟩ := hcut
    obtain ⟨L3, hL3⟩ := hI3.out
    obtain ⟨L4, hL4⟩ := hI4.out
    have I3 := hidden hL3
    have I4 := hidden hL4
    have hb := hb5.out
    replace B := hidden (keepB B.out hb)
    replace D := hidden (D.out.keep hb)
    replace I1 := hidden (I1.out.keep hb)
    replace I2 := hidden (I2.out.keep hb)
    replace SG := hidden (SG.out.keep hb)
    clear hb hb5 hI3 hI4 hL3 hL4 HC1 HP
    obtain ⟨Ca, Cb, Cc, c1, c2, c3, c4, c5, c6, hok⟩ := key_key3 q n d0 g m d g2 m2 d2 g3 m3 d3 g4 m4 d4 L L2 L3 L4 w5 SG.out I1.out I2.out I3.out I4.out hm25 hm225 hm325 hm425
    have C1 := hidden c1
    have C2 := hidden c2
    have C3 := hidden c3
    have C4 := hidden c4
    have C5 := hidden c5
    have C6 := hidden c6
    have HOK := hidden hok
    have BW := hidden (Below.refl w5.heap.size w5)
    clear c1 c2 c3 c4 c5 c6 hok
    have e0 := D.out.c0
    go_wp2_with fail
    with_reducible refine (C1.out _ BW.out).mono ?_
    rintro e w6 ⟨ha, hb⟩
    obtain ⟨q9, v9, d9, rfl, ok⟩ := ha
    have O9 := hidden (fun h0 : Ca = 0 => (ok h0).keep (alloc_below w6 (.cells #[.int .i64 Ca, .slice q9 v9 d9] 42)))
    replace hb := keepB hb (alloc_below _ (.cells #[.int .i64 Ca, .slice q9 v9 d9] 42))
    replace B := hidden (keepB B.out hb)
    replace D := hidden (D.out.keep hb)
    replace I1 := hidden (I1.out.keep hb)
    replace I2 := hidden (I2.out.keep hb)
    replace SG := hidden (SG.out.keep hb)
    replace I3 := hidden (I3.out.keep hb)
    replace I4 := hidden (I4.out.keep hb)
    replace BW := hidden (keepB BW.out hb)
    have R9 := hidden (Two.new w6 (.int .i64 Ca) (.slice q9 v9 d9) 42)
    clear hb ok e0
    go_wp2_with fail
    obtain ⟨V6, hV6⟩ : ∃ V6, V6 = (w6.alloc (.cells #[.int .i64 Ca, .slice q9 v9 d9] 42)) := ⟨_, rfl⟩
    rw [← hV6]
    rw [← hV6] at B D I1 I2 SG I3 I4 BW O9 R9 
    clear hV6
    have K6 := hidden (show ∀ wc, Below V6.heap.size V6 wc → wc.cell? ⟨w1.heap.size, 0, none⟩ = some (.slice q n d0) ∧ wc.cell? ⟨w6.heap.size, 0, none⟩ = some (.int .i64 Ca) from fun wc hc => ⟨(D.out.keep hc).c0, (R9.out.keep hc).c0⟩)
    have S1 := hidden (show ∀ wc, Below V6.heap.size V6 wc → Calls Try.prog 25 #[.agg #[.slice q n d0], .slice (some ⟨g, 0, none⟩) m d, .slice (some ⟨g2, 0, none⟩) m2 d2] wc fun e w' => (∃ a b k, e = .returned (.agg #[.int .i64 Ca, .slice a b k])) ∧ Below V6.heap.size V6 w' ∧ w'.cell? ⟨w1.heap.size, 0, none⟩ = some (.slice q n d0) ∧ w'.cell? ⟨w6.heap.size, 0, none⟩ = some (.int .i64 Ca) from fun wc hc => by
      refine (C2.out wc (keepB BW.out hc)).mono ?_
      rintro e w' ⟨⟨a, b, k, h, _⟩, hb'⟩
      exact ⟨⟨a, b, k, h⟩, keepB hc hb', K6.out _ (keepB hc hb')⟩)
    have f42 := fldB0
    have h1 : (Ca != Ca) = false := by simp
    obtain ⟨k1, k2⟩ := K6.out _ (Below.refl _ _)
    go_cut [41] (fun t wc => t = .bool false ∧ Below V6.heap.size V6 wc)
    case first =>
      go_region_held3 (fun wz => wz.cell? ⟨w1.heap.size, 0, none⟩ = some (.slice q n d0) ∧ wz.cell? ⟨w6.heap.size, 0, none⟩ = some (.int .i64 Ca)) (first | exact ⟨by assumption, by assumption⟩ | go_keep) (first
        | (go_at_call 25; with_reducible refine (S1.out _ ?_).mono ?_; exact (Below.refl _ _).drew; rintro e v1 ⟨⟨a1, b1, k1, rfl⟩, bb1, x11, x12⟩))
      all_goals (go_wp2_with fail; go_meet)
      all_goals exact ⟨rfl, bb1⟩
    case rest =>
      rename World => x1
      obtain ⟨rfl, hb⟩ := hcut
      replace B := hidden (keepB B.out hb)
      replace D := hidden (D.out.keep hb)
      replace I1 := hidden (I1.out.keep hb)
      replace I2 := hidden (I2.out.keep hb)
      replace SG := hidden (SG.out.keep hb)
      replace I3 := hidden (I3.out.keep hb)
      replace I4 := hidden (I4.out.keep hb)
      replace BW := hidden (keepB BW.out hb)
      replace O9 := hidden (fun h0 => (O9.out h0).keep hb)
      replace R9 := hidden (R9.out.keep hb)
      clear hb S1 K6 k1 k2 h1 C1 C2
      have r0 := R9.out.c0
      by_cases hC : Ca = 0
      · obtain ⟨b, N, A, hK, hT3⟩ := HOK.out hC
        obtain ⟨g9, rfl, rfl, hd9, row9⟩ := O9.out hC
        have hsig := hK.sig
        subst hsig
        have Q := hidden (hK.syms.keep BW.out)
        have HK := hidden hK
        have HT3 := hidden hT3
        have ROW := hidden row9
        have HC := hidden hC
        have hlen : (packT L m ++ packT L2 m2).length = m + m2 := by rw [List.length_append, packT_len, packT_len]
        have hm24 := hK.one.nods.most
        have hm224 := hK.two.nods.most
        clear hK hT3 row9 O9 HOK
        rw [HC.out] at r0
        rw [hlen] at ROW R9 hd9
        obtain ⟨Va, hVa⟩ : ∃ Va, Va = packT L m ++ packT L2 m2 := ⟨_, rfl⟩
        rw [← hVa] at ROW
        have HVA := hidden hVa
        clear hVa hlen
        have hcut := key_cut HK.out.one HK.out.two HK.out.short
        have P := implCut_any b 0 n d0 g9 0 (m + m2) d9 N A (fun i => Va.getD i 0) x1 Q.out ROW.out.byts ROW.out.blk HK.out.kept (by omega) hd9
        rw [HVA.out, ck_ok HK.out.fine hcut.2.2.1, hcut.1, hcut.2.1] at P
        have HN := hidden hcut.2.2.2
        have PP := hidden P
        clear P hcut
        have e0 := D.out.c0
        have r1 := R9.out.c1
        go_wp2_with fail
        refine PP.out.mono ?_
        rintro e x2 ⟨ha, hb⟩
        rcases ha with ⟨ha, -⟩ | ⟨-, ga, da, gb, db, rfl, hga, hgab, hoa, hob⟩
        · exact absurd rfl ha
        have IA := hidden (hoa.ints.keep (alloc_below x2 (.cells #[.int .i64 0, .slice (some ⟨ga, 0, none⟩) m da, .slice (some ⟨gb, 0, none⟩) m2 db] 52)))
        have IBB := hidden (hob.ints.keep (alloc_below x2 (.cells #[.int .i64 0, .slice (some ⟨ga, 0, none⟩) m da, .slice (some ⟨gb, 0, none⟩) m2 db] 52)))
        replace hb := keepB hb (alloc_below _ (.cells #[.int .i64 0, .slice (some ⟨ga, 0, none⟩) m da, .slice (some ⟨gb, 0, none⟩) m2 db] 52))
        clear e0 r0 r1
        replace B := hidden (keepB B.out hb)
        replace D := hidden (D.out.keep hb)
        replace I1 := hidden (I1.out.keep hb)
        replace I2 := hidden (I2.out.keep hb)
        replace SG := hidden (SG.out.keep hb)
        replace I3 := hidden (I3.out.keep hb)
        replace I4 := hidden (I4.out.keep hb)
        replace BW := hidden (keepB BW.out hb)
        replace R9 := hidden (R9.out.keep hb)
        replace Q := hidden (Q.out.keep hb)
        replace ROW := hidden (ROW.out.later hb ROW.out.blk)
        have R10 := hidden (Tri.new x2 (.int .i64 0) (.slice (some ⟨ga, 0, none⟩) m da) (.slice (some ⟨gb, 0, none⟩) m2 db) 52)
        clear hb hoa hob hga hgab PP
        go_wp2_with fail
        obtain ⟨V7, hV7⟩ : ∃ V7, V7 = (x2.alloc (.cells #[.int .i64 0, .slice (some ⟨ga, 0, none⟩) m da, .slice (some ⟨gb, 0, none⟩) m2 db] 52)) := ⟨_, rfl⟩
        rw [← hV7]
        rw [← hV7] at B D I1 I2 SG I3 I4 BW R9 Q IA IBB R10 ROW
        clear hV7
        have K7 := hidden (show ∀ wc, Below V7.heap.size V7 wc → wc.cell? ⟨w1.heap.size, 0, none⟩ = some (.slice (some ⟨b, 0, none⟩) n d0) ∧ wc.cell? ⟨w6.heap.size, 1, none⟩ = some (.slice (some ⟨g9, 0, none⟩) (m + m2) d9) ∧ wc.cell? ⟨x2.heap.size, 0, none⟩ = some (.int .i64 0) ∧ wc.cell? ⟨x2.heap.size, 1, none⟩ = some (.slice (some ⟨ga, 0, none⟩) m da) ∧ wc.cell? ⟨x2.heap.size, 2, none⟩ = some (.slice (some ⟨gb, 0, none⟩) m2 db) from fun wc hc => ⟨(D.out.keep hc).c0, (R9.out.keep hc).c1, (R10.out.keep hc).c0, (R10.out.keep hc).c1, (R10.out.keep hc).c2⟩)
        have S1 := hidden (show ∀ wc, Below V7.heap.size V7 wc → Calls Try.prog 12 #[.slice (some ⟨ga, 0, none⟩) m da, .slice (some ⟨g, 0, none⟩) m d] wc fun e w' => e = .returned (.bool true) ∧ Below V7.heap.size V7 w' ∧ w'.cell? ⟨w1.heap.size, 0, none⟩ = some (.slice (some ⟨b, 0, none⟩) n d0) ∧ w'.cell? ⟨w6.heap.size, 1, none⟩ = some (.slice (some ⟨g9, 0, none⟩) (m + m2) d9) ∧ w'.cell? ⟨x2.heap.size, 0, none⟩ = some (.int .i64 0) ∧ w'.cell? ⟨x2.heap.size, 1, none⟩ = some (.slice (some ⟨ga, 0, none⟩) m da) ∧ w'.cell? ⟨x2.heap.size, 2, none⟩ = some (.slice (some ⟨gb, 0, none⟩) m2 db) from fun wc hc => by
          refine (lwNums_eq ga m da g d _ L wc (IA.out.keep hc) (I1.out.keep hc) (by omega) (fun i hi => (HN.out.1 i hi).symm)).mono ?_
          rintro e w' ⟨rfl, hb'⟩
          exact ⟨rfl, keepB hc hb', K7.out _ (keepB hc hb')⟩)
        have S2 := hidden (show ∀ wc, Below V7.heap.size V7 wc → Calls Try.prog 12 #[.slice (some ⟨gb, 0, none⟩) m2 db, .slice (some ⟨g2, 0, none⟩) m2 d2] wc fun e w' => e = .returned (.bool true) ∧ Below V7.heap.size V7 w' ∧ w'.cell? ⟨w1.heap.size, 0, none⟩ = some (.slice (some ⟨b, 0, none⟩) n d0) ∧ w'.cell? ⟨w6.heap.size, 1, none⟩ = some (.slice (some ⟨g9, 0, none⟩) (m + m2) d9) ∧ w'.cell? ⟨x2.heap.size, 0, none⟩ = some (.int .i64 0) ∧ w'.cell? ⟨x2.heap.size, 1, none⟩ = some (.slice (some ⟨ga, 0, none⟩) m da) ∧ w'.cell? ⟨x2.heap.size, 2, none⟩ = some (.slice (some ⟨gb, 0, none⟩) m2 db) from fun wc hc => by
          refine (lwNums_eq gb m2 db g2 d2 _ L2 wc (IBB.out.keep hc) (I2.out.keep hc) (by omega) (fun i hi => (HN.out.2 i hi).symm)).mono ?_
          rintro e w' ⟨rfl, hb'⟩
          exact ⟨rfl, keepB hc hb', K7.out _ (keepB hc hb')⟩)
        have S3 := hidden (show ∀ wc, Below V7.heap.size V7 wc → Calls Try.prog 16 #[.agg #[.slice (some ⟨b, 0, none⟩) n d0], .slice (some ⟨g, 0, none⟩) m d] wc fun e w' => ∃ gp dp, e = .returned (.agg #[.int .i64 0, .slice (some ⟨gp, 0, none⟩) m dp]) ∧ Hid (Byt.Row w' gp 0 m (packT L m) ∧ Below V7.heap.size V7 w') ∧ w'.cell? ⟨w1.heap.size, 0, none⟩ = some (.slice (some ⟨b, 0, none⟩) n d0) ∧ w'.cell? ⟨w6.heap.size, 1, none⟩ = some (.slice (some ⟨g9, 0, none⟩) (m + m2) d9) ∧ w'.cell? ⟨x2.heap.size, 0, none⟩ = some (.int .i64 0) ∧ w'.cell? ⟨x2.heap.size, 1, none⟩ = some (.slice (some ⟨ga, 0, none⟩) m da) ∧ w'.cell? ⟨x2.heap.size, 2, none⟩ = some (.slice (some ⟨gb, 0, none⟩) m2 db) from fun wc hc => by
          have P := implPack_any b 0 n d0 g 0 m d N A L wc (Q.out.keep hc) (I1.out.keep hc) HK.out.kept (by omega)
          rw [show termF n N A m L = 0 from by rw [term_l HK.out.fine]; exact lF_ok (by have := HK.out.one.pos; omega) HK.out.one.nods.node HK.out.one.whole] at P
          refine P.mono ?_
          rintro e w' ⟨ha, hb'⟩
          obtain ⟨qp, vp, dp, rfl, ok⟩ := ha.pk.ok (fun _ => ⟨HK.out.one.nods.most, HK.out.one.nods.rng⟩)
          obtain ⟨gp, rfl, rfl, hdp, rowp⟩ := ok rfl
          exact ⟨gp, dp, rfl, hidden ⟨rowp, keepB hc hb'⟩, K7.out _ (keepB hc hb')⟩)
        have S4 := hidden (show ∀ wc gp dp, Byt.Row wc gp 0 m (packT L m) ∧ Below V7.heap.size V7 wc → Calls Try.prog 22 #[.slice (some ⟨g9, 0, none⟩) (m + m2) d9, .slice (some ⟨gp, 0, none⟩) m dp] wc fun e w' => e = .returned (.bool true) ∧ Hid (Below V7.heap.size V7 w') ∧ w'.cell? ⟨w1.heap.size, 0, none⟩ = some (.slice (some ⟨b, 0, none⟩) n d0) ∧ w'.cell? ⟨w6.heap.size, 1, none⟩ = some (.slice (some ⟨g9, 0, none⟩) (m + m2) d9) ∧ w'.cell? ⟨x2.heap.size, 0, none⟩ = some (.int .i64 0) ∧ w'.cell? ⟨x2.heap.size, 1, none⟩ = some (.slice (some ⟨ga, 0, none⟩) m da) ∧ w'.cell? ⟨x2.heap.size, 2, none⟩ = some (.slice (some ⟨gb, 0, none⟩) m2 db) from fun wc gp dp hd => by
          have P := Byt.implBegins_any g9 0 (m + m2) d9 gp 0 m dp _ _ wc (ROW.out.later hd.2 ROW.out.blk) hd.1 hd9
          rw [HVA.out, begB_app] at P
          refine P.mono ?_
          rintro e w' ⟨rfl, rfl⟩
          exact ⟨rfl, hidden hd.2, K7.out _ hd.2⟩)
        have f42b := fldB1
        obtain ⟨k1, k2, k3, k4, k5⟩ := K7.out _ (Below.refl _ _)
        go_cut [75] (fun t wc => t = .bool false ∧ Below V7.heap.size V7 wc)
        case first =>
          go_region_held3 (fun wz => wz.cell? ⟨w1.heap.size, 0, none⟩ = some (.slice (some ⟨b, 0, none⟩) n d0) ∧ wz.cell? ⟨w6.heap.size, 1, none⟩ = some (.slice (some ⟨g9, 0, none⟩) (m + m2) d9) ∧ wz.cell? ⟨x2.heap.size, 0, none⟩ = some (.int .i64 0) ∧ wz.cell? ⟨x2.heap.size, 1, none⟩ = some (.slice (some ⟨ga, 0, none⟩) m da) ∧ wz.cell? ⟨x2.heap.size, 2, none⟩ = some (.slice (some ⟨gb, 0, none⟩) m2 db)) (first | exact ⟨by assumption, by assumption, by assumption, by assumption, by assumption⟩ | go_keep) (first
            | (go_at_call 12; with_reducible refine (S1.out _ ?_).mono ?_; exact (Below.refl _ _).drew; rintro e v1 ⟨rfl, bb1, x11, x12, x13, x14, x15⟩)
            | (go_at_call 12; with_reducible refine (S2.out _ bb1).mono ?_; rintro e v2 ⟨rfl, bb2, x21, x22, x23, x24, x25⟩)
            | (go_at_call 16; with_reducible refine (S3.out _ bb2).mono ?_; rintro e v3 ⟨gp, dp, rfl, hp3, x31, x32, x33, x34, x35⟩)
            | (go_at_call 22; with_reducible refine (S4.out _ _ _ hp3.out).mono ?_; rintro e v4 ⟨rfl, hp4, x41, x42, x43, x44, x45⟩))
          all_goals (go_wp2_with fail; go_meet)
          all_goals exact ⟨rfl, hp4.out⟩
        case rest =>
          rename World => x3
          obtain ⟨rfl, hb⟩ := hcut
          replace ROW := hidden (ROW.out.later hb ROW.out.blk)
          replace B := hidden (keepB B.out hb)
          replace D := hidden (D.out.keep hb)
          replace I1 := hidden (I1.out.keep hb)
          replace I2 := hidden (I2.out.keep hb)
          replace SG := hidden (SG.out.keep hb)
          replace I3 := hidden (I3.out.keep hb)
          replace I4 := hidden (I4.out.keep hb)
          replace BW := hidden (keepB BW.out hb)
          replace R9 := hidden (R9.out.keep hb)
          replace Q := hidden (Q.out.keep hb)
          clear hb S1 S2 S3 S4 K7 k1 k2 k3 k4 k5 f42b R10 IA IBB HN
          have e0 := D.out.c0
          go_wp2_with fail
          with_reducible refine (C3.out _ BW.out).mono ?_
          rintro e x4 ⟨ha, hb⟩
          obtain ⟨q11, v11, d11, rfl, ok⟩ := ha
          have O11 := hidden (fun h0 : Cb = 0 => (ok h0).keep (alloc_below x4 (.cells #[.int .i64 Cb, .slice q11 v11 d11] 42)))
          replace hb := keepB hb (alloc_below _ (.cells #[.int .i64 Cb, .slice q11 v11 d11] 42))
          replace B := hidden (keepB B.out hb)
          replace D := hidden (D.out.keep hb)
          replace I1 := hidden (I1.out.keep hb)
          replace I2 := hidden (I2.out.keep hb)
          replace SG := hidden (SG.out.keep hb)
          replace I3 := hidden (I3.out.keep hb)
          replace I4 := hidden (I4.out.keep hb)
          replace BW := hidden (keepB BW.out hb)
          replace R9 := hidden (R9.out.keep hb)
          replace Q := hidden (Q.out.keep hb)
          replace ROW := hidden (ROW.out.later hb ROW.out.blk)
          have R11 := hidden (Two.new x4 (.int .i64 Cb) (.slice q11 v11 d11) 42)
          clear hb ok e0
          have e0 := D.out.c0
          go_wp2_with fail
          with_reducible refine (C5.out _ BW.out).mono ?_
          rintro e x5 ⟨ha, hb⟩
          obtain ⟨q12, v12, d12, rfl, ok⟩ := ha
          have O12 := hidden (fun h0 : Cc = 0 => (ok h0).keep (alloc_below x5 (.cells #[.int .i64 Cc, .slice q12 v12 d12] 42)))
          replace hb := keepB hb (alloc_below _ (.cells #[.int .i64 Cc, .slice q12 v12 d12] 42))
          replace B := hidden (keepB B.out hb)
          replace D := hidden (D.out.keep hb)
          replace I1 := hidden (I1.out.keep hb)
          replace I2 := hidden (I2.out.keep hb)
          replace SG := hidden (SG.out.keep hb)
          replace I3 := hidden (I3.out.keep hb)
          replace I4 := hidden (I4.out.keep hb)
          replace BW := hidden (keepB BW.out hb)
          replace R9 := hidden (R9.out.keep hb)
          replace Q := hidden (Q.out.keep hb)
          replace O11 := hidden (fun h0 => (O11.out h0).keep hb)
          replace R11 := hidden (R11.out.keep hb)
          replace ROW := hidden (ROW.out.later hb ROW.out.blk)
          have R12 := hidden (Two.new x5 (.int .i64 Cc) (.slice q12 v12 d12) 42)
          clear hb ok e0
          go_upto_region 15 with fail
          obtain ⟨V8, hV8⟩ : ∃ V8, V8 = (x5.alloc (.cells #[.int .i64 Cc, .slice q12 v12 d12] 42)) := ⟨_, rfl⟩
          rw [← hV8]
          rw [← hV8] at B D I1 I2 SG I3 I4 BW R9 Q O11 R11 O12 R12 ROW
          clear hV8
          have s0 := R11.out.c0
          have s1 := R12.out.c0
          by_cases hbc : Cb = 0 ∧ Cc = 0
          · obtain ⟨hb0, hc0⟩ := hbc
            obtain ⟨g11, rfl, rfl, hd11, row11⟩ := O11.out hb0
            obtain ⟨g12, rfl, rfl, hd12, row12⟩ := O12.out hc0
            have ROWb := hidden row11
            have ROWc := hidden row12
            have T3 := hidden (HT3.out hc0)
            have l11 : (packT L m ++ packT L4 m4).length = m + m4 := by rw [List.length_append, packT_len, packT_len]
            have l12 : (packT L3 m3 ++ packT L4 m4).length = m3 + m4 := by rw [List.length_append, packT_len, packT_len]
            rw [l11] at ROWb R11 hd11
            rw [l12] at ROWc R12 hd12
            have hb0' := hb0
            have hc0' := hc0
            clear row11 row12 O11 O12 C4 C6
            rw [hb0] at s0
            rw [hc0] at s1
            go_upto_region 17 with fail
            have K8 := hidden (show ∀ wc, Below V8.heap.size V8 wc → wc.cell? ⟨w6.heap.size, 1, none⟩ = some (.slice (some ⟨g9, 0, none⟩) (m + m2) d9) ∧ wc.cell? ⟨x4.heap.size, 1, none⟩ = some (.slice (some ⟨g11, 0, none⟩) (m + m4) d11) ∧ wc.cell? ⟨x5.heap.size, 1, none⟩ = some (.slice (some ⟨g12, 0, none⟩) (m3 + m4) d12) from fun wc hc => ⟨(R9.out.keep hc).c1, (R11.out.keep hc).c1, (R12.out.keep hc).c1⟩)
            obtain ⟨XX, hXX⟩ : ∃ XX, XX = Byt.ordL Va (packT L3 m3 ++ packT L4 m4) := ⟨_, rfl⟩
            obtain ⟨YY, hYY⟩ : ∃ YY, YY = Byt.ordL (packT L3 m3 ++ packT L4 m4) (packT L m ++ packT L4 m4) := ⟨_, rfl⟩
            have bX : -1 ≤ XX ∧ XX ≤ 1 := hXX ▸ Byt.ordL_bd _ _
            have bY : -1 ≤ YY ∧ YY ≤ 1 := hYY ▸ Byt.ordL_bd _ _
            have HXX := hidden hXX
            have HYY := hidden hYY
            clear hXX hYY
            obtain ⟨mu, mu2⟩ := mulK bX bY
            have S1 := hidden (show ∀ wc, Below V8.heap.size V8 wc → Calls Try.prog 27 #[.slice (some ⟨g9, 0, none⟩) (m + m2) d9, .slice (some ⟨g12, 0, none⟩) (m3 + m4) d12] wc fun e w' => e = .returned (.agg #[.int .i64 0, .int .i64 XX]) ∧ Below V8.heap.size V8 w' ∧ w'.cell? ⟨w6.heap.size, 1, none⟩ = some (.slice (some ⟨g9, 0, none⟩) (m + m2) d9) ∧ w'.cell? ⟨x4.heap.size, 1, none⟩ = some (.slice (some ⟨g11, 0, none⟩) (m + m4) d11) ∧ w'.cell? ⟨x5.heap.size, 1, none⟩ = some (.slice (some ⟨g12, 0, none⟩) (m3 + m4) d12) from fun wc hc => by
              rw [HXX.out]
              refine (Byt.implCmp_any _ 0 _ _ _ 0 _ _ _ _ wc (ROW.out.later hc ROW.out.blk) (ROWc.out.later hc ROWc.out.blk) (by omega)).mono ?_
              rintro e w' ⟨rfl, hb'⟩
              exact ⟨rfl, keepB hc hb', K8.out _ (keepB hc hb')⟩)
            have S2 := hidden (show ∀ wc, Below V8.heap.size V8 wc → Calls Try.prog 27 #[.slice (some ⟨g12, 0, none⟩) (m3 + m4) d12, .slice (some ⟨g11, 0, none⟩) (m + m4) d11] wc fun e w' => e = .returned (.agg #[.int .i64 0, .int .i64 YY]) ∧ Below V8.heap.size V8 w' ∧ w'.cell? ⟨w6.heap.size, 1, none⟩ = some (.slice (some ⟨g9, 0, none⟩) (m + m2) d9) ∧ w'.cell? ⟨x4.heap.size, 1, none⟩ = some (.slice (some ⟨g11, 0, none⟩) (m + m4) d11) ∧ w'.cell? ⟨x5.heap.size, 1, none⟩ = some (.slice (some ⟨g12, 0, none⟩) (m3 + m4) d12) from fun wc hc => by
              rw [HYY.out]
              refine (Byt.implCmp_any _ 0 _ _ _ 0 _ _ _ _ wc (ROWc.out.later hc ROWc.out.blk) (ROWb.out.later hc ROWb.out.blk) (by omega)).mono ?_
              rintro e w' ⟨rfl, hb'⟩
              exact ⟨rfl, keepB hc hb', K8.out _ (keepB hc hb')⟩)
            have f36 := fldI1
            obtain ⟨k1, k2, k3⟩ := K8.out _ (Below.refl _ _)
            go_cut [13] (fun t wc => ∃ bb : Bool, t = .bool bb ∧ Hid (bb = true → 0 < XX * YY) ∧ Below V8.heap.size V8 wc)
            case first =>
              go_region_held3 (fun wz => wz.cell? ⟨w6.heap.size, 1, none⟩ = some (.slice (some ⟨g9, 0, none⟩) (m + m2) d9) ∧ wz.cell? ⟨x4.heap.size, 1, none⟩ = some (.slice (some ⟨g11, 0, none⟩) (m + m4) d11) ∧ wz.cell? ⟨x5.heap.size, 1, none⟩ = some (.slice (some ⟨g12, 0, none⟩) (m3 + m4) d12)) (first | exact ⟨by assumption, by assumption, by assumption⟩ | go_keep) (first
                | (go_at_call 27; with_reducible refine (S1.out _ ?_).mono ?_; exact (Below.refl _ _).drew; rintro e v1 ⟨rfl, bb1, x11, x12, x13⟩)
                | (go_at_call 27; with_reducible refine (S2.out _ bb1).mono ?_; rintro e v2 ⟨rfl, bb2, x21, x22, x23⟩) | fail)
              all_goals (go_wp2_with fail; go_meet)
              all_goals exact ⟨_, rfl, hidden (fun h => by simpa using h), bb2⟩
            case rest =>
              rename World => x6
              obtain ⟨bb, rfl, hbb, hb⟩ := hcut
              replace B := hidden (keepB B.out hb)
              replace D := hidden (D.out.keep hb)
              replace I1 := hidden (I1.out.keep hb)
              replace I2 := hidden (I2.out.keep hb)
              replace SG := hidden (SG.out.keep hb)
              replace I3 := hidden (I3.out.keep hb)
              replace I4 := hidden (I4.out.keep hb)
              replace BW := hidden (keepB BW.out hb)
              replace Q := hidden (Q.out.keep hb)
              clear hb S1 S2 K8 k1 k2 k3 f36 mu mu2 s0 s1
              cases bb
              · go_wp2
                go_ret
                exact ⟨rfl, B.out⟩
              · have hpos := hbb.out rfl
                rw [HXX.out, HYY.out, HVA.out] at hpos
                obtain ⟨hmm, hLL⟩ := key_between HK.out.one T3.out hpos
                subst hmm
                have P2 := hidden (lwNums_eq g3 m d3 g d L3 L x6 I3.out I1.out (by omega) (fun i hi => (hLL i hi).symm))
                clear hpos hLL
                go_wp2_with fail
                refine P2.out.mono ?_
                rintro e x7 ⟨rfl, hb⟩
                replace B := hidden (keepB B.out hb)
                clear hb P2
                go_wp2
                go_ret
                exact ⟨rfl, B.out⟩
          · have hbc2 := hidden hbc
            clear hbc
            have K9 := hidden (show ∀ wc, Below V8.heap.size V8 wc → wc.cell? ⟨w1.heap.size, 0, none⟩ = some (.slice (some ⟨b, 0, none⟩) n d0) ∧ wc.cell? ⟨x4.heap.size, 0, none⟩ = some (.int .i64 Cb) ∧ wc.cell? ⟨x5.heap.size, 0, none⟩ = some (.int .i64 Cc) from fun wc hc => ⟨(D.out.keep hc).c0, (R11.out.keep hc).c0, (R12.out.keep hc).c0⟩)
            have S1 := hidden (show ∀ wc, Below V8.heap.size V8 wc → Calls Try.prog 25 #[.agg #[.slice (some ⟨b, 0, none⟩) n d0], .slice (some ⟨g, 0, none⟩) m d, .slice (some ⟨g4, 0, none⟩) m4 d4] wc fun e w' => (∃ a b k, e = .returned (.agg #[.int .i64 Cb, .slice a b k])) ∧ Below V8.heap.size V8 w' ∧ w'.cell? ⟨w1.heap.size, 0, none⟩ = some (.slice (some ⟨b, 0, none⟩) n d0) ∧ w'.cell? ⟨x4.heap.size, 0, none⟩ = some (.int .i64 Cb) ∧ w'.cell? ⟨x5.heap.size, 0, none⟩ = some (.int .i64 Cc) from fun wc hc => by
              refine (C4.out wc (keepB BW.out hc)).mono ?_
              rintro e w' ⟨⟨a, b, k, h, _⟩, hb'⟩
              exact ⟨⟨a, b, k, h⟩, keepB hc hb', K9.out _ (keepB hc hb')⟩)
            have S2 := hidden (show ∀ wc, Below V8.heap.size V8 wc → Calls Try.prog 25 #[.agg #[.slice (some ⟨b, 0, none⟩) n d0], .slice (some ⟨g3, 0, none⟩) m3 d3, .slice (some ⟨g4, 0, none⟩) m4 d4] wc fun e w' => (∃ a b k, e = .returned (.agg #[.int .i64 Cc, .slice a b k])) ∧ Below V8.heap.size V8 w' ∧ w'.cell? ⟨w1.heap.size, 0, none⟩ = some (.slice (some ⟨b, 0, none⟩) n d0) ∧ w'.cell? ⟨x4.heap.size, 0, none⟩ = some (.int .i64 Cb) ∧ w'.cell? ⟨x5.heap.size, 0, none⟩ = some (.int .i64 Cc) from fun wc hc => by
              refine (C6.out wc (keepB BW.out hc)).mono ?_
              rintro e w' ⟨⟨a, b, k, h, _⟩, hb'⟩
              exact ⟨⟨a, b, k, h⟩, keepB hc hb', K9.out _ (keepB hc hb')⟩)
            have q1 : (Cb == Cb) = true := by simp
            have q2 : (Cc == Cc) = true := by simp
            have f42 := fldB0
            obtain ⟨k1, k2, k3⟩ := K9.out _ (Below.refl _ _)
            clear s0 s1
            have s0 := R11.out.c0
            have s1 := R12.out.c0
            clear O11 O12 R9 ROW HT3 HVA HC
            by_cases hb0 : Cb = 0
            · have hkb : (Cb != 0) = false := by simp [hb0]
              have hkc : (Cc != 0) = true := by have := hbc2.out; simp; intro h; exact this ⟨hb0, h⟩
              clear hb0
              go_wp2_with fail
              go_cut [2] (fun t wc => t = .bool true ∧ Below V8.heap.size V8 wc)
              case first =>
                go_region_held3 (fun wz => wz.cell? ⟨w1.heap.size, 0, none⟩ = some (.slice (some ⟨b, 0, none⟩) n d0) ∧ wz.cell? ⟨x4.heap.size, 0, none⟩ = some (.int .i64 Cb) ∧ wz.cell? ⟨x5.heap.size, 0, none⟩ = some (.int .i64 Cc)) (first | exact ⟨by assumption, by assumption, by assumption⟩ | go_keep) (first
                  | (go_at_call 25; with_reducible refine (S1.out _ ?_).mono ?_; exact (Below.refl _ _).drew; rintro e v1 ⟨⟨a1, b1, z1, rfl⟩, bb1, x11, x12, x13⟩)
                  | (go_at_call 25; with_reducible refine (S2.out _ bb1).mono ?_; rintro e v2 ⟨⟨a2, b2, z2, rfl⟩, bb2, x21, x22, x23⟩) | fail)
                all_goals (go_wp2_with fail; go_meet)
                all_goals exact ⟨rfl, bb2⟩
              case rest =>
                rename World => y6
                obtain ⟨rfl, hb⟩ := hcut
                have BE := hidden (keepB B.out hb)
                clear hb
                go_wp2
                go_ret
                exact ⟨rfl, BE.out⟩
            · have hkb : (Cb != 0) = true := by simpa using hb0
              clear hb0
              go_wp2_with fail
              go_cut [2] (fun t wc => t = .bool true ∧ Below V8.heap.size V8 wc)
              case first =>
                go_region_held3 (fun wz => wz.cell? ⟨w1.heap.size, 0, none⟩ = some (.slice (some ⟨b, 0, none⟩) n d0) ∧ wz.cell? ⟨x4.heap.size, 0, none⟩ = some (.int .i64 Cb) ∧ wz.cell? ⟨x5.heap.size, 0, none⟩ = some (.int .i64 Cc)) (first | exact ⟨by assumption, by assumption, by assumption⟩ | go_keep) (first
                  | (go_at_call 25; with_reducible refine (S1.out _ ?_).mono ?_; exact (Below.refl _ _).drew; rintro e v1 ⟨⟨a1, b1, z1, rfl⟩, bb1, x11, x12, x13⟩)
                  | (go_at_call 25; with_reducible refine (S2.out _ bb1).mono ?_; rintro e v2 ⟨⟨a2, b2, z2, rfl⟩, bb2, x21, x22, x23⟩) | fail)
                all_goals (go_wp2_with fail; go_meet)
                all_goals exact ⟨rfl, bb2⟩
              case rest =>
                rename World => y6
                obtain ⟨rfl, hb⟩ := hcut
                have BE := hidden (keepB B.out hb)
                clear hb
                go_wp2
                go_ret
                exact ⟨rfl, BE.out⟩
      · have hc0 : (Ca != 0) = true := by simpa using hC
        go_wp2
        go_ret
        exact ⟨rfl, B.out⟩

set_option maxRecDepth 20000 in
set_option maxHeartbeats 800000 in
theorem law_ky_big (p : Option Addr) (nn c : Nat) (w : World) (hn : ¬ nn ≤ 1048576) :
    Calls Try.prog 5 #[.slice p nn c] w fun e w' => e = .returned (.bool true) ∧ Below w.heap.size w w' := by
  go_enter Try.func5, Try.ntmps5
  go_wp2_with fail
  with_reducible refine (lwBig_big p nn c w hn).mono ?_
  rintro e w0 ⟨rfl, rfl⟩
  go_wp2
  go_ret
  exact ⟨rfl, Below.refl _ _⟩

theorem law_ky_all (p : Option Addr) (nn c : Nat) (z : List Int) (w : World) (h : Byt.IsRow .u8 w p nn c z) :
    Calls Try.prog 5 #[.slice p nn c] w fun e w' => e = .returned (.bool true) ∧ Below w.heap.size w w' := by
  by_cases hn : nn ≤ 1048576
  · refine law_ky p nn c _ w (h.src (by omega)) hn (fun hp => ?_)
    rcases h with ⟨_, _, h, _⟩ | ⟨x, h, _⟩
    · exact h
    · rw [hp] at h; cases h
  · exact law_ky_big p nn c w hn

end Go.Proofs.Ytjjpkhlbokfjpaa
