/- Law FnPacks, walked. -/
import Derived.Test.YtjjpkhlbokfjpaaPkB
import Derived.Deep.RegionHeld3
namespace Go.Proofs.Ytjjpkhlbokfjpaa
open Go.RowKit

set_option maxRecDepth 20000 in
set_option maxHeartbeats 25600000 in
theorem law_pk (p : Option Addr) (nn c : Nat) (l : List Int) (w : World) (h : Byt.Src w p nn l) (hn : nn ≤ 1048576) (hp : p = none → c = 0) :
    Calls Try.prog 4 #[.slice p nn c] w fun e w' => e = .returned (.bool true) ∧ Below w.heap.size w w' := by
  have H := hidden h
  have HP := hidden hp
  clear h hp
  go_enter Try.func4, Try.ntmps4
  go_wp2_with fail
  with_reducible refine (lwBig_any p nn c w hn).mono ?_
  rintro e w0 ⟨rfl, rfl⟩
  go_wp2_with fail
  with_reducible refine (drawPack_any p nn c l w0 H.out).mono ?_
  rintro e w1 ⟨q, n, d0, g, m, d, rfl, hdr⟩
  obtain ⟨L, hL⟩ := hdr.row
  have hd := hdr.cap
  have hm25 := hdr.few
  have B := hidden (keepB hdr.below (alloc_below w1 (.cells #[.slice q n d0] 26)))
  have D := hidden (One.new w1 (.slice q n d0) 26)
  have IT := hidden (hL.keep (alloc_below w1 (.cells #[.slice q n d0] 26)))
  have SG := hidden (hdr.sig.keep (alloc_below w1 (.cells #[.slice q n d0] 26)))
  have HC1 := hidden (H.out.later B.out)
  clear hdr hL
  go_upto_region 4 with fail
  obtain ⟨w4, hw4⟩ : ∃ w4, w4 = w1.alloc (.cells #[.slice q n d0] 26) := ⟨_, rfl⟩
  rw [← hw4] at B D IT SG HC1 ⊢
  clear hw4
  go_cut [6] (fun t wx => ∃ (g2 m2 d2 : Nat), t = .slice (some ⟨g2, 0, none⟩) m2 d2 ∧ m2 ≤ 25 ∧ m2 ≤ d2 ∧ Hid (∃ L2, Ints wx g2 0 m2 L2) ∧ Hid (Below w4.heap.size w4 wx))
  case first =>
    have HL1 := hidden (show (w4.alloc (.cells #[.int .u8 5] 5)).ownsRow w4.heap.size 5 1 (.slice (some ⟨w4.heap.size, 0, none⟩) 1 1) 1 [.int .u8 5] from World.ownsRow_lit w4 #[.int .u8 5] 1 (Nat.le_refl _) (by unfold maxLen; omega) rfl)
    have HCA := hidden (show Byt.Src (w4.alloc (.cells #[.int .u8 5] 5)) p nn l from H.out.later (keepB B.out (alloc_below _ _)))
    have fin := hidden (show ∀ (v' : Value) (w2 : World), w2.ownsRow w4.heap.size 5 1 v' (nn + 1) (((5 : Int) :: l).map (Value.int .u8)) → v' ≠ .slice none 0 0 → Below w4.heap.size w4 w2 → ∃ g2 d2, v' = .slice (some ⟨g2, 0, none⟩) (nn + 1) d2 ∧ Calls Try.prog 15 #[.slice (some ⟨g2, 0, none⟩) (nn + 1) d2] w2 fun e w3 => ∃ q n d0 g m d, e = .returned (.tuple #[.agg #[.slice q n d0], .slice (some ⟨g, 0, none⟩) m d]) ∧ m ≤ 25 ∧ m ≤ d ∧ Hid (∃ L2, Ints w3 g 0 m L2) ∧ Hid (Below w4.heap.size w4 w3) from fun v' w2 hown hnil hb2 => by
      rcases hown.2 with ⟨hv, _⟩ | ⟨g2, d2, cur, hv, hg2, _⟩
      · exact absurd hv hnil
      · subst hv
        refine ⟨g2, d2, rfl, (drawPack_any _ _ _ ((5 : Int) :: l) _ (src_cons hown (by omega) HC1.out.2.2.1 hn HC1.out.1)).mono ?_⟩
        rintro e w3 ⟨q3, n3, d3, g3, m3, d4, rfl, hA⟩
        exact ⟨q3, n3, d3, g3, m3, d4, rfl, hA.few, hA.cap, hidden hA.row, hidden (keepB hb2 hA.below)⟩)
    cases p with
    | none =>
      have hn0 : nn = 0 := by
        obtain ⟨_, _, _, h4 | ⟨_, _, h5, _⟩⟩ := HC1.out
        · exact h4
        · cases h5
      have hc0 := HP.out rfl
      have hl0 : l = [] := List.eq_nil_of_length_eq_zero (by rw [HC1.out.1]; exact hn0)
      subst hn0 hc0
      obtain ⟨g2, d2, hv, hcall⟩ := fin.out (.slice (some ⟨w4.heap.size, 0, none⟩) 1 1) (w4.alloc (.cells #[.int .u8 5] 5)) (by rw [hl0]; exact HL1.out) (by simp) (alloc_below _ _)
      have hv2 : w4.heap.size = g2 ∧ 1 = d2 := by simpa using hv
      obtain ⟨rfl, rfl⟩ := hv2
      have HC := hidden hcall
      clear hcall hv fin hl0
      go_wp2_with fail
      refine HC.out.mono ?_
      rintro e w3 ⟨q3, n3, d3, g3, m3, d4, rfl, h1, h2, h3, h4⟩
      have h5 := hidden (And.intro (show ∃ L2, Ints (w3.alloc (.cells #[.slice q3 n3 d3] 26)) g3 0 m3 L2 from h3.out.imp fun L2 h => h.keep (alloc_below _ _)) (keepB h4.out (alloc_below w3 (.cells #[.slice q3 n3 d3] 26))))
      clear h3 h4
      go_wp2_with fail
      go_meet
      exact ⟨g3, m3, d4, rfl, h1, h2, hidden h5.out.1, hidden h5.out.2⟩
    | some a =>
      go_wp2_with (at_builtin; refine wpList_append_own _ rfl _ _ 22 rfl w4.heap.size 5 _ (.int .u8 0) 1 1 Try.underlying22 rfl rfl rfl rfl rfl (by decide) (.slice (some ⟨w4.heap.size, 0, none⟩) 1 1) 1 [.int .u8 5] rfl HL1.out a nn c (l.map (Value.int .u8)) rfl ?qc1 ?qc2 (Byt.byteNews l) ?qc4 ?qc5 ?qc6 ?_)
      case qc1 => rw [List.length_map, HC1.out.1]; omega
      case qc2 => exact srcCells (HCA.out)
      case qc4 => unfold maxLen; omega
      case qc5 => omega
      case qc6 => simp
      intro v' w2 hown hgrow hnil
      have hbw : Below w4.heap.size w4 w2 := (alloc_below w4 _).grown hgrow (by simp) (by intro k hk; simp [Value.ownBlock] at hk; omega)
      obtain ⟨g2, d2, hv, hcall⟩ := fin.out v' w2 (by rw [Nat.add_comm]; exact hown) hnil hbw
      rw [hv]
      have HC := hidden hcall
      clear hcall hv fin hown hgrow hnil hbw
      go_wp2_with fail
      refine HC.out.mono ?_
      rintro e w3 ⟨q3, n3, d3, g3, m3, d4, rfl, h1, h2, h3, h4⟩
      have h5 := hidden (And.intro (show ∃ L2, Ints (w3.alloc (.cells #[.slice q3 n3 d3] 26)) g3 0 m3 L2 from h3.out.imp fun L2 h => h.keep (alloc_below _ _)) (keepB h4.out (alloc_below w3 (.cells #[.slice q3 n3 d3] 26))))
      clear h3 h4
      go_wp2_with fail
      go_meet
      exact ⟨g3, m3, d4, rfl, h1, h2, hidden h5.out.1, hidden h5.out.2⟩
  case rest =>
    rename World => w5
    obtain ⟨g2, m2, d2, rfl, hm225, hd2, hI2, hb5⟩ := hcut
    obtain ⟨L2, hL2⟩ := hI2.out
    have IB := hidden hL2
    have hb := hb5.out
    replace B := hidden (keepB B.out hb)
    replace D := hidden (D.out.keep hb)
    replace IT := hidden (IT.out.keep hb)
    replace SG := hidden (SG.out.keep hb)
    have HC := hidden (H.out.later B.out)
    clear hb hb5 hI2 hL2 HC1 HP
    obtain ⟨Cp, Cq, c1, c2, c3, c4, hok, hok2⟩ := pack_key2 q n d0 g m d g2 m2 d2 L L2 w5 SG.out IT.out IB.out hm25 hm225
    have C1 := hidden c1
    have C2 := hidden c2
    have C3 := hidden c3
    have C4 := hidden c4
    have HOK := hidden hok
    have HOK2 := hidden hok2
    have BW := hidden (Below.refl w5.heap.size w5)
    clear c1 c2 c3 c4 hok hok2
    have e0 := D.out.c0
    go_wp2_with fail
    with_reducible refine (C2.out _ BW.out).mono ?_
    rintro e w6 ⟨ha, hb⟩
    obtain ⟨q7, v7, d7, rfl, ok⟩ := ha.ok (fun h0 => by obtain ⟨b, N, A, hT, _⟩ := HOK.out h0; exact hT.range)
    have O7 := hidden (fun h0 : Cp = 0 => (ok h0).keep (alloc_below w6 (.cells #[.int .i64 Cp, .slice q7 v7 d7] 42)))
    replace hb := keepB hb (alloc_below _ (.cells #[.int .i64 Cp, .slice q7 v7 d7] 42))
    replace B := hidden (keepB B.out hb)
    replace D := hidden (D.out.keep hb)
    replace IT := hidden (IT.out.keep hb)
    replace SG := hidden (SG.out.keep hb)
    replace IB := hidden (IB.out.keep hb)
    replace BW := hidden (keepB BW.out hb)
    have R7 := hidden (Two.new w6 (.int .i64 Cp) (.slice q7 v7 d7) 42)
    clear hb ok e0
    have e0 := D.out.c0
    go_wp2_with fail
    with_reducible refine (C4.out _ BW.out).mono ?_
    rintro e w7 ⟨ha, hb⟩
    obtain ⟨q8, v8, d8, rfl, ok⟩ := ha.ok (HOK2.out)
    have O8 := hidden (fun h0 : Cq = 0 => (ok h0).keep (alloc_below w7 (.cells #[.int .i64 Cq, .slice q8 v8 d8] 42)))
    replace hb := keepB hb (alloc_below _ (.cells #[.int .i64 Cq, .slice q8 v8 d8] 42))
    replace B := hidden (keepB B.out hb)
    replace D := hidden (D.out.keep hb)
    replace IT := hidden (IT.out.keep hb)
    replace SG := hidden (SG.out.keep hb)
    replace IB := hidden (IB.out.keep hb)
    replace BW := hidden (keepB BW.out hb)
    replace O7 := hidden (fun h0 => (O7.out h0).keep hb)
    replace R7 := hidden (R7.out.keep hb)
    have R8 := hidden (Two.new w7 (.int .i64 Cq) (.slice q8 v8 d8) 42)
    clear hb ok e0
    have HC7 := hidden (H.out.later B.out)
    go_wp2_with fail
    with_reducible refine (drawUnpack_any p nn c l _ HC7.out).mono ?_
    rintro e w8 ⟨q9, n9, d9, q10, v10, d10, rfl, hu⟩
    have hb := keepB hu.below (alloc_below w8 (.cells #[.slice q9 n9 d9] 26))
    replace B := hidden (keepB B.out hb)
    replace D := hidden (D.out.keep hb)
    replace IT := hidden (IT.out.keep hb)
    replace SG := hidden (SG.out.keep hb)
    replace IB := hidden (IB.out.keep hb)
    replace BW := hidden (keepB BW.out hb)
    replace O7 := hidden (fun h0 => (O7.out h0).keep hb)
    replace R7 := hidden (R7.out.keep hb)
    replace O8 := hidden (fun h0 => (O8.out h0).keep hb)
    replace R8 := hidden (R8.out.keep hb)
    have S9 := hidden (hu.sig.keep (alloc_below w8 (.cells #[.slice q9 n9 d9] 26)))
    have T9 := hidden (hu.dat.keep (alloc_below w8 (.cells #[.slice q9 n9 d9] 26)))
    have R9 := hidden (One.new w8 (.slice q9 n9 d9) 26)
    clear hb hu HC7 HC
    obtain ⟨Cu, U, c5, c6, hok3⟩ := unpack_key q9 n9 d9 q10 v10 d10 (w8.alloc (.cells #[.slice q9 n9 d9] 26)) S9.out T9.out
    have C5 := hidden c5
    have C6 := hidden c6
    have HOK3 := hidden hok3
    have BU := hidden (Below.refl (w8.alloc (.cells #[.slice q9 n9 d9] 26)).heap.size (w8.alloc (.cells #[.slice q9 n9 d9] 26)))
    clear c5 c6 hok3
    have e9 := R9.out.c0
    go_wp2_with fail
    with_reducible refine (C6.out _ BU.out).mono ?_
    rintro e w9 ⟨ha, hb⟩
    obtain ⟨q11, v11, d11, rfl, ok⟩ := ha
    have O11 := hidden (fun h0 : Cu = 0 => (ok h0).keep (alloc_below w9 (.cells #[.int .i64 Cu, .slice q11 v11 d11] 31)))
    replace hb := keepB hb (alloc_below _ (.cells #[.int .i64 Cu, .slice q11 v11 d11] 31))
    replace B := hidden (keepB B.out hb)
    replace D := hidden (D.out.keep hb)
    replace IT := hidden (IT.out.keep hb)
    replace SG := hidden (SG.out.keep hb)
    replace IB := hidden (IB.out.keep hb)
    replace BW := hidden (keepB BW.out hb)
    replace O7 := hidden (fun h0 => (O7.out h0).keep hb)
    replace R7 := hidden (R7.out.keep hb)
    replace O8 := hidden (fun h0 => (O8.out h0).keep hb)
    replace R8 := hidden (R8.out.keep hb)
    replace S9 := hidden (S9.out.keep hb)
    replace T9 := hidden (T9.out.keep hb)
    replace R9 := hidden (R9.out.keep hb)
    replace BU := hidden (keepB BU.out hb)
    have R11 := hidden (Two.new w9 (.int .i64 Cu) (.slice q11 v11 d11) 31)
    clear hb ok e9
    go_wp2_with fail
    obtain ⟨W9, hW9⟩ : ∃ W9, W9 = w9.alloc (.cells #[.int .i64 Cu, .slice q11 v11 d11] 31) := ⟨_, rfl⟩
    rw [← hW9]
    rw [← hW9] at B D IT SG IB BW O7 R7 O8 R8 S9 T9 R9 BU O11 R11
    clear hW9
    have K9 := hidden (show ∀ wc, Below W9.heap.size W9 wc → wc.cell? ⟨w1.heap.size, 0, none⟩ = some (.slice q n d0) ∧ wc.cell? ⟨w6.heap.size, 0, none⟩ = some (.int .i64 Cp) ∧ wc.cell? ⟨w7.heap.size, 0, none⟩ = some (.int .i64 Cq) ∧ wc.cell? ⟨w8.heap.size, 0, none⟩ = some (.slice q9 n9 d9) ∧ wc.cell? ⟨w9.heap.size, 0, none⟩ = some (.int .i64 Cu) from fun wc hc => ⟨(D.out.keep hc).c0, (R7.out.keep hc).c0, (R8.out.keep hc).c0, (R9.out.keep hc).c0, (R11.out.keep hc).c0⟩)
    have S1 := hidden (show ∀ wc, Below W9.heap.size W9 wc → Calls Try.prog 19 #[.agg #[.slice q n d0], .slice (some ⟨g, 0, none⟩) m d] wc fun e w' => (∃ a b k, e = .returned (.agg #[.int .i64 Cp, .slice a b k])) ∧ Below W9.heap.size W9 w' ∧ w'.cell? ⟨w1.heap.size, 0, none⟩ = some (.slice q n d0) ∧ w'.cell? ⟨w6.heap.size, 0, none⟩ = some (.int .i64 Cp) ∧ w'.cell? ⟨w7.heap.size, 0, none⟩ = some (.int .i64 Cq) ∧ w'.cell? ⟨w8.heap.size, 0, none⟩ = some (.slice q9 n9 d9) ∧ w'.cell? ⟨w9.heap.size, 0, none⟩ = some (.int .i64 Cu) from fun wc hc => by
      refine (C1.out wc (keepB BW.out hc)).mono ?_
      rintro e w' ⟨⟨a, b, k, h, _⟩, hb'⟩
      exact ⟨⟨a, b, k, h⟩, keepB hc hb', K9.out _ (keepB hc hb')⟩)
    have S2 := hidden (show ∀ wc, Below W9.heap.size W9 wc → Calls Try.prog 19 #[.agg #[.slice q n d0], .slice (some ⟨g2, 0, none⟩) m2 d2] wc fun e w' => (∃ a b k, e = .returned (.agg #[.int .i64 Cq, .slice a b k])) ∧ Below W9.heap.size W9 w' ∧ w'.cell? ⟨w1.heap.size, 0, none⟩ = some (.slice q n d0) ∧ w'.cell? ⟨w6.heap.size, 0, none⟩ = some (.int .i64 Cp) ∧ w'.cell? ⟨w7.heap.size, 0, none⟩ = some (.int .i64 Cq) ∧ w'.cell? ⟨w8.heap.size, 0, none⟩ = some (.slice q9 n9 d9) ∧ w'.cell? ⟨w9.heap.size, 0, none⟩ = some (.int .i64 Cu) from fun wc hc => by
      refine (C3.out wc (keepB BW.out hc)).mono ?_
      rintro e w' ⟨⟨a, b, k, h, _⟩, hb'⟩
      exact ⟨⟨a, b, k, h⟩, keepB hc hb', K9.out _ (keepB hc hb')⟩)
    have S3 := hidden (show ∀ wc, Below W9.heap.size W9 wc → Calls Try.prog 20 #[.agg #[.slice q9 n9 d9], .slice q10 v10 d10] wc fun e w' => (∃ a b k, e = .returned (.agg #[.int .i64 Cu, .slice a b k])) ∧ Below W9.heap.size W9 w' ∧ w'.cell? ⟨w1.heap.size, 0, none⟩ = some (.slice q n d0) ∧ w'.cell? ⟨w6.heap.size, 0, none⟩ = some (.int .i64 Cp) ∧ w'.cell? ⟨w7.heap.size, 0, none⟩ = some (.int .i64 Cq) ∧ w'.cell? ⟨w8.heap.size, 0, none⟩ = some (.slice q9 n9 d9) ∧ w'.cell? ⟨w9.heap.size, 0, none⟩ = some (.int .i64 Cu) from fun wc hc => by
      refine (C5.out wc (keepB BU.out hc)).mono ?_
      rintro e w' ⟨⟨a, b, k, h, _⟩, hb'⟩
      exact ⟨⟨a, b, k, h⟩, keepB hc hb', K9.out _ (keepB hc hb')⟩)
    have f42 := fldB0
    have f31 := fldT0
    have h1 : (Cp != Cp) = false := by simp
    have h2 : (Cq != Cq) = false := by simp
    have h3 : (Cu != Cu) = false := by simp
    obtain ⟨k1, k2, k3, k4, k5⟩ := K9.out _ (Below.refl _ _)
    go_cut [65] (fun t wc => t = .bool false ∧ Below W9.heap.size W9 wc)
    case first =>
      go_region_held3 (fun wz => wz.cell? ⟨w1.heap.size, 0, none⟩ = some (.slice q n d0) ∧ wz.cell? ⟨w6.heap.size, 0, none⟩ = some (.int .i64 Cp) ∧ wz.cell? ⟨w7.heap.size, 0, none⟩ = some (.int .i64 Cq) ∧ wz.cell? ⟨w8.heap.size, 0, none⟩ = some (.slice q9 n9 d9) ∧ wz.cell? ⟨w9.heap.size, 0, none⟩ = some (.int .i64 Cu)) (first | exact ⟨by assumption, by assumption, by assumption, by assumption, by assumption⟩ | go_keep) (first
        | (go_at_call 19; with_reducible refine (S1.out _ ?_).mono ?_; exact (Below.refl _ _).drew; rintro e v1 ⟨⟨a1, b1, k1, rfl⟩, bb1, x11, x12, x13, x14, x15⟩)
        | (go_at_call 19; with_reducible refine (S2.out _ bb1).mono ?_; rintro e v2 ⟨⟨a2, b2, k2, rfl⟩, bb2, x21, x22, x23, x24, x25⟩)
        | (go_at_call 20; with_reducible refine (S3.out _ bb2).mono ?_; rintro e v3 ⟨⟨a3, b3, k3, rfl⟩, bb3, x31, x32, x33, x34, x35⟩))
      all_goals (go_wp2_with fail; go_meet)
      all_goals exact ⟨rfl, bb3⟩
    case rest =>
      rename World => x1
      obtain ⟨rfl, hb⟩ := hcut
      replace B := hidden (keepB B.out hb)
      replace D := hidden (D.out.keep hb)
      replace IT := hidden (IT.out.keep hb)
      replace SG := hidden (SG.out.keep hb)
      replace IB := hidden (IB.out.keep hb)
      replace BW := hidden (keepB BW.out hb)
      replace O7 := hidden (fun h0 => (O7.out h0).keep hb)
      replace R7 := hidden (R7.out.keep hb)
      replace O8 := hidden (fun h0 => (O8.out h0).keep hb)
      replace R8 := hidden (R8.out.keep hb)
      replace S9 := hidden (S9.out.keep hb)
      replace T9 := hidden (T9.out.keep hb)
      replace R9 := hidden (R9.out.keep hb)
      replace BU := hidden (keepB BU.out hb)
      replace O11 := hidden (fun h0 => (O11.out h0).keep hb)
      replace R11 := hidden (R11.out.keep hb)
      clear hb S1 S2 S3 K9 k1 k2 k3 k4 k5 h1 h2 h3 f42 f31 C1 C2 C3 C4 C5 C6
      have f42b := fldB1
      go_upto_region 11 with fail
      go_cut [78] (fun t wc => t = .bool false ∧ Below x1.heap.size x1 wc)
      case first =>
        have t0 := R11.out.c0
        have t1 := R11.out.c1
        have e9 := R9.out.c0
        by_cases hCu : Cu = 0
        · obtain ⟨b, N, A, g10, l10, hU⟩ := HOK3.out hCu
          have hcode := hU.term
          have o11 := O11.out hCu
          obtain ⟨g11, rfl, rfl, i11, hd11⟩ := o11
          have hdat := hU.dat
          have hsig := hU.sig
          subst hdat hsig
          have Q9 := hidden (hU.syms.keep BU.out)
          have ROW := hidden (hU.row.later BU.out hU.row.blk)
          have hfew := hU.few
          have HPL := hidden (show packT U v11 = l10 by rw [hU.ans]; exact read_packs hU.row.len hU.red)
          have HRG := hidden (show v11 ≤ 24 ∧ ∀ i, i < v11 → -12 ≤ U i ∧ U i ≤ 5 from ⟨hU.red.most, fun i hi => node_range (fault_sound hU.fine).most (by rw [hU.ans]; exact okN_node (hU.red.ok i hi))⟩)
          have P := implPack_any b 0 n9 d9 g11 0 v11 d11 N A U x1 Q9.out i11 hU.kept (by omega)
          rw [hcode] at P
          have PP := hidden P
          clear P hU hcode i11 hd11
          subst hCu
          go_wp2_with fail
          refine PP.out.mono ?_
          rintro e y1 ⟨ha, hb⟩
          obtain ⟨q12, v12, d12, rfl, ok⟩ := ha.pk.ok (fun _ => HRG.out)
          obtain ⟨g12, rfl, rfl, h12, row12⟩ := ok rfl
          rw [HPL.out] at row12
          have P15 := hidden (lwBytes_same g12 0 v12 d12 g10 0 d10 l10 y1 row12 (ROW.out.later hb ROW.out.blk))
          have BY := hidden hb
          clear hb ok row12 t0 t1 e9 PP
          go_wp2_with fail
          refine P15.out.mono ?_
          rintro e y2 ⟨rfl, hb⟩
          have BY2 := hidden (keepB BY.out hb)
          clear hb
          go_wp2_with fail
          go_meet
          exact ⟨rfl, BY2.out⟩
        · have hk0 : (Cu == 0) = false := by simpa using hCu
          go_wp2_with fail
          go_meet
          exact ⟨rfl, Below.refl _ _⟩
      case rest =>
        rename World => x2
        obtain ⟨rfl, hb⟩ := hcut
        replace B := hidden (keepB B.out hb)
        replace D := hidden (D.out.keep hb)
        replace IT := hidden (IT.out.keep hb)
        replace SG := hidden (SG.out.keep hb)
        replace IB := hidden (IB.out.keep hb)
        replace BW := hidden (keepB BW.out hb)
        replace O7 := hidden (fun h0 => (O7.out h0).keep hb)
        replace R7 := hidden (R7.out.keep hb)
        replace O8 := hidden (fun h0 => (O8.out h0).keep hb)
        replace R8 := hidden (R8.out.keep hb)
        clear hb O11 R11 S9 T9 R9 BU HOK3 f42b
        have r0 := R7.out.c0
        by_cases hC : Cp = 0
        · obtain ⟨b, N, A, hT, hT2⟩ := HOK.out hC
          have HT2 := hidden hT2
          clear hT2
          have o7 := O7.out hC
          obtain ⟨g7, rfl, rfl, hd7, row7⟩ := o7
          have hsig := hT.sig
          subst hsig
          have Q := hidden (hT.syms.keep BW.out)
          have HT := hidden hT
          have ROW7 := hidden row7
          have HC := hidden hC
          have hv24 := hT.range.1
          clear hT row7 O7 HOK
          rw [HC.out] at r0
          go_upto_region 15 with fail
          go_cut [97] (fun t wc => t = .bool false ∧ Below x2.heap.size x2 wc)
          case first =>
            have s0 := R8.out.c0
            have s1 := R8.out.c1
            have r1 := R7.out.c1
            by_cases hq : Cq = 0
            · have o8 := O8.out hq
              obtain ⟨g8, rfl, rfl, hd8, row8⟩ := o8
              have ROW8 := hidden row8
              have P := hidden (Byt.implBegins_any g7 0 v7 d7 g8 0 v8 d8 _ _ x2 ROW7.out row8 hd7)
              have HAP := hidden (fun hb => pack_apart HT.out.term (HT2.out hq) hb)
              clear row8 O8
              subst hq
              go_wp2_with fail
              refine P.out.mono ?_
              rintro e y1 ⟨rfl, rfl⟩
              clear P
              by_cases hB : Byt.begB (packT L v7) (packT L2 v8) = true
              · obtain ⟨hmm, hLL⟩ := HAP.out hB
                subst hmm
                rw [hB]
                have P2 := hidden (lwNums_eq g v7 d g2 d2 L L2 y1 IT.out IB.out (by omega) hLL)
                clear hB hLL
                go_wp2_with fail
                refine P2.out.mono ?_
                rintro e y2 ⟨rfl, hb⟩
                have BY := hidden hb
                clear hb P2
                go_wp2_with fail
                go_meet
                exact ⟨rfl, BY.out⟩
              · have hB' : Byt.begB (packT L v7) (packT L2 v8) = false := by simpa using hB
                rw [hB']
                clear hB
                go_wp2_with fail
                go_meet
                exact ⟨rfl, Below.refl _ _⟩
            · have hk0 : (Cq == 0) = false := by simpa using hq
              go_wp2_with fail
              go_meet
              exact ⟨rfl, Below.refl _ _⟩
          case rest =>
            rename World => x3
            obtain ⟨rfl, hb⟩ := hcut
            have ROW9 := hidden (ROW7.out.later hb ROW7.out.blk)
            replace B := hidden (keepB B.out hb)
            replace D := hidden (D.out.keep hb)
            replace IT := hidden (IT.out.keep hb)
            replace BW := hidden (keepB BW.out hb)
            replace R7 := hidden (R7.out.keep hb)
            replace Q := hidden (Q.out.keep hb)
            clear hb O8 R8 IB SG HOK2 ROW7
            have hpr := pack_reads HT.out.term
            have P := implUnpack_any b 0 n d0 g7 0 v7 d7 N A _ x3 Q.out ROW9.out.byts ROW9.out.blk HT.out.kept (by omega) hd7
            rw [up_ok HT.out.fine ⟨by rw [rd_at hpr.1]; have := hpr.1.pos; omega, rd_at hpr.1⟩] at P
            have PP := hidden P
            have HN := hidden hpr.2
            clear P hpr
            have e0 := D.out.c0
            have r1 := R7.out.c1
            go_wp2_with fail
            refine PP.out.mono ?_
            rintro e x4 ⟨ha, hb⟩
            obtain ⟨q12, v12, d12, rfl, ok⟩ := ha.lst
            obtain ⟨g12, rfl, e12, i12, h12⟩ := ok rfl
            rw [e12]
            clear e12 ok
            have I12 := hidden (i12.keep (alloc_below x4 (.cells #[.int .i64 0, .slice (some ⟨g12, 0, none⟩) v7 d12] 31)))
            replace hb := keepB hb (alloc_below _ (.cells #[.int .i64 0, .slice (some ⟨g12, 0, none⟩) v7 d12] 31))
            clear e0 r1
            replace B := hidden (keepB B.out hb)
            replace D := hidden (D.out.keep hb)
            replace IT := hidden (IT.out.keep hb)
            replace BW := hidden (keepB BW.out hb)
            replace R7 := hidden (R7.out.keep hb)
            replace Q := hidden (Q.out.keep hb)
            have R12 := hidden (Two.new x4 (.int .i64 0) (.slice (some ⟨g12, 0, none⟩) v7 d12) 31)
            clear hb i12 PP
            have t0 := R12.out.c0
            have t1 := R12.out.c1
            have r1 := R7.out.c1
            have P2 := hidden (lwNums_eq g12 v7 d12 g d _ L _ I12.out IT.out (by omega) (fun i hi => (HN.out i hi).symm))
            go_wp2_with fail
            refine P2.out.mono ?_
            rintro e x5 ⟨rfl, hb⟩
            replace R7 := hidden (R7.out.keep hb)
            replace B := hidden (keepB B.out hb)
            clear hb P2 t0 t1 r1
            have r1 := R7.out.c1
            have hvv : ((v7 : Int) == (v7 : Int)) = true := by simp
            go_wp2
            go_ret
            exact ⟨rfl, B.out⟩
        · have hc0 : (Cp != 0) = true := by simpa using hC
          go_wp2
          go_ret
          exact ⟨rfl, B.out⟩

set_option maxRecDepth 20000 in
set_option maxHeartbeats 800000 in
theorem law_pk_big (p : Option Addr) (nn c : Nat) (w : World) (hn : ¬ nn ≤ 1048576) :
    Calls Try.prog 4 #[.slice p nn c] w fun e w' => e = .returned (.bool true) ∧ Below w.heap.size w w' := by
  go_enter Try.func4, Try.ntmps4
  go_wp2_with fail
  with_reducible refine (lwBig_big p nn c w hn).mono ?_
  rintro e w0 ⟨rfl, rfl⟩
  go_wp2
  go_ret
  exact ⟨rfl, Below.refl _ _⟩

theorem law_pk_all (p : Option Addr) (nn c : Nat) (z : List Int) (w : World) (h : Byt.IsRow .u8 w p nn c z) :
    Calls Try.prog 4 #[.slice p nn c] w fun e w' => e = .returned (.bool true) ∧ Below w.heap.size w w' := by
  by_cases hn : nn ≤ 1048576
  · refine law_pk p nn c _ w (h.src (by omega)) hn (fun hp => ?_)
    rcases h with ⟨_, _, h, _⟩ | ⟨x, h, _⟩
    · exact h
    · rw [hp] at h; cases h
  · exact law_pk_big p nn c w hn

end Go.Proofs.Ytjjpkhlbokfjpaa
