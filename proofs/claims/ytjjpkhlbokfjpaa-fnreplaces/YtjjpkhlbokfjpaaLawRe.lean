/- Law FnReplaces, walked. -/
import Derived.Test.YtjjpkhlbokfjpaaReAll
import Derived.Test.YtjjpkhlbokfjpaaDrawRepl
import Derived.Deep.RegionHeld3
namespace Go.Proofs.Ytjjpkhlbokfjpaa
open Go.RowKit

set_option maxRecDepth 20000 in
set_option maxHeartbeats 25600000 in
theorem law_re (p : Option Addr) (nn c : Nat) (l : List Int) (w : World) (h : Byt.Src w p nn l) (hn : nn ≤ 1048576) :
    Calls Try.prog 3 #[.slice p nn c] w fun e w' => e = .returned (.bool true) ∧ Below w.heap.size w w' := by
  have H := hidden h
  clear h
  go_enter Try.func3, Try.ntmps3
  go_wp2_with fail
  with_reducible refine (lwBig_any p nn c w hn).mono ?_
  rintro e w0 ⟨rfl, rfl⟩
  go_wp2_with fail
  with_reducible refine (drawRepl_any p nn c l w0 H.out).mono ?_
  rintro e w1 ⟨q, n, d0, g, m, d, x, g2, m2, d2, rfl, hdr⟩
  obtain ⟨L, hL⟩ := hdr.row
  obtain ⟨L2, hL2⟩ := hdr.row2
  have hd := hdr.cap
  have hm25 := hdr.few
  have hm225 := hdr.few2
  obtain ⟨Cr, Co, Kr, Ko, Ur, Uo, c1, c2, c3, c4, hok⟩ := re_key q n d0 g m d x g2 m2 d2 L L2 w1 hdr.sig hL hL2 hm25 hm225 hd
  have C1 := hidden c1
  have C2 := hidden c2
  have C3 := hidden c3
  have C4 := hidden c4
  have B := hidden (keepB hdr.below (alloc_below w1 (.cells #[.slice q n d0] 26)))
  have BW := hidden (alloc_below w1 (.cells #[.slice q n d0] 26))
  have D := hidden (One.new w1 (.slice q n d0) 26)
  have HOK := hidden hok
  have IT := hidden (hL.keep (alloc_below w1 (.cells #[.slice q n d0] 26)))
  have IB := hidden (hL2.keep (alloc_below w1 (.cells #[.slice q n d0] 26)))
  clear hdr c1 c2 c3 c4 hok hL hL2 H
  have e0 := D.out.c0
  go_wp2_with fail
  with_reducible refine (C1.out _ BW.out).mono ?_
  rintro e w2 ⟨ha, hb⟩
  obtain ⟨q7, n7, d7, rfl, ok⟩ := ha
  have O7 := hidden (fun h0 : Cr = 0 => (ok h0).keep (alloc_below w2 (.cells #[.int .i64 Cr, .slice q7 n7 d7] 31)))
  replace hb := keepB hb (alloc_below _ (.cells #[.int .i64 Cr, .slice q7 n7 d7] 31))
  replace B := hidden (keepB B.out hb)
  replace BW := hidden (keepB BW.out hb)
  replace D := hidden (D.out.keep hb)
  replace IT := hidden (IT.out.keep hb)
  replace IB := hidden (IB.out.keep hb)
  have R7 := hidden (Two.new w2 (.int .i64 Cr) (.slice q7 n7 d7) 31)
  clear hb ok
  clear e0
  have e0 := D.out.c0
  go_wp2_with fail
  with_reducible refine (C3.out _ BW.out).mono ?_
  rintro e w3 ⟨ha, hb⟩
  obtain ⟨q8, n8, d8, rfl, ok⟩ := ha
  have O8 := hidden (fun h0 : Co = 0 => (ok h0).keep (alloc_below w3 (.cells #[.int .i64 Co, .slice q8 n8 d8] 31)))
  replace hb := keepB hb (alloc_below _ (.cells #[.int .i64 Co, .slice q8 n8 d8] 31))
  replace B := hidden (keepB B.out hb)
  replace BW := hidden (keepB BW.out hb)
  replace D := hidden (D.out.keep hb)
  replace IT := hidden (IT.out.keep hb)
  replace IB := hidden (IB.out.keep hb)
  replace O7 := hidden (fun h0 => (O7.out h0).keep hb)
  replace R7 := hidden (R7.out.keep hb)
  have R8 := hidden (Two.new w3 (.int .i64 Co) (.slice q8 n8 d8) 31)
  clear hb ok
  clear e0
  have hW3 : ∃ W3, W3 = (w3.alloc (.cells #[.int .i64 Co, .slice q8 n8 d8] 31)) := ⟨_, rfl⟩
  obtain ⟨W3, hW3⟩ := hW3
  rw [← hW3] at B BW D IT IB O7 R7 O8 R8
  have S2 := hidden (show ∀ wc, Below W3.heap.size W3 wc → Calls Try.prog 10 #[.agg #[.slice q n d0], .slice (some ⟨g, 0, none⟩) m d, .int .i64 x, .slice (some ⟨g2, 0, none⟩) m2 d2] wc fun e w' => (∃ a b k, e = .returned (.agg #[.int .i64 Cr, .slice a b k])) ∧ Below W3.heap.size W3 w' ∧ w'.cell? ⟨w1.heap.size, 0, none⟩ = some (.slice q n d0) ∧ w'.cell? ⟨w2.heap.size, 0, none⟩ = some (.int .i64 Cr) ∧ w'.cell? ⟨w3.heap.size, 0, none⟩ = some (.int .i64 Co) from fun wc hc => by
    refine (C2.out wc (keepB BW.out hc)).mono ?_
    rintro e w' ⟨⟨a, b, k, h, _⟩, hb'⟩
    exact ⟨⟨a, b, k, h⟩, keepB hc hb', (D.out.keep (keepB hc hb')).c0, (R7.out.keep (keepB hc hb')).c0, (R8.out.keep (keepB hc hb')).c0⟩)
  have S4 := hidden (show ∀ wc, Below W3.heap.size W3 wc → Calls Try.prog 11 #[.agg #[.slice q n d0], .slice (some ⟨g, 0, none⟩) m d, .int .i64 x] wc fun e w' => (∃ a b k, e = .returned (.agg #[.int .i64 Co, .slice a b k])) ∧ Below W3.heap.size W3 w' ∧ w'.cell? ⟨w1.heap.size, 0, none⟩ = some (.slice q n d0) ∧ w'.cell? ⟨w2.heap.size, 0, none⟩ = some (.int .i64 Cr) ∧ w'.cell? ⟨w3.heap.size, 0, none⟩ = some (.int .i64 Co) from fun wc hc => by
    refine (C4.out wc (keepB BW.out hc)).mono ?_
    rintro e w' ⟨⟨a, b, k, h, _⟩, hb'⟩
    exact ⟨⟨a, b, k, h⟩, keepB hc hb', (D.out.keep (keepB hc hb')).c0, (R7.out.keep (keepB hc hb')).c0, (R8.out.keep (keepB hc hb')).c0⟩)
  have f31 := fldT0
  have e0 := D.out.c0
  have r0 := R7.out.c0
  have t0 := R8.out.c0
  have hcc : (Cr != Cr) = false := by simp
  have hkk : (Co != Co) = false := by simp
  go_wp2_with fail
  rw [← hW3]
  clear hW3
  go_cut [47] (fun t wc => t = .bool false ∧ Below W3.heap.size W3 wc)
  case first =>
    go_region_held3 (fun wz => wz.cell? ⟨w1.heap.size, 0, none⟩ = some (.slice q n d0) ∧ wz.cell? ⟨w2.heap.size, 0, none⟩ = some (.int .i64 Cr) ∧ wz.cell? ⟨w3.heap.size, 0, none⟩ = some (.int .i64 Co)) (first | exact ⟨by assumption, by assumption, by assumption⟩ | go_keep) (first
      | (go_at_call 10; with_reducible refine (S2.out _ ?_).mono ?_; exact (Below.refl _ _).drew; rintro e v5 ⟨⟨a5, b5, k5, rfl⟩, bb5, t5, r5, s5⟩)
      | (go_at_call 11; with_reducible refine (S4.out _ bb5).mono ?_; rintro e v6 ⟨⟨a6, b6, k6, rfl⟩, bb6, t6, r6, s6⟩))
    all_goals (go_wp2_with fail; go_meet)
    all_goals exact ⟨rfl, bb6⟩
  case rest =>
    rename World => w4
    obtain ⟨rfl, hb⟩ := hcut
    replace B := hidden (keepB B.out hb)
    replace BW := hidden (keepB BW.out hb)
    replace D := hidden (D.out.keep hb)
    replace IT := hidden (IT.out.keep hb)
    replace IB := hidden (IB.out.keep hb)
    replace O7 := hidden (fun h0 => (O7.out h0).keep hb)
    replace R7 := hidden (R7.out.keep hb)
    replace O8 := hidden (fun h0 => (O8.out h0).keep hb)
    replace R8 := hidden (R8.out.keep hb)
    clear hb S2 S4 C1 C2 C3 C4 e0 r0 t0 hcc hkk f31
    have r0 := R7.out.c0
    by_cases hC : Cr = 0
    · obtain ⟨b, N, A, s, e, hR⟩ := HOK.out hC
      have HC := hidden hC
      have o7 := O7.out hC
      have o8 := O8.out hR.co
      obtain ⟨g7, rfl, rfl, i7, hd7⟩ := o7
      obtain ⟨g8, rfl, rfl, i8, hd8⟩ := o8
      have I7 := hidden i7
      have I8 := hidden i8
      have hk := hR.kept
      have HK := hidden hk
      have Q := hidden (hR.syms.keep BW.out)
      obtain ⟨hz1, hz2, hz3, hz4⟩ := cat_codes hR.fine hR.term hR.by' hR.low hR.cut hR.most
      have hmm := cat_size (m := m) (q := s) (e := e) (T := L) hR.by'
      have hle := (skip_le hR.cut)
      have hem := hle.2 (by have := hR.low; omega)
      have hkr := hR.kr
      have hko := hR.ko
      have hmost := hR.most
      have hlow := hR.low
      have hx := hR.at'
      have hkrn := hR.by'.pos
      have hsig := hR.sig
      have hur := hR.ur
      have huo := hR.uo
      have hco := hR.co
      have hcut := hR.cut
      have hsz := sz_ok (term_ok' hR) (show inB x m = true by rw [hx]; simp [inB]; omega)
      clear hR HOK O7 O8 hC
      subst hsig
      rw [HC.out] at r0
      have CG := hidden (show ∀ wc, Below w4.heap.size w4 wc → Calls Try.prog 9 #[.agg #[.slice (some ⟨b, 0, none⟩) n d0], .slice (some ⟨g7, 0, none⟩) n7 d7, .int .i64 x] wc fun e w' => LstAns 0 m2 (fun i => Ur (s + i)) e w' ∧ Below wc.heap.size wc w' from fun wc hc => by
        have P := implSub_any b 0 n d0 g7 0 n7 d7 N A Ur x wc (Q.out.keep hc) (I7.out.keep hc) HK.out (by omega) hd7
        rw [hkr, hur, hx, hz2, Int.toNat_natCast, hmm] at P
        rw [hkr, hur, hx]
        exact P.mono fun e w' h => ⟨h.1.lst, h.2⟩)
      have CB := hidden (show ∀ wc, Below w4.heap.size w4 wc → Calls Try.prog 8 #[.agg #[.slice (some ⟨b, 0, none⟩) n d0], .slice (some ⟨g7, 0, none⟩) n7 d7, .int .i64 x, .slice (some ⟨g8, 0, none⟩) n8 d8] wc fun r w' => LstAns 0 m (catU s (e - s) (s + m2) Ur (fun j => L (s + j))) r w' ∧ Below wc.heap.size wc w' from fun wc hc => by
        have P := implReplace_any b 0 n d0 g7 0 n7 d7 g8 0 n8 d8 N A Ur Uo x wc (Q.out.keep hc) (I7.out.keep hc) (I8.out.keep hc) HK.out (by omega) (by omega) hd7
        rw [hkr, hur, hx, hko, huo, hz4, Int.toNat_natCast, hmm, show s + (e - s) + (s + m2 + (m - e) - (s + m2)) = m by omega] at P
        rw [hkr, hur, hx, hko]
        exact P.mono fun e w' h => ⟨h.1.lst, h.2⟩)
      have CZ := hidden (show ∀ wc, Below w4.heap.size w4 wc → Calls Try.prog 13 #[.agg #[.slice (some ⟨b, 0, none⟩) n d0], .slice (some ⟨g7, 0, none⟩) n7 d7, .int .i64 x] wc fun e w' => e = .returned (.agg #[.int .i64 0, .int .i64 (m2 : Int)]) ∧ Below wc.heap.size wc w' from fun wc hc => by
        have P := implSize_any b 0 n d0 g7 0 n7 d7 N A Ur x wc (Q.out.keep hc) (I7.out.keep hc) HK.out (by omega) hd7
        rw [hkr, hur, hx, hz2, hz3] at P
        rw [hkr, hx]
        exact P)
      have CY := hidden (show ∀ wc, Below w4.heap.size w4 wc → Calls Try.prog 13 #[.agg #[.slice (some ⟨b, 0, none⟩) n d0], .slice (some ⟨g, 0, none⟩) m d, .int .i64 x] wc fun e w' => e = .returned (.agg #[.int .i64 0, .int .i64 (n8 : Int)]) ∧ Below wc.heap.size wc w' from fun wc hc => by
        have P := implSize_any b 0 n d0 g 0 m d N A L x wc (Q.out.keep hc) (IT.out.keep hc) HK.out (by omega) hd
        rw [hsz.1, hsz.2, hx, Int.toNat_natCast, manyN_some hcut, ← hko] at P
        rw [hx]
        exact P)
      have CT := hidden (show ∀ wc, Below w4.heap.size w4 wc → Calls Try.prog 14 #[.agg #[.slice (some ⟨b, 0, none⟩) n d0], .slice (some ⟨g7, 0, none⟩) n7 d7] wc fun e w' => e = .returned (.int .i64 0) ∧ Below wc.heap.size wc w' from fun wc hc => by
        have P := implTerm_any b 0 n d0 g7 0 n7 d7 N A Ur wc (Q.out.keep hc) (I7.out.keep hc) HK.out (by omega)
        rw [hkr, hur, hz1] at P
        rw [hkr]
        exact P)
      have HUM := hidden (show ∀ i, i < m2 → L2 i = Ur (s + i) from fun i hi => by rw [hur]; exact (catU_mid (by omega)).symm)
      have HUB := hidden (show ∀ i, i < m → L i = catU s (e - s) (s + m2) Ur (fun j => L (s + j)) i from fun i hi => by rw [hur]; exact (cat_back (by omega)).symm)
      have HSUM := hidden (show n7 + n8 = m + m2 by omega)
      have h725 : n7 ≤ 25 := by omega
      have h825 : n8 ≤ 25 := by omega
      clear hz1 hz2 hz3 hz4 hmm hle hem hkr hko hmost hlow hx hur huo hco hcut hsz hkrn i7 i8
      have e0 := D.out.c0
      have r1 := R7.out.c1
      have BZ := hidden (Below.refl w4.heap.size w4)
      go_wp2_with fail
      with_reducible refine (CG.out _ BZ.out).mono ?_
      rintro e w5 ⟨ha, hb⟩
      obtain ⟨q9, n9, d9, rfl, ok⟩ := ha
      obtain ⟨g9, rfl, e9, i9, hd9⟩ := ok rfl
      rw [e9]
      clear e9 ok
      have I9 := hidden (i9.keep (alloc_below w5 (.cells #[.int .i64 0, .slice (some ⟨g9, 0, none⟩) m2 d9] 31)))
      replace hb := keepB hb (alloc_below _ (.cells #[.int .i64 0, .slice (some ⟨g9, 0, none⟩) m2 d9] 31))
      clear e0 r0 r1
      replace B := hidden (keepB B.out hb)
      replace BW := hidden (keepB BW.out hb)
      replace D := hidden (D.out.keep hb)
      replace IT := hidden (IT.out.keep hb)
      replace IB := hidden (IB.out.keep hb)
      replace R7 := hidden (R7.out.keep hb)
      replace R8 := hidden (R8.out.keep hb)
      replace I7 := hidden (I7.out.keep hb)
      replace I8 := hidden (I8.out.keep hb)
      replace Q := hidden (Q.out.keep hb)
      replace BZ := hidden (keepB BZ.out hb)
      have R9 := hidden (Two.new w5 (.int .i64 0) (.slice (some ⟨g9, 0, none⟩) m2 d9) 31)
      clear hb i9
      have e0 := D.out.c0
      have r1 := R7.out.c1
      have t1 := R8.out.c1
      go_wp2_with fail
      with_reducible refine (CB.out _ BZ.out).mono ?_
      rintro e w6 ⟨ha, hb⟩
      obtain ⟨q10, n10, d10, rfl, ok⟩ := ha
      obtain ⟨g10, rfl, e10, i10, hd10⟩ := ok rfl
      rw [e10]
      clear e10 ok
      have I10 := hidden (i10.keep (alloc_below w6 (.cells #[.int .i64 0, .slice (some ⟨g10, 0, none⟩) m d10] 31)))
      replace hb := keepB hb (alloc_below _ (.cells #[.int .i64 0, .slice (some ⟨g10, 0, none⟩) m d10] 31))
      clear e0 r1 t1
      replace B := hidden (keepB B.out hb)
      replace BW := hidden (keepB BW.out hb)
      replace D := hidden (D.out.keep hb)
      replace IT := hidden (IT.out.keep hb)
      replace IB := hidden (IB.out.keep hb)
      replace R7 := hidden (R7.out.keep hb)
      replace R8 := hidden (R8.out.keep hb)
      replace I7 := hidden (I7.out.keep hb)
      replace I8 := hidden (I8.out.keep hb)
      replace Q := hidden (Q.out.keep hb)
      replace BZ := hidden (keepB BZ.out hb)
      replace I9 := hidden (I9.out.keep hb)
      replace R9 := hidden (R9.out.keep hb)
      have R10 := hidden (Two.new w6 (.int .i64 0) (.slice (some ⟨g10, 0, none⟩) m d10) 31)
      clear hb i10
      obtain ⟨W6, hW6⟩ : ∃ W6, W6 = (w6.alloc (.cells #[.int .i64 0, .slice (some ⟨g10, 0, none⟩) m d10] 31)) := ⟨_, rfl⟩
      rw [← hW6] at B BW BZ D IT IB R7 R8 I7 I8 Q I9 R9 I10 R10
      have K6 := hidden (show ∀ wc, Below W6.heap.size W6 wc → wc.cell? ⟨w1.heap.size, 0, none⟩ = some (.slice (some ⟨b, 0, none⟩) n d0) ∧ wc.cell? ⟨w2.heap.size, 1, none⟩ = some (.slice (some ⟨g7, 0, none⟩) n7 d7) ∧ wc.cell? ⟨w3.heap.size, 1, none⟩ = some (.slice (some ⟨g8, 0, none⟩) n8 d8) ∧ wc.cell? ⟨w5.heap.size, 0, none⟩ = some (.int .i64 0) ∧ wc.cell? ⟨w5.heap.size, 1, none⟩ = some (.slice (some ⟨g9, 0, none⟩) m2 d9) ∧ wc.cell? ⟨w6.heap.size, 0, none⟩ = some (.int .i64 0) ∧ wc.cell? ⟨w6.heap.size, 1, none⟩ = some (.slice (some ⟨g10, 0, none⟩) m d10) from fun wc hc => ⟨(D.out.keep hc).c0, (R7.out.keep hc).c1, (R8.out.keep hc).c1, (R9.out.keep hc).c0, (R9.out.keep hc).c1, (R10.out.keep hc).c0, (R10.out.keep hc).c1⟩)
      have S1 := hidden (show ∀ wc, Below W6.heap.size W6 wc → Calls Try.prog 12 #[.slice (some ⟨g9, 0, none⟩) m2 d9, .slice (some ⟨g2, 0, none⟩) m2 d2] wc fun e w' => e = .returned (.bool true) ∧ Below W6.heap.size W6 w' ∧ w'.cell? ⟨w1.heap.size, 0, none⟩ = some (.slice (some ⟨b, 0, none⟩) n d0) ∧ w'.cell? ⟨w2.heap.size, 1, none⟩ = some (.slice (some ⟨g7, 0, none⟩) n7 d7) ∧ w'.cell? ⟨w3.heap.size, 1, none⟩ = some (.slice (some ⟨g8, 0, none⟩) n8 d8) ∧ w'.cell? ⟨w5.heap.size, 0, none⟩ = some (.int .i64 0) ∧ w'.cell? ⟨w5.heap.size, 1, none⟩ = some (.slice (some ⟨g9, 0, none⟩) m2 d9) ∧ w'.cell? ⟨w6.heap.size, 0, none⟩ = some (.int .i64 0) ∧ w'.cell? ⟨w6.heap.size, 1, none⟩ = some (.slice (some ⟨g10, 0, none⟩) m d10) from fun wc hc => by
        refine (lwNums_eq g9 m2 d9 g2 d2 _ L2 wc (I9.out.keep hc) (IB.out.keep hc) (by omega) HUM.out).mono ?_
        rintro e w' ⟨rfl, hb'⟩
        exact ⟨rfl, keepB hc hb', K6.out _ (keepB hc hb')⟩)
      have S2 := hidden (show ∀ wc, Below W6.heap.size W6 wc → Calls Try.prog 12 #[.slice (some ⟨g10, 0, none⟩) m d10, .slice (some ⟨g, 0, none⟩) m d] wc fun e w' => e = .returned (.bool true) ∧ Below W6.heap.size W6 w' ∧ w'.cell? ⟨w1.heap.size, 0, none⟩ = some (.slice (some ⟨b, 0, none⟩) n d0) ∧ w'.cell? ⟨w2.heap.size, 1, none⟩ = some (.slice (some ⟨g7, 0, none⟩) n7 d7) ∧ w'.cell? ⟨w3.heap.size, 1, none⟩ = some (.slice (some ⟨g8, 0, none⟩) n8 d8) ∧ w'.cell? ⟨w5.heap.size, 0, none⟩ = some (.int .i64 0) ∧ w'.cell? ⟨w5.heap.size, 1, none⟩ = some (.slice (some ⟨g9, 0, none⟩) m2 d9) ∧ w'.cell? ⟨w6.heap.size, 0, none⟩ = some (.int .i64 0) ∧ w'.cell? ⟨w6.heap.size, 1, none⟩ = some (.slice (some ⟨g10, 0, none⟩) m d10) from fun wc hc => by
        refine (lwNums_eq g10 m d10 g d _ L wc (I10.out.keep hc) (IT.out.keep hc) (by omega) HUB.out).mono ?_
        rintro e w' ⟨rfl, hb'⟩
        exact ⟨rfl, keepB hc hb', K6.out _ (keepB hc hb')⟩)
      have S3 := hidden (show ∀ wc, Below W6.heap.size W6 wc → Calls Try.prog 13 #[.agg #[.slice (some ⟨b, 0, none⟩) n d0], .slice (some ⟨g7, 0, none⟩) n7 d7, .int .i64 x] wc fun e w' => e = .returned (.agg #[.int .i64 0, .int .i64 (m2 : Int)]) ∧ Below W6.heap.size W6 w' ∧ w'.cell? ⟨w1.heap.size, 0, none⟩ = some (.slice (some ⟨b, 0, none⟩) n d0) ∧ w'.cell? ⟨w2.heap.size, 1, none⟩ = some (.slice (some ⟨g7, 0, none⟩) n7 d7) ∧ w'.cell? ⟨w3.heap.size, 1, none⟩ = some (.slice (some ⟨g8, 0, none⟩) n8 d8) ∧ w'.cell? ⟨w5.heap.size, 0, none⟩ = some (.int .i64 0) ∧ w'.cell? ⟨w5.heap.size, 1, none⟩ = some (.slice (some ⟨g9, 0, none⟩) m2 d9) ∧ w'.cell? ⟨w6.heap.size, 0, none⟩ = some (.int .i64 0) ∧ w'.cell? ⟨w6.heap.size, 1, none⟩ = some (.slice (some ⟨g10, 0, none⟩) m d10) from fun wc hc => by
        refine (CZ.out wc (keepB BZ.out hc)).mono ?_
        rintro e w' ⟨rfl, hb'⟩
        exact ⟨rfl, keepB hc hb', K6.out _ (keepB hc hb')⟩)
      have S4 := hidden (show ∀ wc, Below W6.heap.size W6 wc → Calls Try.prog 13 #[.agg #[.slice (some ⟨b, 0, none⟩) n d0], .slice (some ⟨g, 0, none⟩) m d, .int .i64 x] wc fun e w' => e = .returned (.agg #[.int .i64 0, .int .i64 (n8 : Int)]) ∧ Below W6.heap.size W6 w' ∧ w'.cell? ⟨w1.heap.size, 0, none⟩ = some (.slice (some ⟨b, 0, none⟩) n d0) ∧ w'.cell? ⟨w2.heap.size, 1, none⟩ = some (.slice (some ⟨g7, 0, none⟩) n7 d7) ∧ w'.cell? ⟨w3.heap.size, 1, none⟩ = some (.slice (some ⟨g8, 0, none⟩) n8 d8) ∧ w'.cell? ⟨w5.heap.size, 0, none⟩ = some (.int .i64 0) ∧ w'.cell? ⟨w5.heap.size, 1, none⟩ = some (.slice (some ⟨g9, 0, none⟩) m2 d9) ∧ w'.cell? ⟨w6.heap.size, 0, none⟩ = some (.int .i64 0) ∧ w'.cell? ⟨w6.heap.size, 1, none⟩ = some (.slice (some ⟨g10, 0, none⟩) m d10) from fun wc hc => by
        refine (CY.out wc (keepB BZ.out hc)).mono ?_
        rintro e w' ⟨rfl, hb'⟩
        exact ⟨rfl, keepB hc hb', K6.out _ (keepB hc hb')⟩)
      have S5 := hidden (show ∀ wc, Below W6.heap.size W6 wc → Calls Try.prog 14 #[.agg #[.slice (some ⟨b, 0, none⟩) n d0], .slice (some ⟨g7, 0, none⟩) n7 d7] wc fun e w' => e = .returned (.int .i64 0) ∧ Below W6.heap.size W6 w' ∧ w'.cell? ⟨w1.heap.size, 0, none⟩ = some (.slice (some ⟨b, 0, none⟩) n d0) ∧ w'.cell? ⟨w2.heap.size, 1, none⟩ = some (.slice (some ⟨g7, 0, none⟩) n7 d7) ∧ w'.cell? ⟨w3.heap.size, 1, none⟩ = some (.slice (some ⟨g8, 0, none⟩) n8 d8) ∧ w'.cell? ⟨w5.heap.size, 0, none⟩ = some (.int .i64 0) ∧ w'.cell? ⟨w5.heap.size, 1, none⟩ = some (.slice (some ⟨g9, 0, none⟩) m2 d9) ∧ w'.cell? ⟨w6.heap.size, 0, none⟩ = some (.int .i64 0) ∧ w'.cell? ⟨w6.heap.size, 1, none⟩ = some (.slice (some ⟨g10, 0, none⟩) m d10) from fun wc hc => by
        refine (CT.out wc (keepB BZ.out hc)).mono ?_
        rintro e w' ⟨rfl, hb'⟩
        exact ⟨rfl, keepB hc hb', K6.out _ (keepB hc hb')⟩)
      have f36 := fldI1
      have hs0 := K6.out _ (Below.refl _ _)
      obtain ⟨k1, k2, k3, k4, k5, k6, k7⟩ := hs0
      obtain ⟨⟨wa, wa'⟩, ⟨wb, wb'⟩, hq⟩ := sumK HSUM.out hm25 hm225
      clear CG CB CZ CY CT HUM HUB HSUM
      go_wp2_with fail
      rw [← hW6]
      clear hW6
      go_cut [2] (fun t wc => t = .bool true ∧ Below W6.heap.size W6 wc)
      case first =>
        simp only [List.append]
        go_region_held3 (fun wz => wz.cell? ⟨w1.heap.size, 0, none⟩ = some (.slice (some ⟨b, 0, none⟩) n d0) ∧ wz.cell? ⟨w2.heap.size, 1, none⟩ = some (.slice (some ⟨g7, 0, none⟩) n7 d7) ∧ wz.cell? ⟨w3.heap.size, 1, none⟩ = some (.slice (some ⟨g8, 0, none⟩) n8 d8) ∧ wz.cell? ⟨w5.heap.size, 0, none⟩ = some (.int .i64 0) ∧ wz.cell? ⟨w5.heap.size, 1, none⟩ = some (.slice (some ⟨g9, 0, none⟩) m2 d9) ∧ wz.cell? ⟨w6.heap.size, 0, none⟩ = some (.int .i64 0) ∧ wz.cell? ⟨w6.heap.size, 1, none⟩ = some (.slice (some ⟨g10, 0, none⟩) m d10)) (first | exact ⟨by assumption, by assumption, by assumption, by assumption, by assumption, by assumption, by assumption⟩ | go_keep) (first
          | (go_at_call 12; with_reducible refine (S1.out _ ?_).mono ?_; exact (Below.refl _ _).drew; rintro e v1 ⟨rfl, bb1, x11, x12, x13, x14, x15, x16, x17⟩)
          | (go_at_call 12; with_reducible refine (S2.out _ bb1).mono ?_; rintro e v2 ⟨rfl, bb2, x21, x22, x23, x24, x25, x26, x27⟩)
          | (go_at_call 13; with_reducible refine (S3.out _ bb2).mono ?_; rintro e v3 ⟨rfl, bb3, x31, x32, x33, x34, x35, x36, x37⟩)
          | (go_at_call 13; with_reducible refine (S4.out _ bb3).mono ?_; rintro e v4 ⟨rfl, bb4, x41, x42, x43, x44, x45, x46, x47⟩)
          | (go_at_call 14; with_reducible refine (S5.out _ bb4).mono ?_; rintro e v5 ⟨rfl, bb5, x51, x52, x53, x54, x55, x56, x57⟩))
        all_goals (go_wp2_with fail; go_meet)
        all_goals exact ⟨rfl, bb5⟩
      case rest =>
        rename World => w7
        obtain ⟨rfl, hb⟩ := hcut
        replace B := hidden (keepB B.out hb)
        go_wp2
        go_ret
        exact ⟨rfl, B.out⟩
    · have hc0 : (Cr != 0) = true := by simpa using hC
      go_wp2
      go_ret
      exact ⟨rfl, B.out⟩

set_option maxRecDepth 20000 in
set_option maxHeartbeats 800000 in
theorem law_re_big (p : Option Addr) (nn c : Nat) (w : World) (hn : ¬ nn ≤ 1048576) :
    Calls Try.prog 3 #[.slice p nn c] w fun e w' => e = .returned (.bool true) ∧ Below w.heap.size w w' := by
  go_enter Try.func3, Try.ntmps3
  go_wp2_with fail
  with_reducible refine (lwBig_big p nn c w hn).mono ?_
  rintro e w0 ⟨rfl, rfl⟩
  go_wp2
  go_ret
  exact ⟨rfl, Below.refl _ _⟩

theorem law_re_all (p : Option Addr) (nn c : Nat) (z : List Int) (w : World) (h : Byt.IsRow .u8 w p nn c z) :
    Calls Try.prog 3 #[.slice p nn c] w fun e w' => e = .returned (.bool true) ∧ Below w.heap.size w w' := by
  by_cases hn : nn ≤ 1048576
  · exact law_re p nn c _ w (h.src (by omega)) hn
  · exact law_re_big p nn c w hn

end Go.Proofs.Ytjjpkhlbokfjpaa
