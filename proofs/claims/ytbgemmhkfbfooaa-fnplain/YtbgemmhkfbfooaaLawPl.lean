/- Law FnPlain, walked. -/
import Derived.Test.YtbgemmhkfbfooaaML
import Derived.Deep.RegionHeld3
namespace Go.Proofs.Ytbgemmhkfbfooaa
open Go.RowKit

theorem eqn_keep {w w' : World} {q1 q2 : Option Addr} {n1 n2 k1 k2 : Nat} {U1 U2 : Nat → Int} (h : ∃ g1 g2, q1 = some ⟨g1, 0, none⟩ ∧ n1 = k1 ∧ Ints w g1 0 k1 U1 ∧ q2 = some ⟨g2, 0, none⟩ ∧ n2 = k2 ∧ Ints w g2 0 k2 U2) (hb : Below w.heap.size w w') :
    ∃ g1 g2, q1 = some ⟨g1, 0, none⟩ ∧ n1 = k1 ∧ Ints w' g1 0 k1 U1 ∧ q2 = some ⟨g2, 0, none⟩ ∧ n2 = k2 ∧ Ints w' g2 0 k2 U2 := by
  obtain ⟨g1, g2, a1, a2, a3, a4, a5, a6⟩ := h
  exact ⟨g1, g2, a1, a2, a3.keep hb, a4, a5, a6.keep hb⟩

set_option maxRecDepth 20000 in
set_option maxHeartbeats 25600000 in
theorem law_pl (p : Option Addr) (nn c : Nat) (l : List Int) (w : World) (h : Byt.Src w p nn l) (hn : nn ≤ 1048576) :
    Calls Try.prog 3 #[.slice p nn c] w fun e w' => e = .returned (.bool true) ∧ Below w.heap.size w w' := by
  have H := hidden h
  clear h
  go_enter Try.func3, Try.ntmps3
  go_wp2_with fail
  with_reducible refine (lwBig_any p nn c w hn).mono ?_
  rintro e w0 ⟨rfl, rfl⟩
  go_wp2_with fail
  with_reducible refine (drawPlain_any p nn c l w0 H.out).mono ?_
  rintro e w1 ⟨q, n, d0, g, m, d, g2, m2, d2, rfl, hdr⟩
  obtain ⟨L, hL⟩ := hdr.row
  obtain ⟨L2, hL2⟩ := hdr.row2
  have hm25 := hdr.few
  have hm225 := hdr.few2
  obtain ⟨C, U1, U2, c1, c2, hok⟩ := pl_key q n d0 g m d g2 m2 d2 L L2 w1 hdr.sig hL hL2 hm25 hm225
  have C1 := hidden c1
  have C2 := hidden c2
  have HOK := hidden hok
  have BX := keepB (alloc_below w1 (.cells #[.slice q n d0] 26)) (alloc_below _ (.cells #[.slice (some ⟨g, 0, none⟩) m d, .slice (some ⟨g2, 0, none⟩) m2 d2] 29))
  have B := hidden (keepB hdr.below BX)
  have BW := hidden BX
  have D := hidden ((One.new w1 (.slice q n d0) 26).keep (alloc_below _ (.cells #[.slice (some ⟨g, 0, none⟩) m d, .slice (some ⟨g2, 0, none⟩) m2 d2] 29)))
  have E := hidden (Two.new (w1.alloc (.cells #[.slice q n d0] 26)) (.slice (some ⟨g, 0, none⟩) m d) (.slice (some ⟨g2, 0, none⟩) m2 d2) 29)
  rw [World.size_alloc] at E
  replace H := hidden (H.out.later B.out)
  clear hdr c1 c2 hok hL hL2 BX
  have z0 := D.out.c0
  have z1 := E.out.c0
  have z2 := E.out.c1
  go_wp2_with fail
  with_reducible refine (C1.out _ BW.out).mono ?_
  rintro e w5 ⟨ha, hb⟩
  obtain ⟨q7, n7, d7, q8, n8, d8, rfl, ok⟩ := ha
  have O5 := hidden (fun h0 : C = 0 => eqn_keep (ok h0) (alloc_below w5 (.cells #[.int .i64 C, .slice q7 n7 d7, .slice q8 n8 d8] 33)))
  replace hb := keepB hb (alloc_below _ (.cells #[.int .i64 C, .slice q7 n7 d7, .slice q8 n8 d8] 33))
  replace B := hidden (keepB B.out hb)
  replace BW := hidden (keepB BW.out hb)
  replace D := hidden (D.out.keep hb)
  replace E := hidden (E.out.keep hb)
  replace H := hidden (H.out.later hb)
  have R5 := hidden (Three.new w5 (.int .i64 C) (.slice q7 n7 d7) (.slice q8 n8 d8) 33)
  clear hb ok z0 z1 z2
  go_upto_region 5 with fail
  obtain ⟨W5, hW5⟩ : ∃ W5, W5 = w5.alloc (.cells #[.int .i64 C, .slice q7 n7 d7, .slice q8 n8 d8] 33) := ⟨_, rfl⟩
  rw [← hW5]
  rw [← hW5] at B BW D E H O5 R5
  clear hW5
  have K5 := hidden (show ∀ wc, Below W5.heap.size W5 wc → wc.cell? ⟨w1.heap.size, 0, none⟩ = some (.slice q n d0) ∧ wc.cell? ⟨w1.heap.size + 1, 0, none⟩ = some (.slice (some ⟨g, 0, none⟩) m d) ∧ wc.cell? ⟨w1.heap.size + 1, 1, none⟩ = some (.slice (some ⟨g2, 0, none⟩) m2 d2) ∧ wc.cell? ⟨w5.heap.size, 0, none⟩ = some (.int .i64 C) from fun wc hc => ⟨(D.out.keep hc).c0, (E.out.keep hc).c0, (E.out.keep hc).c1, (R5.out.keep hc).c0⟩)
  have S5 := hidden (show ∀ wc, Below W5.heap.size W5 wc → Calls Try.prog 7 #[.agg #[.slice q n d0], .agg #[.slice (some ⟨g, 0, none⟩) m d, .slice (some ⟨g2, 0, none⟩) m2 d2]] wc fun e w' => (∃ a b k a2 b2 k2, e = .returned (.agg #[.int .i64 C, .slice a b k, .slice a2 b2 k2])) ∧ Below W5.heap.size W5 w' ∧ w'.cell? ⟨w1.heap.size, 0, none⟩ = some (.slice q n d0) ∧ w'.cell? ⟨w1.heap.size + 1, 0, none⟩ = some (.slice (some ⟨g, 0, none⟩) m d) ∧ w'.cell? ⟨w1.heap.size + 1, 1, none⟩ = some (.slice (some ⟨g2, 0, none⟩) m2 d2) ∧ w'.cell? ⟨w5.heap.size, 0, none⟩ = some (.int .i64 C) from fun wc hc => by
    refine (C2.out wc (keepB BW.out hc)).mono ?_
    rintro e w' ⟨⟨a, b, k, a2, b2, k2, h, _⟩, hb'⟩
    exact ⟨⟨a, b, k, a2, b2, k2, h⟩, keepB hc hb', K5.out _ (keepB hc hb')⟩)
  have f0 := fldE0
  have h1 : (C != C) = false := by simp
  obtain ⟨k1, k2, k3, k4⟩ := K5.out _ (Below.refl _ _)
  go_cut [28] (fun t wc => t = .bool false ∧ Below W5.heap.size W5 wc)
  case first =>
    go_region_held3 (fun wz => wz.cell? ⟨w1.heap.size, 0, none⟩ = some (.slice q n d0) ∧ wz.cell? ⟨w1.heap.size + 1, 0, none⟩ = some (.slice (some ⟨g, 0, none⟩) m d) ∧ wz.cell? ⟨w1.heap.size + 1, 1, none⟩ = some (.slice (some ⟨g2, 0, none⟩) m2 d2) ∧ wz.cell? ⟨w5.heap.size, 0, none⟩ = some (.int .i64 C)) (first | exact ⟨by assumption, by assumption, by assumption, by assumption⟩ | go_keep) (first | (go_at_call 7; with_reducible refine (S5.out _ ?_).mono ?_; exact (Below.refl _ _).drew; rintro e v1 ⟨⟨a1, b1, e1, a2, b2, e2, rfl⟩, bb1, x11, x12, x13, x14⟩) | fail)
    all_goals (go_wp2_with fail; go_meet)
    all_goals exact ⟨rfl, bb1⟩
  case rest =>
    rename World => x1
    obtain ⟨rfl, hb⟩ := hcut
    replace B := hidden (keepB B.out hb)
    replace BW := hidden (keepB BW.out hb)
    replace D := hidden (D.out.keep hb)
    replace E := hidden (E.out.keep hb)
    replace H := hidden (H.out.later hb)
    replace O5 := hidden (fun h0 => eqn_keep (O5.out h0) hb)
    replace R5 := hidden (R5.out.keep hb)
    clear hb S5 K5 k1 k2 k3 k4 h1 f0
    have r0 := R5.out.c0
    by_cases hC : C = 0
    · obtain ⟨b, N, A, hT⟩ := HOK.out hC
      obtain ⟨g7, g8, rfl, rfl, i7, rfl, rfl, i8⟩ := O5.out hC
      have hsig := hT.sig
      subst hsig
      have Q := hidden (hT.syms.keep BW.out)
      have HK := hidden hT.kept
      have FI := hidden hT.fine
      have I7 := hidden i7
      have I8 := hidden i8
      subst hC
      clear hT i7 i8 O5 HOK C1
      have r1 := R5.out.c1
      have r2 := R5.out.c2
      have z0 := D.out.c0
      have P9 := hidden (plain_again b n d0 g7 d7 g8 d8 n7 n8 N A U1 U2 U1 U2 _ Q.out I7.out I8.out HK.out hm25 hm225 FI.out.code FI.out.same1 FI.out.same2)
      go_wp2_with fail
      with_reducible refine P9.out.mono ?_
      rintro e w9 ⟨⟨g9, d9, g10, d10, rfl, i9, i10⟩, hb⟩
      have I9 := hidden (i9.keep (alloc_below w9 (.cells #[.int .i64 0, .slice (some ⟨g9, 0, none⟩) n7 d9, .slice (some ⟨g10, 0, none⟩) n8 d10] 33)))
      have I10 := hidden (i10.keep (alloc_below w9 (.cells #[.int .i64 0, .slice (some ⟨g9, 0, none⟩) n7 d9, .slice (some ⟨g10, 0, none⟩) n8 d10] 33)))
      replace hb := keepB hb (alloc_below _ (.cells #[.int .i64 0, .slice (some ⟨g9, 0, none⟩) n7 d9, .slice (some ⟨g10, 0, none⟩) n8 d10] 33))
      replace B := hidden (keepB B.out hb)
      replace BW := hidden (keepB BW.out hb)
      replace D := hidden (D.out.keep hb)
      replace E := hidden (E.out.keep hb)
      replace H := hidden (H.out.later hb)
      replace R5 := hidden (R5.out.keep hb)
      replace Q := hidden (Q.out.keep hb)
      replace I7 := hidden (I7.out.keep hb)
      replace I8 := hidden (I8.out.keep hb)
      have R9 := hidden (Three.new w9 (.int .i64 0) (.slice (some ⟨g9, 0, none⟩) n7 d9) (.slice (some ⟨g10, 0, none⟩) n8 d10) 33)
      clear hb i9 i10 P9 r0 r1 r2 z0
      go_wp2_with fail
      with_reducible refine (lwAtB_any p nn c l 1 6 _ H.out (by omega) (by omega) (by omega) (by omega)).mono ?_
      rintro e w10 ⟨v, rfl, hv0, hv6, hb⟩
      replace B := hidden (keepB B.out hb)
      replace BW := hidden (keepB BW.out hb)
      replace D := hidden (D.out.keep hb)
      replace E := hidden (E.out.keep hb)
      replace H := hidden (H.out.later hb)
      replace R5 := hidden (R5.out.keep hb)
      replace Q := hidden (Q.out.keep hb)
      replace I7 := hidden (I7.out.keep hb)
      replace I8 := hidden (I8.out.keep hb)
      replace I9 := hidden (I9.out.keep hb)
      replace I10 := hidden (I10.out.keep hb)
      replace R9 := hidden (R9.out.keep hb)
      clear hb
      have hv5 : v ≤ 5 := by omega
      have r1 := R5.out.c1
      have r2 := R5.out.c2
      have z0 := D.out.c0
      have PS := hidden (shift_ok b n d0 g7 d7 n7 N A U1 v _ Q.out I7.out HK.out (by omega) (FI.out.sh1 v hv0 hv5))
      go_wp2_with fail
      with_reducible refine PS.out.mono ?_
      rintro e w11 ⟨⟨g11, d11, rfl, is⟩, hb⟩
      have R11I := hidden (is.keep (alloc_below w11 (.cells #[.int .i64 0, .slice (some ⟨g11, 0, none⟩) n7 d11] 37)))
      replace hb := keepB hb (alloc_below _ (.cells #[.int .i64 0, .slice (some ⟨g11, 0, none⟩) n7 d11] 37))
      replace B := hidden (keepB B.out hb)
      replace BW := hidden (keepB BW.out hb)
      replace D := hidden (D.out.keep hb)
      replace E := hidden (E.out.keep hb)
      replace H := hidden (H.out.later hb)
      replace R5 := hidden (R5.out.keep hb)
      replace Q := hidden (Q.out.keep hb)
      replace I7 := hidden (I7.out.keep hb)
      replace I8 := hidden (I8.out.keep hb)
      replace I9 := hidden (I9.out.keep hb)
      replace I10 := hidden (I10.out.keep hb)
      replace R9 := hidden (R9.out.keep hb)
      have R11 := hidden (Two.new w11 (.int .i64 0) (.slice (some ⟨g11, 0, none⟩) n7 d11) 37)
      clear hb is PS r1 r2 z0
      have r1 := R5.out.c1
      have r2 := R5.out.c2
      have z0 := D.out.c0
      have PS := hidden (shift_ok b n d0 g8 d8 n8 N A U2 v _ Q.out I8.out HK.out (by omega) (FI.out.sh2 v hv0 hv5))
      go_wp2_with fail
      with_reducible refine PS.out.mono ?_
      rintro e w12 ⟨⟨g12, d12, rfl, is⟩, hb⟩
      have R12I := hidden (is.keep (alloc_below w12 (.cells #[.int .i64 0, .slice (some ⟨g12, 0, none⟩) n8 d12] 37)))
      replace hb := keepB hb (alloc_below _ (.cells #[.int .i64 0, .slice (some ⟨g12, 0, none⟩) n8 d12] 37))
      replace B := hidden (keepB B.out hb)
      replace BW := hidden (keepB BW.out hb)
      replace D := hidden (D.out.keep hb)
      replace E := hidden (E.out.keep hb)
      replace H := hidden (H.out.later hb)
      replace R5 := hidden (R5.out.keep hb)
      replace Q := hidden (Q.out.keep hb)
      replace I7 := hidden (I7.out.keep hb)
      replace I8 := hidden (I8.out.keep hb)
      replace I9 := hidden (I9.out.keep hb)
      replace I10 := hidden (I10.out.keep hb)
      replace R9 := hidden (R9.out.keep hb)
      replace R11I := hidden (R11I.out.keep hb)
      replace R11 := hidden (R11.out.keep hb)
      have R12 := hidden (Two.new w12 (.int .i64 0) (.slice (some ⟨g12, 0, none⟩) n8 d12) 37)
      clear hb is PS r1 r2 z0
      have z0 := D.out.c0
      have z1 := R11.out.c1
      have z2 := R12.out.c1
      have P13 := hidden (plain_again b n d0 g11 d11 g12 d12 n7 n8 N A (shT v U1) (shT v U2) U1 U2 _ Q.out R11I.out R12I.out HK.out hm25 hm225 (FI.out.codeS v hv0 hv5) (FI.out.sameS1 v hv0 hv5) (FI.out.sameS2 v hv0 hv5))
      go_wp2_with fail
      with_reducible refine P13.out.mono ?_
      rintro e w13 ⟨⟨g13, d13, g14, d14, rfl, i13, i14⟩, hb⟩
      have I13 := hidden (i13.keep (alloc_below w13 (.cells #[.int .i64 0, .slice (some ⟨g13, 0, none⟩) n7 d13, .slice (some ⟨g14, 0, none⟩) n8 d14] 33)))
      have I14 := hidden (i14.keep (alloc_below w13 (.cells #[.int .i64 0, .slice (some ⟨g13, 0, none⟩) n7 d13, .slice (some ⟨g14, 0, none⟩) n8 d14] 33)))
      replace hb := keepB hb (alloc_below _ (.cells #[.int .i64 0, .slice (some ⟨g13, 0, none⟩) n7 d13, .slice (some ⟨g14, 0, none⟩) n8 d14] 33))
      replace B := hidden (keepB B.out hb)
      replace BW := hidden (keepB BW.out hb)
      replace D := hidden (D.out.keep hb)
      replace E := hidden (E.out.keep hb)
      replace H := hidden (H.out.later hb)
      replace R5 := hidden (R5.out.keep hb)
      replace Q := hidden (Q.out.keep hb)
      replace I7 := hidden (I7.out.keep hb)
      replace I8 := hidden (I8.out.keep hb)
      replace I9 := hidden (I9.out.keep hb)
      replace I10 := hidden (I10.out.keep hb)
      replace R9 := hidden (R9.out.keep hb)
      replace R11I := hidden (R11I.out.keep hb)
      replace R11 := hidden (R11.out.keep hb)
      replace R12I := hidden (R12I.out.keep hb)
      replace R12 := hidden (R12.out.keep hb)
      have R13 := hidden (Three.new w13 (.int .i64 0) (.slice (some ⟨g13, 0, none⟩) n7 d13) (.slice (some ⟨g14, 0, none⟩) n8 d14) 33)
      clear hb i13 i14 P13 z0 z1 z2
      have z0 := D.out.c0
      have r1 := R5.out.c1
      have r2 := R5.out.c2
      have y1 := R9.out.c0
      have y2 := R11.out.c0
      have y3 := R12.out.c0
      have y4 := R13.out.c0
      have P14 := hidden (implEqF_any b 0 n d0 g7 0 n7 d7 g8 0 n8 d8 N A U1 U2 _ Q.out I7.out I8.out HK.out (by omega) (by omega))
      rw [FI.out.fault] at P14
      go_wp2_with fail
      with_reducible refine P14.out.mono ?_
      rintro e w14 ⟨rfl, hb⟩
      replace B := hidden (keepB B.out hb)
      replace BW := hidden (keepB BW.out hb)
      replace D := hidden (D.out.keep hb)
      replace E := hidden (E.out.keep hb)
      replace H := hidden (H.out.later hb)
      replace R5 := hidden (R5.out.keep hb)
      replace Q := hidden (Q.out.keep hb)
      replace I7 := hidden (I7.out.keep hb)
      replace I8 := hidden (I8.out.keep hb)
      replace I9 := hidden (I9.out.keep hb)
      replace I10 := hidden (I10.out.keep hb)
      replace R9 := hidden (R9.out.keep hb)
      replace R11I := hidden (R11I.out.keep hb)
      replace R11 := hidden (R11.out.keep hb)
      replace R12I := hidden (R12I.out.keep hb)
      replace R12 := hidden (R12.out.keep hb)
      replace I13 := hidden (I13.out.keep hb)
      replace I14 := hidden (I14.out.keep hb)
      replace R13 := hidden (R13.out.keep hb)
      clear hb P14 z0 r1 r2 y1 y2 y3 y4
      have r1 := R5.out.c1
      have r2 := R5.out.c2
      have E1 := hidden (oneD_eqs w14 g7 n7 d7 g8 n8 d8 U1 U2 29 I7.out I8.out)
      have hb := alloc_below w14 (.cells #[.slice (some ⟨g7, 0, none⟩) n7 d7, .slice (some ⟨g8, 0, none⟩) n8 d8] 29)
      replace B := hidden (keepB B.out hb)
      replace BW := hidden (keepB BW.out hb)
      replace D := hidden (D.out.keep hb)
      replace E := hidden (E.out.keep hb)
      replace H := hidden (H.out.later hb)
      replace R5 := hidden (R5.out.keep hb)
      replace Q := hidden (Q.out.keep hb)
      replace I7 := hidden (I7.out.keep hb)
      replace I8 := hidden (I8.out.keep hb)
      replace I9 := hidden (I9.out.keep hb)
      replace I10 := hidden (I10.out.keep hb)
      replace R9 := hidden (R9.out.keep hb)
      replace R11I := hidden (R11I.out.keep hb)
      replace R11 := hidden (R11.out.keep hb)
      replace R12I := hidden (R12I.out.keep hb)
      replace R12 := hidden (R12.out.keep hb)
      replace I13 := hidden (I13.out.keep hb)
      replace I14 := hidden (I14.out.keep hb)
      replace R13 := hidden (R13.out.keep hb)
      clear hb
      have y1 := R9.out.c1
      have y2 := R9.out.c2
      have E2 := hidden (oneD_eqs (w14.alloc (.cells #[.slice (some ⟨g7, 0, none⟩) n7 d7, .slice (some ⟨g8, 0, none⟩) n8 d8] 29)) g9 n7 d9 g10 n8 d10 U1 U2 29 I9.out I10.out)
      have hb := alloc_below (w14.alloc (.cells #[.slice (some ⟨g7, 0, none⟩) n7 d7, .slice (some ⟨g8, 0, none⟩) n8 d8] 29)) (.cells #[.slice (some ⟨g9, 0, none⟩) n7 d9, .slice (some ⟨g10, 0, none⟩) n8 d10] 29)
      replace B := hidden (keepB B.out hb)
      replace BW := hidden (keepB BW.out hb)
      replace D := hidden (D.out.keep hb)
      replace E := hidden (E.out.keep hb)
      replace H := hidden (H.out.later hb)
      replace R5 := hidden (R5.out.keep hb)
      replace Q := hidden (Q.out.keep hb)
      replace I7 := hidden (I7.out.keep hb)
      replace I8 := hidden (I8.out.keep hb)
      replace I9 := hidden (I9.out.keep hb)
      replace I10 := hidden (I10.out.keep hb)
      replace R9 := hidden (R9.out.keep hb)
      replace R11I := hidden (R11I.out.keep hb)
      replace R11 := hidden (R11.out.keep hb)
      replace R12I := hidden (R12I.out.keep hb)
      replace R12 := hidden (R12.out.keep hb)
      replace I13 := hidden (I13.out.keep hb)
      replace I14 := hidden (I14.out.keep hb)
      replace R13 := hidden (R13.out.keep hb)
      replace E1 := hidden (E1.out.keep hb)
      clear hb
      have P15 := hidden (implSameE_any _ 0 _ 0 1 1 1 1 _ _ _ E1.out E2.out (oneD_kept hm25 hm225))
      rw [oneD_same] at P15
      rw [show (w14.alloc (.cells #[.slice (some ⟨g7, 0, none⟩) n7 d7, .slice (some ⟨g8, 0, none⟩) n8 d8] 29)).heap.size = w14.heap.size + 1 from World.size_alloc _ _] at P15
      go_wp2_with fail
      with_reducible refine P15.out.mono ?_
      rintro e w15 ⟨rfl, hb⟩
      replace B := hidden (keepB B.out hb)
      replace BW := hidden (keepB BW.out hb)
      replace D := hidden (D.out.keep hb)
      replace E := hidden (E.out.keep hb)
      replace H := hidden (H.out.later hb)
      replace R5 := hidden (R5.out.keep hb)
      replace Q := hidden (Q.out.keep hb)
      replace I7 := hidden (I7.out.keep hb)
      replace I8 := hidden (I8.out.keep hb)
      replace I9 := hidden (I9.out.keep hb)
      replace I10 := hidden (I10.out.keep hb)
      replace R9 := hidden (R9.out.keep hb)
      replace R11I := hidden (R11I.out.keep hb)
      replace R11 := hidden (R11.out.keep hb)
      replace R12I := hidden (R12I.out.keep hb)
      replace R12 := hidden (R12.out.keep hb)
      replace I13 := hidden (I13.out.keep hb)
      replace I14 := hidden (I14.out.keep hb)
      replace R13 := hidden (R13.out.keep hb)
      replace E1 := hidden (E1.out.keep hb)
      clear hb P15 r1 r2 y1 y2 E2
      have y1 := R13.out.c1
      have y2 := R13.out.c2
      have E3 := hidden (oneD_eqs w15 g13 n7 d13 g14 n8 d14 U1 U2 29 I13.out I14.out)
      have hb := alloc_below w15 (.cells #[.slice (some ⟨g13, 0, none⟩) n7 d13, .slice (some ⟨g14, 0, none⟩) n8 d14] 29)
      replace B := hidden (keepB B.out hb)
      replace BW := hidden (keepB BW.out hb)
      replace D := hidden (D.out.keep hb)
      replace E := hidden (E.out.keep hb)
      replace H := hidden (H.out.later hb)
      replace R5 := hidden (R5.out.keep hb)
      replace Q := hidden (Q.out.keep hb)
      replace I7 := hidden (I7.out.keep hb)
      replace I8 := hidden (I8.out.keep hb)
      replace I9 := hidden (I9.out.keep hb)
      replace I10 := hidden (I10.out.keep hb)
      replace R9 := hidden (R9.out.keep hb)
      replace R11I := hidden (R11I.out.keep hb)
      replace R11 := hidden (R11.out.keep hb)
      replace R12I := hidden (R12I.out.keep hb)
      replace R12 := hidden (R12.out.keep hb)
      replace I13 := hidden (I13.out.keep hb)
      replace I14 := hidden (I14.out.keep hb)
      replace R13 := hidden (R13.out.keep hb)
      replace E1 := hidden (E1.out.keep hb)
      clear hb
      have P16 := hidden (implSameE_any _ 0 _ 0 1 1 1 1 _ _ _ E1.out E3.out (oneD_kept hm25 hm225))
      rw [oneD_same] at P16
      go_wp2_with fail
      with_reducible refine P16.out.mono ?_
      rintro e w16 ⟨rfl, hb⟩
      replace B := hidden (keepB B.out hb)
      replace BW := hidden (keepB BW.out hb)
      replace D := hidden (D.out.keep hb)
      replace E := hidden (E.out.keep hb)
      replace H := hidden (H.out.later hb)
      replace R5 := hidden (R5.out.keep hb)
      replace Q := hidden (Q.out.keep hb)
      replace I7 := hidden (I7.out.keep hb)
      replace I8 := hidden (I8.out.keep hb)
      replace I9 := hidden (I9.out.keep hb)
      replace I10 := hidden (I10.out.keep hb)
      replace R9 := hidden (R9.out.keep hb)
      replace R11I := hidden (R11I.out.keep hb)
      replace R11 := hidden (R11.out.keep hb)
      replace R12I := hidden (R12I.out.keep hb)
      replace R12 := hidden (R12.out.keep hb)
      replace I13 := hidden (I13.out.keep hb)
      replace I14 := hidden (I14.out.keep hb)
      replace R13 := hidden (R13.out.keep hb)
      replace E1 := hidden (E1.out.keep hb)
      clear hb P16 y1 y2 E3
      have r1 := R5.out.c1
      have z0 := D.out.c0
      have z1 := E.out.c0
      have z2 := E.out.c1
      have hvv : ((n7 : Int) == (n7 : Int)) = true := by simp
      have f1 := fldE1
      have P17 := hidden (C2.out _ BW.out)
      go_wp2_with fail
      with_reducible refine P17.out.mono ?_
      rintro e w17 ⟨ha, hb⟩
      obtain ⟨q20, n20, d20, q21, n21, d21, rfl, ok⟩ := ha
      obtain ⟨g20, g21, rfl, rfl, i20, rfl, rfl, i21⟩ := ok rfl
      replace B := hidden (keepB B.out hb)
      replace BW := hidden (keepB BW.out hb)
      replace D := hidden (D.out.keep hb)
      replace E := hidden (E.out.keep hb)
      replace H := hidden (H.out.later hb)
      replace R5 := hidden (R5.out.keep hb)
      replace Q := hidden (Q.out.keep hb)
      replace I7 := hidden (I7.out.keep hb)
      replace I8 := hidden (I8.out.keep hb)
      replace I9 := hidden (I9.out.keep hb)
      replace I10 := hidden (I10.out.keep hb)
      replace R9 := hidden (R9.out.keep hb)
      replace R11I := hidden (R11I.out.keep hb)
      replace R11 := hidden (R11.out.keep hb)
      replace R12I := hidden (R12I.out.keep hb)
      replace R12 := hidden (R12.out.keep hb)
      replace I13 := hidden (I13.out.keep hb)
      replace I14 := hidden (I14.out.keep hb)
      replace R13 := hidden (R13.out.keep hb)
      replace E1 := hidden (E1.out.keep hb)
      have I20 := hidden i20
      have I21 := hidden i21
      clear hb P17 r1 z0 z1 z2 hvv i20 i21 ok
      have E4 := hidden (oneD_eqs w17 g20 n20 d20 g21 n21 d21 U1 U2 29 I20.out I21.out)
      have hb := alloc_below w17 (.cells #[.slice (some ⟨g20, 0, none⟩) n20 d20, .slice (some ⟨g21, 0, none⟩) n21 d21] 29)
      replace B := hidden (keepB B.out hb)
      replace BW := hidden (keepB BW.out hb)
      replace D := hidden (D.out.keep hb)
      replace E := hidden (E.out.keep hb)
      replace H := hidden (H.out.later hb)
      replace R5 := hidden (R5.out.keep hb)
      replace Q := hidden (Q.out.keep hb)
      replace I7 := hidden (I7.out.keep hb)
      replace I8 := hidden (I8.out.keep hb)
      replace I9 := hidden (I9.out.keep hb)
      replace I10 := hidden (I10.out.keep hb)
      replace R9 := hidden (R9.out.keep hb)
      replace R11I := hidden (R11I.out.keep hb)
      replace R11 := hidden (R11.out.keep hb)
      replace R12I := hidden (R12I.out.keep hb)
      replace R12 := hidden (R12.out.keep hb)
      replace I13 := hidden (I13.out.keep hb)
      replace I14 := hidden (I14.out.keep hb)
      replace R13 := hidden (R13.out.keep hb)
      replace E1 := hidden (E1.out.keep hb)
      clear hb
      have P18 := hidden (specSameE_any _ 0 _ 0 1 1 1 1 _ _ _ E1.out E4.out (oneD_kept hm25 hm225))
      rw [oneD_same] at P18
      go_wp2_with fail
      with_reducible refine P18.out.mono ?_
      rintro e w18 ⟨rfl, hb⟩
      replace B := hidden (keepB B.out hb)
      replace BW := hidden (keepB BW.out hb)
      replace D := hidden (D.out.keep hb)
      replace E := hidden (E.out.keep hb)
      replace H := hidden (H.out.later hb)
      replace R5 := hidden (R5.out.keep hb)
      replace Q := hidden (Q.out.keep hb)
      replace I7 := hidden (I7.out.keep hb)
      replace I8 := hidden (I8.out.keep hb)
      replace I9 := hidden (I9.out.keep hb)
      replace I10 := hidden (I10.out.keep hb)
      replace R9 := hidden (R9.out.keep hb)
      replace R11I := hidden (R11I.out.keep hb)
      replace R11 := hidden (R11.out.keep hb)
      replace R12I := hidden (R12I.out.keep hb)
      replace R12 := hidden (R12.out.keep hb)
      replace I13 := hidden (I13.out.keep hb)
      replace I14 := hidden (I14.out.keep hb)
      replace R13 := hidden (R13.out.keep hb)
      replace E1 := hidden (E1.out.keep hb)
      clear hb P18 f1
      go_wp2
      go_ret
      exact ⟨rfl, B.out⟩
    · have hc0 : (C != 0) = true := by simpa using hC
      go_wp2
      go_ret
      exact ⟨rfl, B.out⟩

set_option maxRecDepth 20000 in
set_option maxHeartbeats 800000 in
theorem law_pl_big (p : Option Addr) (nn c : Nat) (w : World) (hn : ¬ nn ≤ 1048576) :
    Calls Try.prog 3 #[.slice p nn c] w fun e w' => e = .returned (.bool true) ∧ Below w.heap.size w w' := by
  go_enter Try.func3, Try.ntmps3
  go_wp2_with fail
  with_reducible refine (lwBig_big p nn c w hn).mono ?_
  rintro e w0 ⟨rfl, rfl⟩
  go_wp2
  go_ret
  exact ⟨rfl, Below.refl _ _⟩

theorem law_pl_all (p : Option Addr) (nn c : Nat) (z : List Int) (w : World) (h : Byt.IsRow .u8 w p nn c z) :
    Calls Try.prog 3 #[.slice p nn c] w fun e w' => e = .returned (.bool true) ∧ Below w.heap.size w w' := by
  by_cases hn : nn ≤ 1048576
  · exact law_pl p nn c _ w (h.src (by omega)) hn
  · exact law_pl_big p nn c w hn

end Go.Proofs.Ytbgemmhkfbfooaa
