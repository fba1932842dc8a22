/- Law FnExactAreJoined: at every signature, list of rules, two lists of nodes and number the program's AreJoined answers as the model's, and leaves all as they were. -/
import Derived.Test.YtbdgnpjbmlcchaaJn
namespace Go.Proofs.Ytbdgnpjbmlcchaa
open Go.RowKit

set_option maxRecDepth 20000 in
set_option maxHeartbeats 6400000 in
theorem law_aj (p : Option Addr) (n c : Nat) (N : Nat → ByteArray) (A : Nat → Int) (p1 : Option Addr) (m1 c1 : Nat) (D1 : EqL) (p2 : Option Addr) (m2 c2 : Nat) (L2 : Nat → Int) (p3 : Option Addr) (m3 c3 : Nat) (L3 : Nat → Int) (ia : Int) (w : World) (h : SrcS w p n N A) (h1 : SrcE w p1 m1 D1) (h2 : SrcI w p2 m2 L2) (h3 : SrcI w p3 m3 L3) (hm2 : m2 ≤ 1048576) (hm3 : m3 ≤ 1048576) :
    Calls Try.prog 3 #[.agg #[.slice p n c], .slice p1 m1 c1, .slice p2 m2 c2, .slice p3 m3 c3, .int .i64 ia] w fun e w' => e = .returned (.bool true) ∧ Below w.heap.size w w' := by
  obtain ⟨z0, hz0⟩ : ∃ z, z = ajC n N A m1 D1 ia m2 L2 m3 L3 := ⟨_, rfl⟩
  obtain ⟨z1, hz1⟩ : ∃ z, z = ajV n N A m1 D1 ia m2 L2 m3 L3 := ⟨_, rfl⟩
  have HZ := hidden (And.intro hz0 hz1)
  clear hz0 hz1
  have SP : Hid (∀ b b1 b2 b3 w, Syms w b 0 n N A → Eqs w b1 0 m1 D1 → Ints w b2 0 m2 L2 → Ints w b3 0 m3 L3 → Kept n N A → KeptE m1 D1 → Calls Try.prog 6 #[.agg #[.slice (some ⟨b, 0, none⟩) n n], .slice (some ⟨b1, 0, none⟩) m1 m1, .slice (some ⟨b2, 0, none⟩) m2 m2, .slice (some ⟨b3, 0, none⟩) m3 m3, .int .i64 ia] w fun e w' => e = .returned (.agg #[.int .i64 z0, .int .i64 z1]) ∧ Below w.heap.size w w') := hidden (fun b b1 b2 b3 w h h1 h2 h3 hk hk1 => by
    have := specAj_any b 0 n n b1 0 m1 m1 b2 0 m2 m2 b3 0 m3 m3 N A L2 L3 D1 ia w h h1 h2 h3 hk hk1 hm2 hm3
    rwa [← HZ.out.1, ← HZ.out.2] at this)
  have IM : Hid (∀ b b1 b2 b3 w, Syms w b 0 n N A → Eqs w b1 0 m1 D1 → Ints w b2 0 m2 L2 → Ints w b3 0 m3 L3 → Kept n N A → KeptE m1 D1 → Calls Try.prog 10 #[.agg #[.slice (some ⟨b, 0, none⟩) n n], .slice (some ⟨b1, 0, none⟩) m1 m1, .slice (some ⟨b2, 0, none⟩) m2 m2, .slice (some ⟨b3, 0, none⟩) m3 m3, .int .i64 ia] w fun e w' => e = .returned (.agg #[.int .i64 z0, .int .i64 z1]) ∧ Below w.heap.size w w') := hidden (fun b b1 b2 b3 w h h1 h2 h3 hk hk1 => by
    have := implAj_any b 0 n n b1 0 m1 m1 b2 0 m2 m2 b3 0 m3 m3 N A L2 L3 D1 ia w h h1 h2 h3 hk hk1 hm2 hm3
    rwa [← HZ.out.1, ← HZ.out.2] at this)
  have D0 := hidden (One.new w (.slice p n c) 24)
  have B := hidden (alloc_below w (.cells #[.slice p n c] 24))
  have H := hidden (h.keep B.out)
  have H1 := hidden (h1.keep B.out)
  have H2 := hidden (h2.keep B.out)
  have H3 := hidden (h3.keep B.out)
  have HM2 := hidden hm2
  have HM3 := hidden hm3
  clear h h1 h2 h3
  go_enter Try.func3, Try.ntmps3
  go_wp2_with fail
  with_reducible refine (szSignature_src p n c N A 1048576 _ H.out (by omega) (by omega)).mono ?_
  rintro e w1 ⟨⟨r1, rfl, hr⟩, hb⟩
  replace D0 := hidden (D0.out.keep hb)
  replace B := hidden (keepB B.out hb)
  replace H := hidden (H.out.keep hb)
  replace H1 := hidden (H1.out.keep hb)
  replace H2 := hidden (H2.out.keep hb)
  replace H3 := hidden (H3.out.keep hb)
  clear hb
  rcases hr with rfl | ⟨q0, q1, q2, q3⟩
  · go_wp2_with fail
    go_ret
    exact ⟨rfl, B.out⟩
  have HK := hidden (Kept.mk q2 q3 H.out.fits)
  clear q2 q3
  go_wp2_with fail
  with_reducible refine (szEquationS_src p1 m1 c1 D1 _ _ H1.out q0 q1).mono ?_
  rintro e w2 ⟨⟨r2, rfl, hr⟩, hb⟩
  replace D0 := hidden (D0.out.keep hb)
  replace B := hidden (keepB B.out hb)
  replace H := hidden (H.out.keep hb)
  replace H1 := hidden (H1.out.keep hb)
  replace H2 := hidden (H2.out.keep hb)
  replace H3 := hidden (H3.out.keep hb)
  clear hb
  clear q0 q1
  rcases hr with rfl | ⟨q0, q1, q2⟩
  · go_wp2_with fail
    go_ret
    exact ⟨rfl, B.out⟩
  have HM := hidden q2
  clear q1 q2
  have d0 := D0.out.c0
  go_wp2_with fail
  with_reducible refine (toSig_new p n c N A _ H.out HK.out).mono ?_
  rintro e w3 ⟨g3, rfl, hg, hl, hs, hb⟩
  replace D0 := hidden (D0.out.keep hb)
  replace B := hidden (keepB B.out hb)
  replace H := hidden (H.out.keep hb)
  replace H1 := hidden (H1.out.keep hb)
  replace H2 := hidden (H2.out.keep hb)
  replace H3 := hidden (H3.out.keep hb)
  clear d0 hb hg hl
  have P := hidden (hs)
  clear hs
  go_wp2_with fail
  with_reducible refine (toEqs_new p1 m1 c1 D1 _ H1.out HM.out).mono ?_
  rintro e w4 ⟨g4, rfl, hg, hs, hb⟩
  replace D0 := hidden (D0.out.keep hb)
  replace B := hidden (keepB B.out hb)
  replace H := hidden (H.out.keep hb)
  replace H1 := hidden (H1.out.keep hb)
  replace H2 := hidden (H2.out.keep hb)
  replace H3 := hidden (H3.out.keep hb)
  replace P := hidden (P.out.keep hb)
  clear hb hg
  have P1 := hidden (hs.eqs)
  clear hs
  go_wp2_with fail
  with_reducible refine (toInts_new p2 m2 c2 L2 _ H2.out HM2.out).mono ?_
  rintro e w5 ⟨g5, rfl, hs, hb⟩
  replace D0 := hidden (D0.out.keep hb)
  replace B := hidden (keepB B.out hb)
  replace H := hidden (H.out.keep hb)
  replace H1 := hidden (H1.out.keep hb)
  replace H2 := hidden (H2.out.keep hb)
  replace H3 := hidden (H3.out.keep hb)
  replace P := hidden (P.out.keep hb)
  replace P1 := hidden (P1.out.keep hb)
  clear hb
  have P2 := hidden (hs)
  clear hs
  go_wp2_with fail
  with_reducible refine (toInts_new p3 m3 c3 L3 _ H3.out HM3.out).mono ?_
  rintro e w6 ⟨g6, rfl, hs, hb⟩
  replace D0 := hidden (D0.out.keep hb)
  replace B := hidden (keepB B.out hb)
  replace H := hidden (H.out.keep hb)
  replace H1 := hidden (H1.out.keep hb)
  replace H2 := hidden (H2.out.keep hb)
  replace H3 := hidden (H3.out.keep hb)
  replace P := hidden (P.out.keep hb)
  replace P1 := hidden (P1.out.keep hb)
  replace P2 := hidden (P2.out.keep hb)
  clear hb
  have P3 := hidden (hs)
  clear hs
  go_wp2_with fail
  with_reducible refine (SP.out _ _ _ _ _ P.out P1.out P2.out P3.out HK.out HM.out).mono ?_
  rintro e w7 ⟨rfl, hb⟩
  replace D0 := hidden (D0.out.keep hb)
  replace B := hidden (keepB B.out hb)
  replace H := hidden (H.out.keep hb)
  replace H1 := hidden (H1.out.keep hb)
  replace H2 := hidden (H2.out.keep hb)
  replace H3 := hidden (H3.out.keep hb)
  replace P := hidden (P.out.keep hb)
  replace P1 := hidden (P1.out.keep hb)
  replace P2 := hidden (P2.out.keep hb)
  replace P3 := hidden (P3.out.keep hb)
  clear hb
  clear P P1 P2 P3
  have hb := alloc_below w7 (.cells #[.int .i64 z0, .int .i64 z1] 30)
  replace D0 := hidden (D0.out.keep hb)
  replace B := hidden (keepB B.out hb)
  replace H := hidden (H.out.keep hb)
  replace H1 := hidden (H1.out.keep hb)
  replace H2 := hidden (H2.out.keep hb)
  replace H3 := hidden (H3.out.keep hb)
  clear hb
  have R0 := hidden (Two.new w7 (.int .i64 z0) (.int .i64 z1) 30)
  have d0 := D0.out.c0
  go_wp2_with fail
  with_reducible refine (toSig_new p n c N A _ H.out HK.out).mono ?_
  rintro e w8 ⟨g8, rfl, hg, hl, hs, hb⟩
  replace D0 := hidden (D0.out.keep hb)
  replace B := hidden (keepB B.out hb)
  replace H := hidden (H.out.keep hb)
  replace H1 := hidden (H1.out.keep hb)
  replace H2 := hidden (H2.out.keep hb)
  replace H3 := hidden (H3.out.keep hb)
  replace R0 := hidden (R0.out.keep hb)
  clear d0 hb hg hl
  have Q := hidden (hs)
  clear hs
  have hb := alloc_below w8 (.cells #[.slice (some ⟨g8, 0, none⟩) n n] 34)
  replace D0 := hidden (D0.out.keep hb)
  replace B := hidden (keepB B.out hb)
  replace H := hidden (H.out.keep hb)
  replace H1 := hidden (H1.out.keep hb)
  replace H2 := hidden (H2.out.keep hb)
  replace H3 := hidden (H3.out.keep hb)
  replace R0 := hidden (R0.out.keep hb)
  replace Q := hidden (Q.out.keep hb)
  clear hb
  have X := hidden (One.new w8 (.slice (some ⟨g8, 0, none⟩) n n) 34)
  go_wp2_with fail
  with_reducible refine (toEqs_new p1 m1 c1 D1 _ H1.out HM.out).mono ?_
  rintro e w9 ⟨g9, rfl, hg, hs, hb⟩
  replace D0 := hidden (D0.out.keep hb)
  replace B := hidden (keepB B.out hb)
  replace H := hidden (H.out.keep hb)
  replace H1 := hidden (H1.out.keep hb)
  replace H2 := hidden (H2.out.keep hb)
  replace H3 := hidden (H3.out.keep hb)
  replace R0 := hidden (R0.out.keep hb)
  replace Q := hidden (Q.out.keep hb)
  replace X := hidden (X.out.keep hb)
  clear hb hg
  have Q1 := hidden (hs.eqs)
  clear hs
  go_wp2_with fail
  with_reducible refine (toInts_new p2 m2 c2 L2 _ H2.out HM2.out).mono ?_
  rintro e w10 ⟨g10, rfl, hs, hb⟩
  replace D0 := hidden (D0.out.keep hb)
  replace B := hidden (keepB B.out hb)
  replace H := hidden (H.out.keep hb)
  replace H1 := hidden (H1.out.keep hb)
  replace H2 := hidden (H2.out.keep hb)
  replace H3 := hidden (H3.out.keep hb)
  replace R0 := hidden (R0.out.keep hb)
  replace Q := hidden (Q.out.keep hb)
  replace X := hidden (X.out.keep hb)
  replace Q1 := hidden (Q1.out.keep hb)
  clear hb
  have Q2 := hidden (hs)
  clear hs
  go_wp2_with fail
  with_reducible refine (toInts_new p3 m3 c3 L3 _ H3.out HM3.out).mono ?_
  rintro e w11 ⟨g11, rfl, hs, hb⟩
  replace D0 := hidden (D0.out.keep hb)
  replace B := hidden (keepB B.out hb)
  replace H := hidden (H.out.keep hb)
  replace H1 := hidden (H1.out.keep hb)
  replace H2 := hidden (H2.out.keep hb)
  replace H3 := hidden (H3.out.keep hb)
  replace R0 := hidden (R0.out.keep hb)
  replace Q := hidden (Q.out.keep hb)
  replace X := hidden (X.out.keep hb)
  replace Q1 := hidden (Q1.out.keep hb)
  replace Q2 := hidden (Q2.out.keep hb)
  clear hb
  have Q3 := hidden (hs)
  clear hs
  have x0 := X.out.c0
  go_wp2_with fail
  with_reducible refine (IM.out _ _ _ _ _ Q.out Q1.out Q2.out Q3.out HK.out HM.out).mono ?_
  rintro e w12 ⟨rfl, hb⟩
  replace D0 := hidden (D0.out.keep hb)
  replace B := hidden (keepB B.out hb)
  replace H := hidden (H.out.keep hb)
  replace H1 := hidden (H1.out.keep hb)
  replace H2 := hidden (H2.out.keep hb)
  replace H3 := hidden (H3.out.keep hb)
  replace R0 := hidden (R0.out.keep hb)
  replace Q := hidden (Q.out.keep hb)
  replace X := hidden (X.out.keep hb)
  replace Q1 := hidden (Q1.out.keep hb)
  replace Q2 := hidden (Q2.out.keep hb)
  replace Q3 := hidden (Q3.out.keep hb)
  clear x0 hb
  have hb := alloc_below w12 (.cells #[.int .i64 z0, .int .i64 z1] 30)
  replace D0 := hidden (D0.out.keep hb)
  replace B := hidden (keepB B.out hb)
  replace H := hidden (H.out.keep hb)
  replace H1 := hidden (H1.out.keep hb)
  replace H2 := hidden (H2.out.keep hb)
  replace H3 := hidden (H3.out.keep hb)
  replace R0 := hidden (R0.out.keep hb)
  replace Q := hidden (Q.out.keep hb)
  replace X := hidden (X.out.keep hb)
  replace Q1 := hidden (Q1.out.keep hb)
  replace Q2 := hidden (Q2.out.keep hb)
  replace Q3 := hidden (Q3.out.keep hb)
  clear hb
  have R1 := hidden (Two.new w12 (.int .i64 z0) (.int .i64 z1) 30)
  have r0 := R0.out.c0
  have r1 := R0.out.c1
  have r3 := R1.out.c0
  have r4 := R1.out.c1
  go_wp2_with fail
  with_reducible refine (eqInt_eq _ _ _).mono ?_
  rintro e w13 ⟨rfl, hb⟩
  replace D0 := hidden (D0.out.keep hb)
  replace B := hidden (keepB B.out hb)
  replace H := hidden (H.out.keep hb)
  replace H1 := hidden (H1.out.keep hb)
  replace H2 := hidden (H2.out.keep hb)
  replace H3 := hidden (H3.out.keep hb)
  replace R0 := hidden (R0.out.keep hb)
  replace Q := hidden (Q.out.keep hb)
  replace X := hidden (X.out.keep hb)
  replace Q1 := hidden (Q1.out.keep hb)
  replace Q2 := hidden (Q2.out.keep hb)
  replace Q3 := hidden (Q3.out.keep hb)
  replace R1 := hidden (R1.out.keep hb)
  clear r0 r1 r3 r4 hb
  clear R0 R1
  have S1 := hidden (show ∀ wc, Below w13.heap.size w13 wc → Calls Try.prog 7 #[.agg #[.slice p n c]] wc fun e w' => ∃ g, e = .returned (.agg #[.slice (some ⟨g, 0, none⟩) n n]) ∧ Below w13.heap.size w13 w' ∧ Syms w' g 0 n N A ∧ w'.cell? ⟨w8.heap.size, 0, none⟩ = some (.slice (some ⟨g8, 0, none⟩) n n) from fun wc hc => by
    refine (toSig_new p n c N A wc (H.out.keep hc) HK.out).mono ?_
    rintro e w' ⟨g, rfl, hg, hl, hs, hb⟩
    exact ⟨g, rfl, keepB hc hb, hs, (X.out.keep (keepB hc hb)).c0⟩)
  have S2 := hidden (show ∀ wc g, Below w13.heap.size w13 wc → Syms wc g 0 n N A → Calls Try.prog 12 #[.agg #[.slice (some ⟨g8, 0, none⟩) n n], .agg #[.slice (some ⟨g, 0, none⟩) n n]] wc fun e w' => e = .returned (.bool true) ∧ Below w13.heap.size w13 w' from fun wc g hc hm => by
    refine (eqSignature_eq g8 0 g 0 n n n N A wc (Q.out.keep hc) hm HK.out.most).mono ?_
    rintro e w' ⟨rfl, hb⟩
    exact ⟨rfl, keepB hc hb⟩)
  have x0 := X.out.c0
  have d0 := D0.out.c0
  go_wp2_with fail
  go_cut [66] (fun t wc => t = .bool false ∧ Below w13.heap.size w13 wc)
  case first =>
    go_region_with (first
      | (go_at_call 7; with_reducible refine (S1.out _ ?_).mono ?_; exact (Below.refl _ _).drew; rintro e v5 ⟨g5', rfl, b5', m5', d5'⟩)
      | (go_at_call 12; with_reducible refine (S2.out _ _ b5' m5').mono ?_; rintro e v6 ⟨rfl, b6'⟩))
    all_goals (go_wp2_with fail; go_meet)
    all_goals exact ⟨rfl, b6'⟩
  case rest =>
    rename World => w14
    obtain ⟨rfl, hb⟩ := hcut
    replace D0 := hidden (D0.out.keep hb)
    replace B := hidden (keepB B.out hb)
    replace H := hidden (H.out.keep hb)
    replace H1 := hidden (H1.out.keep hb)
    replace H2 := hidden (H2.out.keep hb)
    replace H3 := hidden (H3.out.keep hb)
    replace Q := hidden (Q.out.keep hb)
    replace X := hidden (X.out.keep hb)
    replace Q1 := hidden (Q1.out.keep hb)
    replace Q2 := hidden (Q2.out.keep hb)
    replace Q3 := hidden (Q3.out.keep hb)
    clear x0 d0 hb S1 S2
    go_wp2_with fail
    with_reducible refine (toEqs_new p1 m1 c1 D1 _ H1.out HM.out).mono ?_
    rintro e w15 ⟨g15, rfl, hg, hs, hb⟩
    replace D0 := hidden (D0.out.keep hb)
    replace B := hidden (keepB B.out hb)
    replace H := hidden (H.out.keep hb)
    replace H1 := hidden (H1.out.keep hb)
    replace H2 := hidden (H2.out.keep hb)
    replace H3 := hidden (H3.out.keep hb)
    replace Q := hidden (Q.out.keep hb)
    replace X := hidden (X.out.keep hb)
    replace Q1 := hidden (Q1.out.keep hb)
    replace Q2 := hidden (Q2.out.keep hb)
    replace Q3 := hidden (Q3.out.keep hb)
    clear hb hg
    have Q4 := hidden (hs.eqs)
    clear hs
    go_wp2_with fail
    with_reducible refine (eqEquationS_eq _ _ _ _ _ _ _ D1 _ Q1.out Q4.out HM.out).mono ?_
    rintro e w16 ⟨rfl, hb⟩
    replace D0 := hidden (D0.out.keep hb)
    replace B := hidden (keepB B.out hb)
    replace H := hidden (H.out.keep hb)
    replace H1 := hidden (H1.out.keep hb)
    replace H2 := hidden (H2.out.keep hb)
    replace H3 := hidden (H3.out.keep hb)
    replace Q := hidden (Q.out.keep hb)
    replace X := hidden (X.out.keep hb)
    replace Q1 := hidden (Q1.out.keep hb)
    replace Q2 := hidden (Q2.out.keep hb)
    replace Q3 := hidden (Q3.out.keep hb)
    replace Q4 := hidden (Q4.out.keep hb)
    clear hb
    clear Q4
    go_wp2_with fail
    with_reducible refine (toInts_new p2 m2 c2 L2 _ H2.out HM2.out).mono ?_
    rintro e w17 ⟨g17, rfl, hs, hb⟩
    replace D0 := hidden (D0.out.keep hb)
    replace B := hidden (keepB B.out hb)
    replace H := hidden (H.out.keep hb)
    replace H1 := hidden (H1.out.keep hb)
    replace H2 := hidden (H2.out.keep hb)
    replace H3 := hidden (H3.out.keep hb)
    replace Q := hidden (Q.out.keep hb)
    replace X := hidden (X.out.keep hb)
    replace Q1 := hidden (Q1.out.keep hb)
    replace Q2 := hidden (Q2.out.keep hb)
    replace Q3 := hidden (Q3.out.keep hb)
    clear hb
    have Q5 := hidden (hs)
    clear hs
    go_wp2_with fail
    with_reducible refine (eqInt64S_eq _ _ _ _ _ _ _ L2 _ Q2.out Q5.out HM2.out).mono ?_
    rintro e w18 ⟨rfl, hb⟩
    replace D0 := hidden (D0.out.keep hb)
    replace B := hidden (keepB B.out hb)
    replace H := hidden (H.out.keep hb)
    replace H1 := hidden (H1.out.keep hb)
    replace H2 := hidden (H2.out.keep hb)
    replace H3 := hidden (H3.out.keep hb)
    replace Q := hidden (Q.out.keep hb)
    replace X := hidden (X.out.keep hb)
    replace Q1 := hidden (Q1.out.keep hb)
    replace Q2 := hidden (Q2.out.keep hb)
    replace Q3 := hidden (Q3.out.keep hb)
    replace Q5 := hidden (Q5.out.keep hb)
    clear hb
    clear Q5
    go_wp2_with fail
    with_reducible refine (toInts_new p3 m3 c3 L3 _ H3.out HM3.out).mono ?_
    rintro e w19 ⟨g19, rfl, hs, hb⟩
    replace D0 := hidden (D0.out.keep hb)
    replace B := hidden (keepB B.out hb)
    replace H := hidden (H.out.keep hb)
    replace H1 := hidden (H1.out.keep hb)
    replace H2 := hidden (H2.out.keep hb)
    replace H3 := hidden (H3.out.keep hb)
    replace Q := hidden (Q.out.keep hb)
    replace X := hidden (X.out.keep hb)
    replace Q1 := hidden (Q1.out.keep hb)
    replace Q2 := hidden (Q2.out.keep hb)
    replace Q3 := hidden (Q3.out.keep hb)
    clear hb
    have Q5 := hidden (hs)
    clear hs
    go_wp2_with fail
    with_reducible refine (eqInt64S_eq _ _ _ _ _ _ _ L3 _ Q3.out Q5.out HM3.out).mono ?_
    rintro e w20 ⟨rfl, hb⟩
    replace D0 := hidden (D0.out.keep hb)
    replace B := hidden (keepB B.out hb)
    replace H := hidden (H.out.keep hb)
    replace H1 := hidden (H1.out.keep hb)
    replace H2 := hidden (H2.out.keep hb)
    replace H3 := hidden (H3.out.keep hb)
    replace Q := hidden (Q.out.keep hb)
    replace X := hidden (X.out.keep hb)
    replace Q1 := hidden (Q1.out.keep hb)
    replace Q2 := hidden (Q2.out.keep hb)
    replace Q3 := hidden (Q3.out.keep hb)
    replace Q5 := hidden (Q5.out.keep hb)
    clear hb
    clear Q5
    go_wp2_with fail
    go_ret
    exact ⟨rfl, B.out⟩

set_option maxRecDepth 20000 in
set_option maxHeartbeats 400000 in
theorem law_aj_big2 (p : Option Addr) (n c : Nat) (p1 : Option Addr) (m1 c1 : Nat) (p2 : Option Addr) (m2 c2 : Nat) (p3 : Option Addr) (m3 c3 : Nat) (ia : Int) (w : World) (hm : ¬ m2 ≤ 1048576) :
    Calls Try.prog 3 #[.agg #[.slice p n c], .slice p1 m1 c1, .slice p2 m2 c2, .slice p3 m3 c3, .int .i64 ia] w fun e w' => e = .returned (.bool true) ∧ Below w.heap.size w w' := by
  have h : (1048576 : Int) < m2 := by omega
  go_enter Try.func3, Try.ntmps3
  go_wp2
  go_ret
  exact ⟨rfl, alloc_below _ _⟩

set_option maxRecDepth 20000 in
set_option maxHeartbeats 400000 in
theorem law_aj_big3 (p : Option Addr) (n c : Nat) (p1 : Option Addr) (m1 c1 : Nat) (p2 : Option Addr) (m2 c2 : Nat) (p3 : Option Addr) (m3 c3 : Nat) (ia : Int) (w : World) (hm2 : m2 ≤ 1048576) (hm : ¬ m3 ≤ 1048576) :
    Calls Try.prog 3 #[.agg #[.slice p n c], .slice p1 m1 c1, .slice p2 m2 c2, .slice p3 m3 c3, .int .i64 ia] w fun e w' => e = .returned (.bool true) ∧ Below w.heap.size w w' := by
  have h2 : ¬ (1048576 : Int) < m2 := by omega
  have h : (1048576 : Int) < m3 := by omega
  go_enter Try.func3, Try.ntmps3
  go_wp2
  go_ret
  exact ⟨rfl, alloc_below _ _⟩

theorem law_aj_all (p : Option Addr) (n c : Nat) (N : Nat → ByteArray) (A : Nat → Int) (p1 : Option Addr) (m1 c1 : Nat) (D1 : EqL) (p2 : Option Addr) (m2 c2 : Nat) (L2 : Nat → Int) (p3 : Option Addr) (m3 c3 : Nat) (L3 : Nat → Int) (ia : Int) (w : World) (h : SrcS w p n N A) (h1 : SrcE w p1 m1 D1) (h2 : SrcI w p2 m2 L2) (h3 : SrcI w p3 m3 L3) :
    Calls Try.prog 3 #[.agg #[.slice p n c], .slice p1 m1 c1, .slice p2 m2 c2, .slice p3 m3 c3, .int .i64 ia] w fun e w' => e = .returned (.bool true) ∧ Below w.heap.size w w' := by
  by_cases hm2 : m2 ≤ 1048576
  · by_cases hm3 : m3 ≤ 1048576
    · exact law_aj p n c N A p1 m1 c1 D1 p2 m2 c2 L2 p3 m3 c3 L3 ia w h h1 h2 h3 hm2 hm3
    · exact law_aj_big3 p n c p1 m1 c1 p2 m2 c2 p3 m3 c3 ia w hm2 hm3
  · exact law_aj_big2 p n c p1 m1 c1 p2 m2 c2 p3 m3 c3 ia w hm2

end Go.Proofs.Ytbdgnpjbmlcchaa
