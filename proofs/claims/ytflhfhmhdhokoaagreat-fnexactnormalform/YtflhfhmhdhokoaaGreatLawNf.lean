/- Law FnExactNormalForm: at every signature, list of rules, list of nodes and number the program's NormalForm answers as the model's; its answer owns its memory. -/
import Derived.Test.YtflhfhmhdhokoaaGreatNrmF
import Derived.Test.YtflhfhmhdhokoaaGreatEqsN
import Derived.Test.YtflhfhmhdhokoaaGreatNfRes
namespace Go.Proofs.YtflhfhmhdhokoaaGreat
open Go.RowKit

set_option maxRecDepth 20000 in
set_option maxHeartbeats 12800000 in
theorem law_nf_ok (p : Option Addr) (n c : Nat) (N : Nat → ByteArray) (A : Nat → Int) (p1 : Option Addr) (m1 c1 : Nat) (D1 : EqL) (p2 : Option Addr) (m2 c2 : Nat) (L2 : Nat → Int) (ia : Int) (C : Int) (st K : Nat) (U : Nat → Int) (w : World) (h : SrcS w p n N A) (h1 : SrcE w p1 m1 D1) (h2 : SrcI w p2 m2 L2) (hm2 : m2 ≤ 1048576) (hc : C = 0) (hK : K ≤ 1048576)
    (SP : Hid (∀ b b1 b2 w, Syms w b 0 n N A → Eqs w b1 0 m1 D1 → Ints w b2 0 m2 L2 → Kept n N A → KeptE m1 D1 → Calls Tryz.prog 8 #[.agg #[.slice (some ⟨b, 0, none⟩) n n], .slice (some ⟨b1, 0, none⟩) m1 m1, .slice (some ⟨b2, 0, none⟩) m2 m2, .int .i64 ia] w fun e w' => NfAns w ⟨C, st, K, U⟩ e w' ∧ Below w.heap.size w w'))
    (IM : Hid (∀ b b1 b2 w, Syms w b 0 n N A → Eqs w b1 0 m1 D1 → Ints w b2 0 m2 L2 → Kept n N A → KeptE m1 D1 → Calls Tryz.prog 12 #[.agg #[.slice (some ⟨b, 0, none⟩) n n], .slice (some ⟨b1, 0, none⟩) m1 m1, .slice (some ⟨b2, 0, none⟩) m2 m2, .int .i64 ia] w fun e w' => NfAns w ⟨C, st, K, U⟩ e w' ∧ Below w.heap.size w w')) :
    Calls Tryz.prog 3 #[.agg #[.slice p n c], .slice p1 m1 c1, .slice p2 m2 c2, .int .i64 ia] w fun e w' => e = .returned (.bool true) ∧ Below w.heap.size w w' := by
  have Z := hidden h
  have Z1 := hidden h1
  have Z2 := hidden h2
  have HM2 := hidden hm2
  subst hc
  have HKK := hidden hK
  clear hK
  have D0 := hidden (One.new w (.slice p n c) 24)
  have B := hidden (alloc_below w (.cells #[.slice p n c] 24))
  have H := hidden (Z.out.keep B.out)
  have H1 := hidden (Z1.out.keep B.out)
  have H2 := hidden (Z2.out.keep B.out)
  clear h h1 h2
  go_enter Tryz.func3, Tryz.ntmps3
  go_wp2_with fail
  with_reducible refine (szSignature_src p n c N A 1048576 _ H.out (by omega) (by omega)).mono ?_
  rintro e w1 ⟨⟨r1, rfl, hr⟩, hb⟩
  replace D0 := hidden (D0.out.keep hb)
  replace B := hidden (keepB B.out hb)
  replace H := hidden (H.out.keep hb)
  replace H1 := hidden (H1.out.keep hb)
  replace H2 := hidden (H2.out.keep hb)
  clear hb
  rcases hr with rfl | ⟨q0, q1, q2, q3⟩
  · go_wp2_with fail
    go_ret
    exact ⟨rfl, B.out⟩
  have HK := hidden (Kept.mk q2 q3 H.out.fits)
  clear q2 q3
  go_wp2_with fail
  with_reducible refine (szSumE_src p1 m1 c1 D1 _ _ H1.out q0 q1).mono ?_
  rintro e w2 ⟨⟨r2, rfl, hr⟩, hb⟩
  replace D0 := hidden (D0.out.keep hb)
  replace B := hidden (keepB B.out hb)
  replace H := hidden (H.out.keep hb)
  replace H1 := hidden (H1.out.keep hb)
  replace H2 := hidden (H2.out.keep hb)
  clear hb
  rcases hr with rfl | ⟨q2, q3, q4⟩
  · go_wp2_with fail
    go_ret
    exact ⟨rfl, B.out⟩
  have HSUM := hidden (show (sumM (fl2 D1) (m1 * 2) : Int) ≤ 1048576 by omega)
  have M1 := hidden q4
  clear q0 q1 q3 q4
  have d0 := D0.out.c0
  go_wp2_with fail
  with_reducible refine (toSig_new p n c N A _ H.out HK.out).mono ?_
  rintro e w3 ⟨g3, rfl, hg, hl, hs, hb⟩
  replace D0 := hidden (D0.out.keep hb)
  replace B := hidden (keepB B.out hb)
  replace H := hidden (H.out.keep hb)
  replace H1 := hidden (H1.out.keep hb)
  replace H2 := hidden (H2.out.keep hb)
  clear d0 hb hg hl
  have P := hidden (hs)
  clear hs
  go_wp2_with fail
  with_reducible refine (toEqs_own p1 m1 c1 D1 _ H1.out M1.out).mono ?_
  rintro e w4 ⟨g4, rfl, hs, hb⟩
  replace D0 := hidden (D0.out.keep hb)
  replace B := hidden (keepB B.out hb)
  replace H := hidden (H.out.keep hb)
  replace H1 := hidden (H1.out.keep hb)
  replace H2 := hidden (H2.out.keep hb)
  replace P := hidden (P.out.keep hb)
  clear hb
  have P1 := hidden (hs.eqs)
  clear hs
  go_wp2_with fail
  with_reducible refine (toInts_new p2 m2 c2 L2 _ H2.out HM2.out).mono ?_
  rintro e w5 ⟨g5, rfl, hs, hb⟩
  replace D0 := hidden (D0.out.keep hb)
  replace B := hidden (keepB B.out hb)
  replace H := hidden (H.out.keep hb)
  replace H1 := hidden (H1.out.keep hb)
  replace H2 := hidden (H2.out.keep hb)
  replace P := hidden (P.out.keep hb)
  replace P1 := hidden (P1.out.keep hb)
  clear hb
  have P2 := hidden (hs)
  clear hs
  go_wp2_with fail
  with_reducible refine (SP.out _ _ _ _ P.out P1.out P2.out HK.out M1.out).mono ?_
  rintro e w6 ⟨ha, hb⟩
  rcases ha with ⟨ha, -⟩ | ⟨-, ga, da, rfl, hg, ho, -⟩
  · exact absurd rfl ha
  simp only at ho ⊢
  replace D0 := hidden (D0.out.keep hb)
  replace B := hidden (keepB B.out hb)
  replace H := hidden (H.out.keep hb)
  replace H1 := hidden (H1.out.keep hb)
  replace H2 := hidden (H2.out.keep hb)
  replace P := hidden (P.out.keep hb)
  replace P1 := hidden (P1.out.keep hb)
  replace P2 := hidden (P2.out.keep hb)
  have LW := hidden (ho)
  clear hb ho hg
  have hb := alloc_below w6 (.cells #[.int .i64 0, .slice (some ⟨ga, 0, none⟩) K da, .int .i64 (st : Nat)] 30)
  replace D0 := hidden (D0.out.keep hb)
  replace B := hidden (keepB B.out hb)
  replace H := hidden (H.out.keep hb)
  replace H1 := hidden (H1.out.keep hb)
  replace H2 := hidden (H2.out.keep hb)
  replace P := hidden (P.out.keep hb)
  replace P1 := hidden (P1.out.keep hb)
  replace P2 := hidden (P2.out.keep hb)
  replace LW := hidden (LW.out.keep hb)
  clear hb
  have R0 := hidden (Tri.new w6 (.int .i64 0) (.slice (some ⟨ga, 0, none⟩) K da) (.int .i64 (st : Nat)) 30)
  clear P P1 P2
  have d0 := D0.out.c0
  go_wp2_with fail
  have BSx := hidden B.out.size
  with_reducible refine (toSignature_src p n c N A _ H.out HK.out).mono ?_
  rintro e w7 ⟨gx, rfl, hgx, hs, hb⟩
  have L_D0_Q := hidden (Nat.lt_of_lt_of_le D0.out.blk hgx)
  have L_LW_Q := hidden (Nat.lt_of_lt_of_le LW.out.lt hgx)
  have L_R0_Q := hidden (Nat.lt_of_lt_of_le R0.out.blk hgx)
  replace D0 := hidden (D0.out.keep hb)
  replace B := hidden (keepB B.out hb)
  replace H := hidden (H.out.keep hb)
  replace H1 := hidden (H1.out.keep hb)
  replace H2 := hidden (H2.out.keep hb)
  replace LW := hidden (LW.out.keep hb)
  replace R0 := hidden (R0.out.keep hb)
  have Q := hidden (hs)
  clear d0 hb
  have GX := hidden (Nat.le_trans BSx.out hgx)
  clear hs hgx BSx
  have L_Q_X := hidden (Nat.lt_of_lt_of_le Q.out.lt (Nat.le_refl _))
  have hb := alloc_below w7 (.cells #[.slice (some ⟨gx, 0, none⟩) n n] 34)
  replace D0 := hidden (D0.out.keep hb)
  replace B := hidden (keepB B.out hb)
  replace H := hidden (H.out.keep hb)
  replace H1 := hidden (H1.out.keep hb)
  replace H2 := hidden (H2.out.keep hb)
  replace LW := hidden (LW.out.keep hb)
  replace R0 := hidden (R0.out.keep hb)
  replace Q := hidden (Q.out.keep hb)
  clear hb
  have X := hidden (One.new w7 (.slice (some ⟨gx, 0, none⟩) n n) 34)
  have GBB := hidden B.out.size
  go_wp2_with fail
  with_reducible refine (toEqs_own p1 m1 c1 D1 _ H1.out M1.out).mono ?_
  rintro e w8 ⟨gy, rfl, hs, hb⟩
  have L_D0_BB := hidden (Nat.lt_of_lt_of_le D0.out.blk (Nat.le_refl _))
  have L_LW_BB := hidden (Nat.lt_of_lt_of_le LW.out.lt (Nat.le_refl _))
  have L_R0_BB := hidden (Nat.lt_of_lt_of_le R0.out.blk (Nat.le_refl _))
  have L_Q_BB := hidden (Nat.lt_of_lt_of_le Q.out.lt (Nat.le_refl _))
  have L_X_BB := hidden (Nat.lt_of_lt_of_le X.out.blk (Nat.le_refl _))
  replace D0 := hidden (D0.out.keep hb)
  replace B := hidden (keepB B.out hb)
  replace H := hidden (H.out.keep hb)
  replace H1 := hidden (H1.out.keep hb)
  replace H2 := hidden (H2.out.keep hb)
  replace LW := hidden (LW.out.keep hb)
  replace R0 := hidden (R0.out.keep hb)
  replace Q := hidden (Q.out.keep hb)
  replace X := hidden (X.out.keep hb)
  have BB := hidden (hs)
  clear hb
  clear hs
  have BSx := hidden B.out.size
  go_wp2_with fail
  with_reducible refine (toInts_src p2 m2 c2 L2 _ H2.out HM2.out).mono ?_
  rintro e w9 ⟨gy2, rfl, hgy, hs, hb⟩
  have L_D0_Q2 := hidden (Nat.lt_of_lt_of_le D0.out.blk hgy)
  have L_LW_Q2 := hidden (Nat.lt_of_lt_of_le LW.out.lt hgy)
  have L_R0_Q2 := hidden (Nat.lt_of_lt_of_le R0.out.blk hgy)
  have L_Q_Q2 := hidden (Nat.lt_of_lt_of_le Q.out.lt hgy)
  have L_X_Q2 := hidden (Nat.lt_of_lt_of_le X.out.blk hgy)
  have L_BB_Q2 := hidden (Nat.le_trans BB.out.top hgy)
  replace D0 := hidden (D0.out.keep hb)
  replace B := hidden (keepB B.out hb)
  replace H := hidden (H.out.keep hb)
  replace H1 := hidden (H1.out.keep hb)
  replace H2 := hidden (H2.out.keep hb)
  replace LW := hidden (LW.out.keep hb)
  replace R0 := hidden (R0.out.keep hb)
  replace Q := hidden (Q.out.keep hb)
  replace X := hidden (X.out.keep hb)
  replace BB := hidden (BB.out.keep hb)
  have Q2 := hidden (hs)
  clear hb
  have GY2 := hidden (Nat.le_trans BSx.out hgy)
  clear hs hgy BSx
  have x0 := X.out.c0
  go_wp2_with fail
  have BSx := hidden B.out.size
  with_reducible refine (IM.out _ _ _ _ (Q.out.syms HK.out.big HK.out.fits) BB.out.eqs Q2.out.ints HK.out M1.out).mono ?_
  rintro e w10 ⟨ha, hb⟩
  rcases ha with ⟨ha, -⟩ | ⟨-, gb, db, rfl, hg, ho, -⟩
  · exact absurd rfl ha
  simp only at ho ⊢
  have L_D0_LG := hidden (Nat.lt_of_lt_of_le D0.out.blk hg)
  have L_LW_LG := hidden (Nat.lt_of_lt_of_le LW.out.lt hg)
  have L_R0_LG := hidden (Nat.lt_of_lt_of_le R0.out.blk hg)
  have L_Q_LG := hidden (Nat.lt_of_lt_of_le Q.out.lt hg)
  have L_X_LG := hidden (Nat.lt_of_lt_of_le X.out.blk hg)
  have L_BB_LG := hidden (Nat.le_trans BB.out.top hg)
  have L_Q2_LG := hidden (Nat.lt_of_lt_of_le Q2.out.lt hg)
  have GBx := hidden hg
  replace D0 := hidden (D0.out.keep hb)
  replace B := hidden (keepB B.out hb)
  replace H := hidden (H.out.keep hb)
  replace H1 := hidden (H1.out.keep hb)
  replace H2 := hidden (H2.out.keep hb)
  replace LW := hidden (LW.out.keep hb)
  replace R0 := hidden (R0.out.keep hb)
  replace Q := hidden (Q.out.keep hb)
  replace X := hidden (X.out.keep hb)
  replace BB := hidden (BB.out.keep hb)
  replace Q2 := hidden (Q2.out.keep hb)
  have LG := hidden (ho)
  clear x0 hb ho hg
  have L_Q_R1 := hidden (Nat.lt_of_lt_of_le Q.out.lt (Nat.le_refl _))
  have L_BB_R1 := hidden (Nat.le_trans BB.out.top (Nat.le_refl _))
  have L_Q2_R1 := hidden (Nat.lt_of_lt_of_le Q2.out.lt (Nat.le_refl _))
  have L_LG_R1 := hidden (Nat.lt_of_lt_of_le LG.out.lt (Nat.le_refl _))
  have hb := alloc_below w10 (.cells #[.int .i64 0, .slice (some ⟨gb, 0, none⟩) K db, .int .i64 (st : Nat)] 30)
  replace D0 := hidden (D0.out.keep hb)
  replace B := hidden (keepB B.out hb)
  replace H := hidden (H.out.keep hb)
  replace H1 := hidden (H1.out.keep hb)
  replace H2 := hidden (H2.out.keep hb)
  replace LW := hidden (LW.out.keep hb)
  replace R0 := hidden (R0.out.keep hb)
  replace Q := hidden (Q.out.keep hb)
  replace X := hidden (X.out.keep hb)
  replace BB := hidden (BB.out.keep hb)
  replace Q2 := hidden (Q2.out.keep hb)
  replace LG := hidden (LG.out.keep hb)
  clear hb
  have R1 := hidden (Tri.new w10 (.int .i64 0) (.slice (some ⟨gb, 0, none⟩) K db) (.int .i64 (st : Nat)) 30)
  have r00 := R0.out.c0
  have r01 := R0.out.c1
  have r02 := R0.out.c2
  have r10 := R1.out.c0
  have r11 := R1.out.c1
  have r12 := R1.out.c2
  go_wp2_with fail
  with_reducible refine (eqNf_eq _ _ _ _ _ _ _ U _ LG.out.ints LW.out.ints HKK.out).mono ?_
  rintro e w11 ⟨rfl, hb⟩
  replace D0 := hidden (D0.out.keep hb)
  replace B := hidden (keepB B.out hb)
  replace H := hidden (H.out.keep hb)
  replace H1 := hidden (H1.out.keep hb)
  replace H2 := hidden (H2.out.keep hb)
  replace LW := hidden (LW.out.keep hb)
  replace R0 := hidden (R0.out.keep hb)
  replace Q := hidden (Q.out.keep hb)
  replace X := hidden (X.out.keep hb)
  replace BB := hidden (BB.out.keep hb)
  replace Q2 := hidden (Q2.out.keep hb)
  replace LG := hidden (LG.out.keep hb)
  replace R1 := hidden (R1.out.keep hb)
  clear r00 r01 r02 r10 r11 r12 hb
  have QS := hidden (Q.out.syms HK.out.big HK.out.fits)
  have S1 := hidden (show ∀ wc, Below w11.heap.size w11 wc → Calls Tryz.prog 9 #[.agg #[.slice p n c]] wc fun e w' => ∃ g, e = .returned (.agg #[.slice (some ⟨g, 0, none⟩) n n]) ∧ Below w11.heap.size w11 w' ∧ Syms w' g 0 n N A ∧ w'.cell? ⟨w7.heap.size, 0, none⟩ = some (.slice (some ⟨gx, 0, none⟩) n n) from fun wc hc => by
    refine (toSig_new p n c N A wc (H.out.keep hc) HK.out).mono ?_
    rintro e w' ⟨g, rfl, hg, hl, hs, hb⟩
    exact ⟨g, rfl, keepB hc hb, hs, (X.out.keep (keepB hc hb)).c0⟩)
  have S2 := hidden (show ∀ wc g, Below w11.heap.size w11 wc → Syms wc g 0 n N A → Calls Tryz.prog 14 #[.agg #[.slice (some ⟨gx, 0, none⟩) n n], .agg #[.slice (some ⟨g, 0, none⟩) n n]] wc fun e w' => e = .returned (.bool true) ∧ Below w11.heap.size w11 w' from fun wc g hc hm => by
    refine (eqSignature_eq gx 0 g 0 n n n N A wc (QS.out.keep hc) hm HK.out.most).mono ?_
    rintro e w' ⟨rfl, hb⟩
    exact ⟨rfl, keepB hc hb⟩)
  have x0 := X.out.c0
  have d0 := D0.out.c0
  go_wp2_with fail
  go_cut [59] (fun t wc => t = .bool false ∧ Below w11.heap.size w11 wc)
  case first =>
    go_region_with (first
      | (go_at_call 9; with_reducible refine (S1.out _ ?_).mono ?_; exact (Below.refl _ _).drew; rintro e v5 ⟨g5', rfl, b5', m5', d5'⟩)
      | (go_at_call 14; with_reducible refine (S2.out _ _ b5' m5').mono ?_; rintro e v6 ⟨rfl, b6'⟩))
    all_goals (go_wp2_with fail; go_meet)
    all_goals exact ⟨rfl, b6'⟩
  case rest =>
    rename World => w12
    obtain ⟨rfl, hb⟩ := hcut
    replace D0 := hidden (D0.out.keep hb)
    replace B := hidden (keepB B.out hb)
    replace H := hidden (H.out.keep hb)
    replace H1 := hidden (H1.out.keep hb)
    replace H2 := hidden (H2.out.keep hb)
    replace LW := hidden (LW.out.keep hb)
    replace R0 := hidden (R0.out.keep hb)
    replace Q := hidden (Q.out.keep hb)
    replace X := hidden (X.out.keep hb)
    replace BB := hidden (BB.out.keep hb)
    replace Q2 := hidden (Q2.out.keep hb)
    replace LG := hidden (LG.out.keep hb)
    replace R1 := hidden (R1.out.keep hb)
    replace QS := hidden (QS.out.keep hb)
    clear x0 d0 hb S1 S2
    clear QS
    go_wp2_with fail
    with_reducible refine (toEqs_own p1 m1 c1 D1 _ H1.out M1.out).mono ?_
    rintro e w13 ⟨g13, rfl, hs, hb⟩
    replace D0 := hidden (D0.out.keep hb)
    replace B := hidden (keepB B.out hb)
    replace H := hidden (H.out.keep hb)
    replace H1 := hidden (H1.out.keep hb)
    replace H2 := hidden (H2.out.keep hb)
    replace LW := hidden (LW.out.keep hb)
    replace R0 := hidden (R0.out.keep hb)
    replace Q := hidden (Q.out.keep hb)
    replace X := hidden (X.out.keep hb)
    replace BB := hidden (BB.out.keep hb)
    replace Q2 := hidden (Q2.out.keep hb)
    replace LG := hidden (LG.out.keep hb)
    replace R1 := hidden (R1.out.keep hb)
    clear hb
    have Q9 := hidden (hs.eqs)
    clear hs
    go_wp2_with fail
    with_reducible refine (eqEquationS_eq _ _ _ _ _ _ _ D1 _ BB.out.eqs Q9.out M1.out).mono ?_
    rintro e w14 ⟨rfl, hb⟩
    replace D0 := hidden (D0.out.keep hb)
    replace B := hidden (keepB B.out hb)
    replace H := hidden (H.out.keep hb)
    replace H1 := hidden (H1.out.keep hb)
    replace H2 := hidden (H2.out.keep hb)
    replace LW := hidden (LW.out.keep hb)
    replace R0 := hidden (R0.out.keep hb)
    replace Q := hidden (Q.out.keep hb)
    replace X := hidden (X.out.keep hb)
    replace BB := hidden (BB.out.keep hb)
    replace Q2 := hidden (Q2.out.keep hb)
    replace LG := hidden (LG.out.keep hb)
    replace R1 := hidden (R1.out.keep hb)
    replace Q9 := hidden (Q9.out.keep hb)
    clear hb
    clear Q9
    go_wp2_with fail
    with_reducible refine (toInts_new p2 m2 c2 L2 _ H2.out HM2.out).mono ?_
    rintro e w15 ⟨g15, rfl, hs, hb⟩
    replace D0 := hidden (D0.out.keep hb)
    replace B := hidden (keepB B.out hb)
    replace H := hidden (H.out.keep hb)
    replace H1 := hidden (H1.out.keep hb)
    replace H2 := hidden (H2.out.keep hb)
    replace LW := hidden (LW.out.keep hb)
    replace R0 := hidden (R0.out.keep hb)
    replace Q := hidden (Q.out.keep hb)
    replace X := hidden (X.out.keep hb)
    replace BB := hidden (BB.out.keep hb)
    replace Q2 := hidden (Q2.out.keep hb)
    replace LG := hidden (LG.out.keep hb)
    replace R1 := hidden (R1.out.keep hb)
    clear hb
    have Q9 := hidden (hs)
    clear hs
    go_wp2_with fail
    with_reducible refine (eqInt64S_eq _ _ _ _ _ _ _ L2 _ Q2.out.ints Q9.out HM2.out).mono ?_
    rintro e w16 ⟨rfl, hb⟩
    replace D0 := hidden (D0.out.keep hb)
    replace B := hidden (keepB B.out hb)
    replace H := hidden (H.out.keep hb)
    replace H1 := hidden (H1.out.keep hb)
    replace H2 := hidden (H2.out.keep hb)
    replace LW := hidden (LW.out.keep hb)
    replace R0 := hidden (R0.out.keep hb)
    replace Q := hidden (Q.out.keep hb)
    replace X := hidden (X.out.keep hb)
    replace BB := hidden (BB.out.keep hb)
    replace Q2 := hidden (Q2.out.keep hb)
    replace LG := hidden (LG.out.keep hb)
    replace R1 := hidden (R1.out.keep hb)
    replace Q9 := hidden (Q9.out.keep hb)
    clear hb
    clear Q9
    have x0 := X.out.c0
    go_wp2_with fail
    with_reducible refine (markSignature_z _ gx n n 1 N A _ Q.out HK.out.most (by omega) (by omega)).mono ?_
    rintro e w17 ⟨rfl, -, hg⟩
    replace B := hidden (grownB B.out hg GX.out)
    replace D0 := hidden (D0.out.grown hg (Nat.ne_of_lt L_D0_Q.out))
    replace H := hidden (Z.out.keep B.out)
    replace H1 := hidden (Z1.out.keep B.out)
    replace H2 := hidden (Z2.out.keep B.out)
    replace LW := hidden (LW.out.grown hg (Nat.ne_of_lt L_LW_Q.out))
    replace R0 := hidden (R0.out.grown hg (Nat.ne_of_lt L_R0_Q.out))
    replace X := hidden (X.out.grown hg (Nat.ne_of_gt L_Q_X.out))
    replace BB := hidden (BB.out.grown hg (Or.inl L_Q_BB.out))
    replace Q2 := hidden (Q2.out.grown hg (Nat.ne_of_gt L_Q_Q2.out))
    replace LG := hidden (LG.out.grown hg (Nat.ne_of_gt L_Q_LG.out))
    replace R1 := hidden (R1.out.grown hg (Nat.ne_of_gt L_Q_R1.out))
    clear Q
    clear x0 hg
    have HN1 := HK.out.most
    have HS1 := HSUM.out
    go_wp2_with fail
    with_reducible refine (markEquationS_any _ _ gy m1 (1 + 2 * n) D1 _ BB.out M1.out (by omega) (by omega)).mono ?_
    rintro e w18 ⟨rfl, -, hr⟩
    replace B := hidden (Rng.below B.out hr GBB.out)
    replace D0 := hidden (D0.out.rng hr (Or.inl L_D0_BB.out))
    replace H := hidden (Z.out.keep B.out)
    replace H1 := hidden (Z1.out.keep B.out)
    replace H2 := hidden (Z2.out.keep B.out)
    replace LW := hidden (LW.out.rng hr (Or.inl L_LW_BB.out))
    replace R0 := hidden (R0.out.rng hr (Or.inl L_R0_BB.out))
    replace X := hidden (X.out.rng hr (Or.inl L_X_BB.out))
    replace Q2 := hidden (Q2.out.rng hr (Or.inr L_BB_Q2.out))
    replace LG := hidden (LG.out.rng hr (Or.inr L_BB_LG.out))
    replace R1 := hidden (R1.out.rng hr (Or.inr L_BB_R1.out))
    clear BB
    clear hr
    go_wp2_with fail
    have HMx2 := HM2.out
    with_reducible refine (markInt64S_z _ gy2 m2 m2 (1 + 2 * n + sumM (fl2 D1) (m1 * 2)) L2 _ Q2.out HM2.out (by omega) (by omega)).mono ?_
    rintro e w19 ⟨rfl, -, hg⟩
    replace B := hidden (grownB B.out hg GY2.out)
    replace D0 := hidden (D0.out.grown hg (Nat.ne_of_lt L_D0_Q2.out))
    replace H := hidden (Z.out.keep B.out)
    replace H1 := hidden (Z1.out.keep B.out)
    replace H2 := hidden (Z2.out.keep B.out)
    replace LW := hidden (LW.out.grown hg (Nat.ne_of_lt L_LW_Q2.out))
    replace R0 := hidden (R0.out.grown hg (Nat.ne_of_lt L_R0_Q2.out))
    replace X := hidden (X.out.grown hg (Nat.ne_of_lt L_X_Q2.out))
    replace LG := hidden (LG.out.grown hg (Nat.ne_of_gt L_Q2_LG.out))
    replace R1 := hidden (R1.out.grown hg (Nat.ne_of_gt L_Q2_R1.out))
    clear Q2
    clear hg
    have r00 := R0.out.c0
    have r01 := R0.out.c1
    have r02 := R0.out.c2
    have r10 := R1.out.c0
    have r11 := R1.out.c1
    have r12 := R1.out.c2
    have hkk : decide ((1 : Int) + 2 * n + sumM (fl2 D1) (m1 * 2) + m2 < 0) = false := by simp; omega
    go_wp2_with fail
    with_reducible refine (eqNf_eq _ _ _ _ _ _ _ U _ LG.out.ints LW.out.ints HKK.out).mono ?_
    rintro e w20 ⟨rfl, hb⟩
    replace D0 := hidden (D0.out.keep hb)
    replace B := hidden (keepB B.out hb)
    replace H := hidden (H.out.keep hb)
    replace H1 := hidden (H1.out.keep hb)
    replace H2 := hidden (H2.out.keep hb)
    replace LW := hidden (LW.out.keep hb)
    replace R0 := hidden (R0.out.keep hb)
    replace X := hidden (X.out.keep hb)
    replace LG := hidden (LG.out.keep hb)
    replace R1 := hidden (R1.out.keep hb)
    clear r00 r01 r02 r10 r11 r12 hb
    have r00 := R1.out.c0
    have r01 := R1.out.c1
    have r02 := R1.out.c2
    go_wp2_with fail
    have GB := hidden (show w.heap.size ≤ gb from Nat.le_trans BSx.out GBx.out)
    with_reducible refine (markNf_z _ _ _ gb K db U _ LG.out HKK.out).mono ?_
    rintro e w21 ⟨rfl, ho, hg⟩
    replace B := hidden (grownB B.out hg GB.out)
    replace D0 := hidden (D0.out.grown hg (Nat.ne_of_lt L_D0_LG.out))
    replace H := hidden (Z.out.keep B.out)
    replace H1 := hidden (Z1.out.keep B.out)
    replace H2 := hidden (Z2.out.keep B.out)
    replace LW := hidden (LW.out.grown hg (Nat.ne_of_lt L_LW_LG.out))
    replace R0 := hidden (R0.out.grown hg (Nat.ne_of_lt L_R0_LG.out))
    replace X := hidden (X.out.grown hg (Nat.ne_of_lt L_X_LG.out))
    replace R1 := hidden (R1.out.grown hg (Nat.ne_of_gt L_LG_R1.out))
    replace LG := hidden (ho)
    clear r00 r01 r02 hg ho
    have hq : ¬ (1 : Int) + K < 0 := by omega
    have r00 := R1.out.c0
    have r01 := R1.out.c1
    have r02 := R1.out.c2
    go_wp2_with fail
    with_reducible refine (heldNf_z _ _ gb K db _ LG.out.ints HKK.out).mono ?_
    rintro e w22 ⟨rfl, hb⟩
    replace D0 := hidden (D0.out.keep hb)
    replace B := hidden (keepB B.out hb)
    replace H := hidden (H.out.keep hb)
    replace H1 := hidden (H1.out.keep hb)
    replace H2 := hidden (H2.out.keep hb)
    replace LW := hidden (LW.out.keep hb)
    replace R0 := hidden (R0.out.keep hb)
    replace X := hidden (X.out.keep hb)
    replace LG := hidden (LG.out.keep hb)
    replace R1 := hidden (R1.out.keep hb)
    clear r00 r01 r02 hb
    have d0 := D0.out.c0
    go_wp2_with fail
    with_reducible refine (toSig_new p n c N A _ H.out HK.out).mono ?_
    rintro e w23 ⟨g23, rfl, hg, hl, hs, hb⟩
    replace D0 := hidden (D0.out.keep hb)
    replace B := hidden (keepB B.out hb)
    replace H := hidden (H.out.keep hb)
    replace H1 := hidden (H1.out.keep hb)
    replace H2 := hidden (H2.out.keep hb)
    replace LW := hidden (LW.out.keep hb)
    replace R0 := hidden (R0.out.keep hb)
    replace X := hidden (X.out.keep hb)
    replace LG := hidden (LG.out.keep hb)
    replace R1 := hidden (R1.out.keep hb)
    clear d0 hb hg hl
    have P := hidden (hs)
    clear hs
    go_wp2_with fail
    with_reducible refine (toEqs_own p1 m1 c1 D1 _ H1.out M1.out).mono ?_
    rintro e w24 ⟨g24, rfl, hs, hb⟩
    replace D0 := hidden (D0.out.keep hb)
    replace B := hidden (keepB B.out hb)
    replace H := hidden (H.out.keep hb)
    replace H1 := hidden (H1.out.keep hb)
    replace H2 := hidden (H2.out.keep hb)
    replace LW := hidden (LW.out.keep hb)
    replace R0 := hidden (R0.out.keep hb)
    replace X := hidden (X.out.keep hb)
    replace LG := hidden (LG.out.keep hb)
    replace R1 := hidden (R1.out.keep hb)
    replace P := hidden (P.out.keep hb)
    clear hb
    have P1 := hidden (hs.eqs)
    clear hs
    go_wp2_with fail
    with_reducible refine (toInts_new p2 m2 c2 L2 _ H2.out HM2.out).mono ?_
    rintro e w25 ⟨g25, rfl, hs, hb⟩
    replace D0 := hidden (D0.out.keep hb)
    replace B := hidden (keepB B.out hb)
    replace H := hidden (H.out.keep hb)
    replace H1 := hidden (H1.out.keep hb)
    replace H2 := hidden (H2.out.keep hb)
    replace LW := hidden (LW.out.keep hb)
    replace R0 := hidden (R0.out.keep hb)
    replace X := hidden (X.out.keep hb)
    replace LG := hidden (LG.out.keep hb)
    replace R1 := hidden (R1.out.keep hb)
    replace P := hidden (P.out.keep hb)
    replace P1 := hidden (P1.out.keep hb)
    clear hb
    have P2 := hidden (hs)
    clear hs
    go_wp2_with fail
    with_reducible refine (IM.out _ _ _ _ P.out P1.out P2.out HK.out M1.out).mono ?_
    rintro e w26 ⟨ha, hb⟩
    rcases ha with ⟨ha, -⟩ | ⟨-, gc, dc, rfl, hg, ho, -⟩
    · exact absurd rfl ha
    simp only at ho ⊢
    have L_LG_LH := hidden (Nat.lt_of_lt_of_le LG.out.lt hg)
    replace D0 := hidden (D0.out.keep hb)
    replace B := hidden (keepB B.out hb)
    replace H := hidden (H.out.keep hb)
    replace H1 := hidden (H1.out.keep hb)
    replace H2 := hidden (H2.out.keep hb)
    replace LW := hidden (LW.out.keep hb)
    replace R0 := hidden (R0.out.keep hb)
    replace X := hidden (X.out.keep hb)
    replace LG := hidden (LG.out.keep hb)
    replace R1 := hidden (R1.out.keep hb)
    replace P := hidden (P.out.keep hb)
    replace P1 := hidden (P1.out.keep hb)
    replace P2 := hidden (P2.out.keep hb)
    have LH := hidden (ho)
    clear hb ho hg
    have L_LG_R2 := hidden (Nat.lt_of_lt_of_le LG.out.lt (Nat.le_refl _))
    have hb := alloc_below w26 (.cells #[.int .i64 0, .slice (some ⟨gc, 0, none⟩) K dc, .int .i64 (st : Nat)] 30)
    replace D0 := hidden (D0.out.keep hb)
    replace B := hidden (keepB B.out hb)
    replace H := hidden (H.out.keep hb)
    replace H1 := hidden (H1.out.keep hb)
    replace H2 := hidden (H2.out.keep hb)
    replace LW := hidden (LW.out.keep hb)
    replace R0 := hidden (R0.out.keep hb)
    replace X := hidden (X.out.keep hb)
    replace LG := hidden (LG.out.keep hb)
    replace R1 := hidden (R1.out.keep hb)
    replace P := hidden (P.out.keep hb)
    replace P1 := hidden (P1.out.keep hb)
    replace P2 := hidden (P2.out.keep hb)
    replace LH := hidden (LH.out.keep hb)
    clear hb
    have R2 := hidden (Tri.new w26 (.int .i64 0) (.slice (some ⟨gc, 0, none⟩) K dc) (.int .i64 (st : Nat)) 30)
    clear P P1 P2
    have r00 := R0.out.c0
    have r01 := R0.out.c1
    have r02 := R0.out.c2
    have r10 := R2.out.c0
    have r11 := R2.out.c1
    have r12 := R2.out.c2
    go_wp2_with fail
    with_reducible refine (eqNf_eq _ _ _ _ _ _ _ U _ LH.out.ints LW.out.ints HKK.out).mono ?_
    rintro e w27 ⟨rfl, hb⟩
    replace D0 := hidden (D0.out.keep hb)
    replace B := hidden (keepB B.out hb)
    replace H := hidden (H.out.keep hb)
    replace H1 := hidden (H1.out.keep hb)
    replace H2 := hidden (H2.out.keep hb)
    replace LW := hidden (LW.out.keep hb)
    replace R0 := hidden (R0.out.keep hb)
    replace X := hidden (X.out.keep hb)
    replace LG := hidden (LG.out.keep hb)
    replace R1 := hidden (R1.out.keep hb)
    replace LH := hidden (LH.out.keep hb)
    replace R2 := hidden (R2.out.keep hb)
    clear r00 r01 r02 r10 r11 r12 hb
    have r00 := R1.out.c0
    have r01 := R1.out.c1
    have r02 := R1.out.c2
    go_wp2_with fail
    with_reducible refine (heldNf_z _ _ gb K db _ LG.out.ints HKK.out).mono ?_
    rintro e w28 ⟨rfl, hb⟩
    replace D0 := hidden (D0.out.keep hb)
    replace B := hidden (keepB B.out hb)
    replace H := hidden (H.out.keep hb)
    replace H1 := hidden (H1.out.keep hb)
    replace H2 := hidden (H2.out.keep hb)
    replace LW := hidden (LW.out.keep hb)
    replace R0 := hidden (R0.out.keep hb)
    replace X := hidden (X.out.keep hb)
    replace LG := hidden (LG.out.keep hb)
    replace R1 := hidden (R1.out.keep hb)
    replace LH := hidden (LH.out.keep hb)
    replace R2 := hidden (R2.out.keep hb)
    clear r00 r01 r02 hb
    go_wp2_with fail
    go_ret
    exact ⟨rfl, B.out⟩

set_option maxRecDepth 20000 in
set_option maxHeartbeats 12800000 in
theorem law_nf_bad (p : Option Addr) (n c : Nat) (N : Nat → ByteArray) (A : Nat → Int) (p1 : Option Addr) (m1 c1 : Nat) (D1 : EqL) (p2 : Option Addr) (m2 c2 : Nat) (L2 : Nat → Int) (ia : Int) (C : Int) (st K : Nat) (U : Nat → Int) (w : World) (h : SrcS w p n N A) (h1 : SrcE w p1 m1 D1) (h2 : SrcI w p2 m2 L2) (hm2 : m2 ≤ 1048576) (hc : C ≠ 0)
    (SP : Hid (∀ b b1 b2 w, Syms w b 0 n N A → Eqs w b1 0 m1 D1 → Ints w b2 0 m2 L2 → Kept n N A → KeptE m1 D1 → Calls Tryz.prog 8 #[.agg #[.slice (some ⟨b, 0, none⟩) n n], .slice (some ⟨b1, 0, none⟩) m1 m1, .slice (some ⟨b2, 0, none⟩) m2 m2, .int .i64 ia] w fun e w' => NfAns w ⟨C, st, K, U⟩ e w' ∧ Below w.heap.size w w'))
    (IM : Hid (∀ b b1 b2 w, Syms w b 0 n N A → Eqs w b1 0 m1 D1 → Ints w b2 0 m2 L2 → Kept n N A → KeptE m1 D1 → Calls Tryz.prog 12 #[.agg #[.slice (some ⟨b, 0, none⟩) n n], .slice (some ⟨b1, 0, none⟩) m1 m1, .slice (some ⟨b2, 0, none⟩) m2 m2, .int .i64 ia] w fun e w' => NfAns w ⟨C, st, K, U⟩ e w' ∧ Below w.heap.size w w')) :
    Calls Tryz.prog 3 #[.agg #[.slice p n c], .slice p1 m1 c1, .slice p2 m2 c2, .int .i64 ia] w fun e w' => e = .returned (.bool true) ∧ Below w.heap.size w w' := by
  have Z := hidden h
  have Z1 := hidden h1
  have Z2 := hidden h2
  have HM2 := hidden hm2
  have HC := hidden hc
  clear hc
  have D0 := hidden (One.new w (.slice p n c) 24)
  have B := hidden (alloc_below w (.cells #[.slice p n c] 24))
  have H := hidden (Z.out.keep B.out)
  have H1 := hidden (Z1.out.keep B.out)
  have H2 := hidden (Z2.out.keep B.out)
  clear h h1 h2
  go_enter Tryz.func3, Tryz.ntmps3
  go_wp2_with fail
  with_reducible refine (szSignature_src p n c N A 1048576 _ H.out (by omega) (by omega)).mono ?_
  rintro e w1 ⟨⟨r1, rfl, hr⟩, hb⟩
  replace D0 := hidden (D0.out.keep hb)
  replace B := hidden (keepB B.out hb)
  replace H := hidden (H.out.keep hb)
  replace H1 := hidden (H1.out.keep hb)
  replace H2 := hidden (H2.out.keep hb)
  clear hb
  rcases hr with rfl | ⟨q0, q1, q2, q3⟩
  · go_wp2_with fail
    go_ret
    exact ⟨rfl, B.out⟩
  have HK := hidden (Kept.mk q2 q3 H.out.fits)
  clear q2 q3
  go_wp2_with fail
  with_reducible refine (szSumE_src p1 m1 c1 D1 _ _ H1.out q0 q1).mono ?_
  rintro e w2 ⟨⟨r2, rfl, hr⟩, hb⟩
  replace D0 := hidden (D0.out.keep hb)
  replace B := hidden (keepB B.out hb)
  replace H := hidden (H.out.keep hb)
  replace H1 := hidden (H1.out.keep hb)
  replace H2 := hidden (H2.out.keep hb)
  clear hb
  rcases hr with rfl | ⟨q2, q3, q4⟩
  · go_wp2_with fail
    go_ret
    exact ⟨rfl, B.out⟩
  have HSUM := hidden (show (sumM (fl2 D1) (m1 * 2) : Int) ≤ 1048576 by omega)
  have M1 := hidden q4
  clear q0 q1 q3 q4
  have d0 := D0.out.c0
  go_wp2_with fail
  with_reducible refine (toSig_new p n c N A _ H.out HK.out).mono ?_
  rintro e w3 ⟨g3, rfl, hg, hl, hs, hb⟩
  replace D0 := hidden (D0.out.keep hb)
  replace B := hidden (keepB B.out hb)
  replace H := hidden (H.out.keep hb)
  replace H1 := hidden (H1.out.keep hb)
  replace H2 := hidden (H2.out.keep hb)
  clear d0 hb hg hl
  have P := hidden (hs)
  clear hs
  go_wp2_with fail
  with_reducible refine (toEqs_own p1 m1 c1 D1 _ H1.out M1.out).mono ?_
  rintro e w4 ⟨g4, rfl, hs, hb⟩
  replace D0 := hidden (D0.out.keep hb)
  replace B := hidden (keepB B.out hb)
  replace H := hidden (H.out.keep hb)
  replace H1 := hidden (H1.out.keep hb)
  replace H2 := hidden (H2.out.keep hb)
  replace P := hidden (P.out.keep hb)
  clear hb
  have P1 := hidden (hs.eqs)
  clear hs
  go_wp2_with fail
  with_reducible refine (toInts_new p2 m2 c2 L2 _ H2.out HM2.out).mono ?_
  rintro e w5 ⟨g5, rfl, hs, hb⟩
  replace D0 := hidden (D0.out.keep hb)
  replace B := hidden (keepB B.out hb)
  replace H := hidden (H.out.keep hb)
  replace H1 := hidden (H1.out.keep hb)
  replace H2 := hidden (H2.out.keep hb)
  replace P := hidden (P.out.keep hb)
  replace P1 := hidden (P1.out.keep hb)
  clear hb
  have P2 := hidden (hs)
  clear hs
  go_wp2_with fail
  with_reducible refine (SP.out _ _ _ _ P.out P1.out P2.out HK.out M1.out).mono ?_
  rintro e w6 ⟨ha, hb⟩
  replace D0 := hidden (D0.out.keep hb)
  replace B := hidden (keepB B.out hb)
  replace H := hidden (H.out.keep hb)
  replace H1 := hidden (H1.out.keep hb)
  replace H2 := hidden (H2.out.keep hb)
  replace P := hidden (P.out.keep hb)
  replace P1 := hidden (P1.out.keep hb)
  replace P2 := hidden (P2.out.keep hb)
  clear hb
  rcases ha with ⟨-, rfl⟩ | ⟨ha, -⟩
  rotate_left
  · exact absurd ha HC.out
  simp only
  have hb := alloc_below w6 (.cells #[.int .i64 C, .slice none 0 0, .int .i64 0] 30)
  replace D0 := hidden (D0.out.keep hb)
  replace B := hidden (keepB B.out hb)
  replace H := hidden (H.out.keep hb)
  replace H1 := hidden (H1.out.keep hb)
  replace H2 := hidden (H2.out.keep hb)
  replace P := hidden (P.out.keep hb)
  replace P1 := hidden (P1.out.keep hb)
  replace P2 := hidden (P2.out.keep hb)
  clear hb
  have R0 := hidden (Tri.new w6 (.int .i64 C) (.slice none 0 0) (.int .i64 0) 30)
  clear P P1 P2
  have d0 := D0.out.c0
  go_wp2_with fail
  have BSx := hidden B.out.size
  with_reducible refine (toSignature_src p n c N A _ H.out HK.out).mono ?_
  rintro e w7 ⟨gx, rfl, hgx, hs, hb⟩
  have L_D0_Q := hidden (Nat.lt_of_lt_of_le D0.out.blk hgx)
  have L_R0_Q := hidden (Nat.lt_of_lt_of_le R0.out.blk hgx)
  replace D0 := hidden (D0.out.keep hb)
  replace B := hidden (keepB B.out hb)
  replace H := hidden (H.out.keep hb)
  replace H1 := hidden (H1.out.keep hb)
  replace H2 := hidden (H2.out.keep hb)
  replace R0 := hidden (R0.out.keep hb)
  have Q := hidden (hs)
  clear d0 hb
  have GX := hidden (Nat.le_trans BSx.out hgx)
  clear hs hgx BSx
  have L_Q_X := hidden (Nat.lt_of_lt_of_le Q.out.lt (Nat.le_refl _))
  have hb := alloc_below w7 (.cells #[.slice (some ⟨gx, 0, none⟩) n n] 34)
  replace D0 := hidden (D0.out.keep hb)
  replace B := hidden (keepB B.out hb)
  replace H := hidden (H.out.keep hb)
  replace H1 := hidden (H1.out.keep hb)
  replace H2 := hidden (H2.out.keep hb)
  replace R0 := hidden (R0.out.keep hb)
  replace Q := hidden (Q.out.keep hb)
  clear hb
  have X := hidden (One.new w7 (.slice (some ⟨gx, 0, none⟩) n n) 34)
  have GBB := hidden B.out.size
  go_wp2_with fail
  with_reducible refine (toEqs_own p1 m1 c1 D1 _ H1.out M1.out).mono ?_
  rintro e w8 ⟨gy, rfl, hs, hb⟩
  have L_D0_BB := hidden (Nat.lt_of_lt_of_le D0.out.blk (Nat.le_refl _))
  have L_R0_BB := hidden (Nat.lt_of_lt_of_le R0.out.blk (Nat.le_refl _))
  have L_Q_BB := hidden (Nat.lt_of_lt_of_le Q.out.lt (Nat.le_refl _))
  have L_X_BB := hidden (Nat.lt_of_lt_of_le X.out.blk (Nat.le_refl _))
  replace D0 := hidden (D0.out.keep hb)
  replace B := hidden (keepB B.out hb)
  replace H := hidden (H.out.keep hb)
  replace H1 := hidden (H1.out.keep hb)
  replace H2 := hidden (H2.out.keep hb)
  replace R0 := hidden (R0.out.keep hb)
  replace Q := hidden (Q.out.keep hb)
  replace X := hidden (X.out.keep hb)
  have BB := hidden (hs)
  clear hb
  clear hs
  have BSx := hidden B.out.size
  go_wp2_with fail
  with_reducible refine (toInts_src p2 m2 c2 L2 _ H2.out HM2.out).mono ?_
  rintro e w9 ⟨gy2, rfl, hgy, hs, hb⟩
  have L_D0_Q2 := hidden (Nat.lt_of_lt_of_le D0.out.blk hgy)
  have L_R0_Q2 := hidden (Nat.lt_of_lt_of_le R0.out.blk hgy)
  have L_Q_Q2 := hidden (Nat.lt_of_lt_of_le Q.out.lt hgy)
  have L_X_Q2 := hidden (Nat.lt_of_lt_of_le X.out.blk hgy)
  have L_BB_Q2 := hidden (Nat.le_trans BB.out.top hgy)
  replace D0 := hidden (D0.out.keep hb)
  replace B := hidden (keepB B.out hb)
  replace H := hidden (H.out.keep hb)
  replace H1 := hidden (H1.out.keep hb)
  replace H2 := hidden (H2.out.keep hb)
  replace R0 := hidden (R0.out.keep hb)
  replace Q := hidden (Q.out.keep hb)
  replace X := hidden (X.out.keep hb)
  replace BB := hidden (BB.out.keep hb)
  have Q2 := hidden (hs)
  clear hb
  have GY2 := hidden (Nat.le_trans BSx.out hgy)
  clear hs hgy BSx
  have x0 := X.out.c0
  go_wp2_with fail
  have BSx := hidden B.out.size
  with_reducible refine (IM.out _ _ _ _ (Q.out.syms HK.out.big HK.out.fits) BB.out.eqs Q2.out.ints HK.out M1.out).mono ?_
  rintro e w10 ⟨ha, hb⟩
  replace D0 := hidden (D0.out.keep hb)
  replace B := hidden (keepB B.out hb)
  replace H := hidden (H.out.keep hb)
  replace H1 := hidden (H1.out.keep hb)
  replace H2 := hidden (H2.out.keep hb)
  replace R0 := hidden (R0.out.keep hb)
  replace Q := hidden (Q.out.keep hb)
  replace X := hidden (X.out.keep hb)
  replace BB := hidden (BB.out.keep hb)
  replace Q2 := hidden (Q2.out.keep hb)
  clear x0 hb
  rcases ha with ⟨-, rfl⟩ | ⟨ha, -⟩
  rotate_left
  · exact absurd ha HC.out
  simp only
  have L_Q_R1 := hidden (Nat.lt_of_lt_of_le Q.out.lt (Nat.le_refl _))
  have L_BB_R1 := hidden (Nat.le_trans BB.out.top (Nat.le_refl _))
  have L_Q2_R1 := hidden (Nat.lt_of_lt_of_le Q2.out.lt (Nat.le_refl _))
  have hb := alloc_below w10 (.cells #[.int .i64 C, .slice none 0 0, .int .i64 0] 30)
  replace D0 := hidden (D0.out.keep hb)
  replace B := hidden (keepB B.out hb)
  replace H := hidden (H.out.keep hb)
  replace H1 := hidden (H1.out.keep hb)
  replace H2 := hidden (H2.out.keep hb)
  replace R0 := hidden (R0.out.keep hb)
  replace Q := hidden (Q.out.keep hb)
  replace X := hidden (X.out.keep hb)
  replace BB := hidden (BB.out.keep hb)
  replace Q2 := hidden (Q2.out.keep hb)
  clear hb
  have R1 := hidden (Tri.new w10 (.int .i64 C) (.slice none 0 0) (.int .i64 0) 30)
  have r00 := R0.out.c0
  have r01 := R0.out.c1
  have r02 := R0.out.c2
  have r10 := R1.out.c0
  have r11 := R1.out.c1
  have r12 := R1.out.c2
  go_wp2_with fail
  with_reducible refine (eqNf_none _ _ _).mono ?_
  rintro e w11 ⟨rfl, hb⟩
  replace D0 := hidden (D0.out.keep hb)
  replace B := hidden (keepB B.out hb)
  replace H := hidden (H.out.keep hb)
  replace H1 := hidden (H1.out.keep hb)
  replace H2 := hidden (H2.out.keep hb)
  replace R0 := hidden (R0.out.keep hb)
  replace Q := hidden (Q.out.keep hb)
  replace X := hidden (X.out.keep hb)
  replace BB := hidden (BB.out.keep hb)
  replace Q2 := hidden (Q2.out.keep hb)
  replace R1 := hidden (R1.out.keep hb)
  clear r00 r01 r02 r10 r11 r12 hb
  have QS := hidden (Q.out.syms HK.out.big HK.out.fits)
  have S1 := hidden (show ∀ wc, Below w11.heap.size w11 wc → Calls Tryz.prog 9 #[.agg #[.slice p n c]] wc fun e w' => ∃ g, e = .returned (.agg #[.slice (some ⟨g, 0, none⟩) n n]) ∧ Below w11.heap.size w11 w' ∧ Syms w' g 0 n N A ∧ w'.cell? ⟨w7.heap.size, 0, none⟩ = some (.slice (some ⟨gx, 0, none⟩) n n) from fun wc hc => by
    refine (toSig_new p n c N A wc (H.out.keep hc) HK.out).mono ?_
    rintro e w' ⟨g, rfl, hg, hl, hs, hb⟩
    exact ⟨g, rfl, keepB hc hb, hs, (X.out.keep (keepB hc hb)).c0⟩)
  have S2 := hidden (show ∀ wc g, Below w11.heap.size w11 wc → Syms wc g 0 n N A → Calls Tryz.prog 14 #[.agg #[.slice (some ⟨gx, 0, none⟩) n n], .agg #[.slice (some ⟨g, 0, none⟩) n n]] wc fun e w' => e = .returned (.bool true) ∧ Below w11.heap.size w11 w' from fun wc g hc hm => by
    refine (eqSignature_eq gx 0 g 0 n n n N A wc (QS.out.keep hc) hm HK.out.most).mono ?_
    rintro e w' ⟨rfl, hb⟩
    exact ⟨rfl, keepB hc hb⟩)
  have x0 := X.out.c0
  have d0 := D0.out.c0
  go_wp2_with fail
  go_cut [59] (fun t wc => t = .bool false ∧ Below w11.heap.size w11 wc)
  case first =>
    go_region_with (first
      | (go_at_call 9; with_reducible refine (S1.out _ ?_).mono ?_; exact (Below.refl _ _).drew; rintro e v5 ⟨g5', rfl, b5', m5', d5'⟩)
      | (go_at_call 14; with_reducible refine (S2.out _ _ b5' m5').mono ?_; rintro e v6 ⟨rfl, b6'⟩))
    all_goals (go_wp2_with fail; go_meet)
    all_goals exact ⟨rfl, b6'⟩
  case rest =>
    rename World => w12
    obtain ⟨rfl, hb⟩ := hcut
    replace D0 := hidden (D0.out.keep hb)
    replace B := hidden (keepB B.out hb)
    replace H := hidden (H.out.keep hb)
    replace H1 := hidden (H1.out.keep hb)
    replace H2 := hidden (H2.out.keep hb)
    replace R0 := hidden (R0.out.keep hb)
    replace Q := hidden (Q.out.keep hb)
    replace X := hidden (X.out.keep hb)
    replace BB := hidden (BB.out.keep hb)
    replace Q2 := hidden (Q2.out.keep hb)
    replace R1 := hidden (R1.out.keep hb)
    replace QS := hidden (QS.out.keep hb)
    clear x0 d0 hb S1 S2
    clear QS
    go_wp2_with fail
    with_reducible refine (toEqs_own p1 m1 c1 D1 _ H1.out M1.out).mono ?_
    rintro e w13 ⟨g13, rfl, hs, hb⟩
    replace D0 := hidden (D0.out.keep hb)
    replace B := hidden (keepB B.out hb)
    replace H := hidden (H.out.keep hb)
    replace H1 := hidden (H1.out.keep hb)
    replace H2 := hidden (H2.out.keep hb)
    replace R0 := hidden (R0.out.keep hb)
    replace Q := hidden (Q.out.keep hb)
    replace X := hidden (X.out.keep hb)
    replace BB := hidden (BB.out.keep hb)
    replace Q2 := hidden (Q2.out.keep hb)
    replace R1 := hidden (R1.out.keep hb)
    clear hb
    have Q9 := hidden (hs.eqs)
    clear hs
    go_wp2_with fail
    with_reducible refine (eqEquationS_eq _ _ _ _ _ _ _ D1 _ BB.out.eqs Q9.out M1.out).mono ?_
    rintro e w14 ⟨rfl, hb⟩
    replace D0 := hidden (D0.out.keep hb)
    replace B := hidden (keepB B.out hb)
    replace H := hidden (H.out.keep hb)
    replace H1 := hidden (H1.out.keep hb)
    replace H2 := hidden (H2.out.keep hb)
    replace R0 := hidden (R0.out.keep hb)
    replace Q := hidden (Q.out.keep hb)
    replace X := hidden (X.out.keep hb)
    replace BB := hidden (BB.out.keep hb)
    replace Q2 := hidden (Q2.out.keep hb)
    replace R1 := hidden (R1.out.keep hb)
    replace Q9 := hidden (Q9.out.keep hb)
    clear hb
    clear Q9
    go_wp2_with fail
    with_reducible refine (toInts_new p2 m2 c2 L2 _ H2.out HM2.out).mono ?_
    rintro e w15 ⟨g15, rfl, hs, hb⟩
    replace D0 := hidden (D0.out.keep hb)
    replace B := hidden (keepB B.out hb)
    replace H := hidden (H.out.keep hb)
    replace H1 := hidden (H1.out.keep hb)
    replace H2 := hidden (H2.out.keep hb)
    replace R0 := hidden (R0.out.keep hb)
    replace Q := hidden (Q.out.keep hb)
    replace X := hidden (X.out.keep hb)
    replace BB := hidden (BB.out.keep hb)
    replace Q2 := hidden (Q2.out.keep hb)
    replace R1 := hidden (R1.out.keep hb)
    clear hb
    have Q9 := hidden (hs)
    clear hs
    go_wp2_with fail
    with_reducible refine (eqInt64S_eq _ _ _ _ _ _ _ L2 _ Q2.out.ints Q9.out HM2.out).mono ?_
    rintro e w16 ⟨rfl, hb⟩
    replace D0 := hidden (D0.out.keep hb)
    replace B := hidden (keepB B.out hb)
    replace H := hidden (H.out.keep hb)
    replace H1 := hidden (H1.out.keep hb)
    replace H2 := hidden (H2.out.keep hb)
    replace R0 := hidden (R0.out.keep hb)
    replace Q := hidden (Q.out.keep hb)
    replace X := hidden (X.out.keep hb)
    replace BB := hidden (BB.out.keep hb)
    replace Q2 := hidden (Q2.out.keep hb)
    replace R1 := hidden (R1.out.keep hb)
    replace Q9 := hidden (Q9.out.keep hb)
    clear hb
    clear Q9
    have x0 := X.out.c0
    go_wp2_with fail
    with_reducible refine (markSignature_z _ gx n n 1 N A _ Q.out HK.out.most (by omega) (by omega)).mono ?_
    rintro e w17 ⟨rfl, -, hg⟩
    replace B := hidden (grownB B.out hg GX.out)
    replace D0 := hidden (D0.out.grown hg (Nat.ne_of_lt L_D0_Q.out))
    replace H := hidden (Z.out.keep B.out)
    replace H1 := hidden (Z1.out.keep B.out)
    replace H2 := hidden (Z2.out.keep B.out)
    replace R0 := hidden (R0.out.grown hg (Nat.ne_of_lt L_R0_Q.out))
    replace X := hidden (X.out.grown hg (Nat.ne_of_gt L_Q_X.out))
    replace BB := hidden (BB.out.grown hg (Or.inl L_Q_BB.out))
    replace Q2 := hidden (Q2.out.grown hg (Nat.ne_of_gt L_Q_Q2.out))
    replace R1 := hidden (R1.out.grown hg (Nat.ne_of_gt L_Q_R1.out))
    clear Q
    clear x0 hg
    have HN1 := HK.out.most
    have HS1 := HSUM.out
    go_wp2_with fail
    with_reducible refine (markEquationS_any _ _ gy m1 (1 + 2 * n) D1 _ BB.out M1.out (by omega) (by omega)).mono ?_
    rintro e w18 ⟨rfl, -, hr⟩
    replace B := hidden (Rng.below B.out hr GBB.out)
    replace D0 := hidden (D0.out.rng hr (Or.inl L_D0_BB.out))
    replace H := hidden (Z.out.keep B.out)
    replace H1 := hidden (Z1.out.keep B.out)
    replace H2 := hidden (Z2.out.keep B.out)
    replace R0 := hidden (R0.out.rng hr (Or.inl L_R0_BB.out))
    replace X := hidden (X.out.rng hr (Or.inl L_X_BB.out))
    replace Q2 := hidden (Q2.out.rng hr (Or.inr L_BB_Q2.out))
    replace R1 := hidden (R1.out.rng hr (Or.inr L_BB_R1.out))
    clear BB
    clear hr
    go_wp2_with fail
    have HMx2 := HM2.out
    with_reducible refine (markInt64S_z _ gy2 m2 m2 (1 + 2 * n + sumM (fl2 D1) (m1 * 2)) L2 _ Q2.out HM2.out (by omega) (by omega)).mono ?_
    rintro e w19 ⟨rfl, -, hg⟩
    replace B := hidden (grownB B.out hg GY2.out)
    replace D0 := hidden (D0.out.grown hg (Nat.ne_of_lt L_D0_Q2.out))
    replace H := hidden (Z.out.keep B.out)
    replace H1 := hidden (Z1.out.keep B.out)
    replace H2 := hidden (Z2.out.keep B.out)
    replace R0 := hidden (R0.out.grown hg (Nat.ne_of_lt L_R0_Q2.out))
    replace X := hidden (X.out.grown hg (Nat.ne_of_lt L_X_Q2.out))
    replace R1 := hidden (R1.out.grown hg (Nat.ne_of_gt L_Q2_R1.out))
    clear Q2
    clear hg
    have r00 := R0.out.c0
    have r01 := R0.out.c1
    have r02 := R0.out.c2
    have r10 := R1.out.c0
    have r11 := R1.out.c1
    have r12 := R1.out.c2
    have hkk : decide ((1 : Int) + 2 * n + sumM (fl2 D1) (m1 * 2) + m2 < 0) = false := by simp; omega
    go_wp2_with fail
    with_reducible refine (eqNf_none _ _ _).mono ?_
    rintro e w20 ⟨rfl, hb⟩
    replace D0 := hidden (D0.out.keep hb)
    replace B := hidden (keepB B.out hb)
    replace H := hidden (H.out.keep hb)
    replace H1 := hidden (H1.out.keep hb)
    replace H2 := hidden (H2.out.keep hb)
    replace R0 := hidden (R0.out.keep hb)
    replace X := hidden (X.out.keep hb)
    replace R1 := hidden (R1.out.keep hb)
    clear r00 r01 r02 r10 r11 r12 hb
    have r00 := R1.out.c0
    have r01 := R1.out.c1
    have r02 := R1.out.c2
    go_wp2_with fail
    with_reducible refine (markNf_none1 _ _ _).mono ?_
    rintro e w21 ⟨rfl, hb⟩
    replace D0 := hidden (D0.out.keep hb)
    replace B := hidden (keepB B.out hb)
    replace H := hidden (H.out.keep hb)
    replace H1 := hidden (H1.out.keep hb)
    replace H2 := hidden (H2.out.keep hb)
    replace R0 := hidden (R0.out.keep hb)
    replace X := hidden (X.out.keep hb)
    replace R1 := hidden (R1.out.keep hb)
    clear r00 r01 r02 hb
    have r00 := R1.out.c0
    have r01 := R1.out.c1
    have r02 := R1.out.c2
    go_wp2_with fail
    with_reducible refine (heldNf_none1 _ _ _).mono ?_
    rintro e w22 ⟨rfl, hb⟩
    replace D0 := hidden (D0.out.keep hb)
    replace B := hidden (keepB B.out hb)
    replace H := hidden (H.out.keep hb)
    replace H1 := hidden (H1.out.keep hb)
    replace H2 := hidden (H2.out.keep hb)
    replace R0 := hidden (R0.out.keep hb)
    replace X := hidden (X.out.keep hb)
    replace R1 := hidden (R1.out.keep hb)
    clear r00 r01 r02 hb
    have d0 := D0.out.c0
    go_wp2_with fail
    with_reducible refine (toSig_new p n c N A _ H.out HK.out).mono ?_
    rintro e w23 ⟨g23, rfl, hg, hl, hs, hb⟩
    replace D0 := hidden (D0.out.keep hb)
    replace B := hidden (keepB B.out hb)
    replace H := hidden (H.out.keep hb)
    replace H1 := hidden (H1.out.keep hb)
    replace H2 := hidden (H2.out.keep hb)
    replace R0 := hidden (R0.out.keep hb)
    replace X := hidden (X.out.keep hb)
    replace R1 := hidden (R1.out.keep hb)
    clear d0 hb hg hl
    have P := hidden (hs)
    clear hs
    go_wp2_with fail
    with_reducible refine (toEqs_own p1 m1 c1 D1 _ H1.out M1.out).mono ?_
    rintro e w24 ⟨g24, rfl, hs, hb⟩
    replace D0 := hidden (D0.out.keep hb)
    replace B := hidden (keepB B.out hb)
    replace H := hidden (H.out.keep hb)
    replace H1 := hidden (H1.out.keep hb)
    replace H2 := hidden (H2.out.keep hb)
    replace R0 := hidden (R0.out.keep hb)
    replace X := hidden (X.out.keep hb)
    replace R1 := hidden (R1.out.keep hb)
    replace P := hidden (P.out.keep hb)
    clear hb
    have P1 := hidden (hs.eqs)
    clear hs
    go_wp2_with fail
    with_reducible refine (toInts_new p2 m2 c2 L2 _ H2.out HM2.out).mono ?_
    rintro e w25 ⟨g25, rfl, hs, hb⟩
    replace D0 := hidden (D0.out.keep hb)
    replace B := hidden (keepB B.out hb)
    replace H := hidden (H.out.keep hb)
    replace H1 := hidden (H1.out.keep hb)
    replace H2 := hidden (H2.out.keep hb)
    replace R0 := hidden (R0.out.keep hb)
    replace X := hidden (X.out.keep hb)
    replace R1 := hidden (R1.out.keep hb)
    replace P := hidden (P.out.keep hb)
    replace P1 := hidden (P1.out.keep hb)
    clear hb
    have P2 := hidden (hs)
    clear hs
    go_wp2_with fail
    with_reducible refine (IM.out _ _ _ _ P.out P1.out P2.out HK.out M1.out).mono ?_
    rintro e w26 ⟨ha, hb⟩
    replace D0 := hidden (D0.out.keep hb)
    replace B := hidden (keepB B.out hb)
    replace H := hidden (H.out.keep hb)
    replace H1 := hidden (H1.out.keep hb)
    replace H2 := hidden (H2.out.keep hb)
    replace R0 := hidden (R0.out.keep hb)
    replace X := hidden (X.out.keep hb)
    replace R1 := hidden (R1.out.keep hb)
    replace P := hidden (P.out.keep hb)
    replace P1 := hidden (P1.out.keep hb)
    replace P2 := hidden (P2.out.keep hb)
    clear hb
    rcases ha with ⟨-, rfl⟩ | ⟨ha, -⟩
    rotate_left
    · exact absurd ha HC.out
    simp only
    have hb := alloc_below w26 (.cells #[.int .i64 C, .slice none 0 0, .int .i64 0] 30)
    replace D0 := hidden (D0.out.keep hb)
    replace B := hidden (keepB B.out hb)
    replace H := hidden (H.out.keep hb)
    replace H1 := hidden (H1.out.keep hb)
    replace H2 := hidden (H2.out.keep hb)
    replace R0 := hidden (R0.out.keep hb)
    replace X := hidden (X.out.keep hb)
    replace R1 := hidden (R1.out.keep hb)
    replace P := hidden (P.out.keep hb)
    replace P1 := hidden (P1.out.keep hb)
    replace P2 := hidden (P2.out.keep hb)
    clear hb
    have R2 := hidden (Tri.new w26 (.int .i64 C) (.slice none 0 0) (.int .i64 0) 30)
    clear P P1 P2
    have r00 := R0.out.c0
    have r01 := R0.out.c1
    have r02 := R0.out.c2
    have r10 := R2.out.c0
    have r11 := R2.out.c1
    have r12 := R2.out.c2
    go_wp2_with fail
    with_reducible refine (eqNf_none _ _ _).mono ?_
    rintro e w27 ⟨rfl, hb⟩
    replace D0 := hidden (D0.out.keep hb)
    replace B := hidden (keepB B.out hb)
    replace H := hidden (H.out.keep hb)
    replace H1 := hidden (H1.out.keep hb)
    replace H2 := hidden (H2.out.keep hb)
    replace R0 := hidden (R0.out.keep hb)
    replace X := hidden (X.out.keep hb)
    replace R1 := hidden (R1.out.keep hb)
    replace R2 := hidden (R2.out.keep hb)
    clear r00 r01 r02 r10 r11 r12 hb
    have r00 := R1.out.c0
    have r01 := R1.out.c1
    have r02 := R1.out.c2
    go_wp2_with fail
    with_reducible refine (heldNf_none1 _ _ _).mono ?_
    rintro e w28 ⟨rfl, hb⟩
    replace D0 := hidden (D0.out.keep hb)
    replace B := hidden (keepB B.out hb)
    replace H := hidden (H.out.keep hb)
    replace H1 := hidden (H1.out.keep hb)
    replace H2 := hidden (H2.out.keep hb)
    replace R0 := hidden (R0.out.keep hb)
    replace X := hidden (X.out.keep hb)
    replace R1 := hidden (R1.out.keep hb)
    replace R2 := hidden (R2.out.keep hb)
    clear r00 r01 r02 hb
    go_wp2_with fail
    go_ret
    exact ⟨rfl, B.out⟩

set_option maxRecDepth 20000 in
set_option maxHeartbeats 400000 in
theorem law_nf_big (p : Option Addr) (n c : Nat) (p1 : Option Addr) (m1 c1 : Nat) (p2 : Option Addr) (m2 c2 : Nat) (ia : Int) (w : World) (hm : ¬ m2 ≤ 1048576) :
    Calls Tryz.prog 3 #[.agg #[.slice p n c], .slice p1 m1 c1, .slice p2 m2 c2, .int .i64 ia] w fun e w' => e = .returned (.bool true) ∧ Below w.heap.size w w' := by
  have h : (1048576 : Int) < m2 := by omega
  go_enter Tryz.func3, Tryz.ntmps3
  go_wp2
  go_ret
  exact ⟨rfl, alloc_below _ _⟩

theorem nf_len {n : Nat} {A : Nat → Int} {r : Nat} {D : EqL} : ∀ f j m (T : Nat → Int), Trm n A m T → EqOk n A r D → (nfR A D r f j m T).C = 0 → (nfR A D r f j m T).K ≤ 24
  | 0, j, m, T, hg, hr, h => by
    cases hx : rdx A T m D r with
    | none => rw [nf_none hx]; exact hg.nods.most
    | some s => rw [nf_out hx] at h; exact absurd h (by show (9 : Int) ≠ 0; decide)
  | f + 1, j, m, T, hg, hr, h => by
    cases hx : rdx A T m D r with
    | none => rw [nf_none hx]; exact hg.nods.most
    | some s =>
      by_cases hc : stC A D m T s = 0
      · rw [nf_step hx hc] at h ⊢; exact nf_len f (j + 1) _ _ (st_trm hg hr hx hc) hr h
      · rw [nf_bad hx hc] at h; exact absurd h hc

theorem nm_len {n : Nat} {N : Nat → ByteArray} {A T : Nat → Int} {r m : Nat} {D : EqL} {x : Int} (h : (nmF n N A r D x m T).C = 0) : (nmF n N A r D x m T).K ≤ 24 := by
  by_cases hb : boF n N A r D m T = 0
  · by_cases hx : 0 ≤ x ∧ x ≤ 200
    · have e : nmF n N A r D x m T = nfR A D r x.toNat 0 m T := by rw [nmF, if_pos hb, if_pos hx]
      rw [e] at h ⊢
      exact nf_len _ _ _ _ (bo_trm hb).2 (bo_trm hb).1.eqs h
    · rw [nm_range hb hx] at h; exact absurd h (by show (3 : Int) ≠ 0; decide)
  · rw [nm_bo hb] at h; exact absurd h hb

theorem law_nf_all (p : Option Addr) (n c : Nat) (N : Nat → ByteArray) (A : Nat → Int) (p1 : Option Addr) (m1 c1 : Nat) (D1 : EqL) (p2 : Option Addr) (m2 c2 : Nat) (L2 : Nat → Int) (ia : Int) (w : World) (h : SrcS w p n N A) (h1 : SrcE w p1 m1 D1) (h2 : SrcI w p2 m2 L2) :
    Calls Tryz.prog 3 #[.agg #[.slice p n c], .slice p1 m1 c1, .slice p2 m2 c2, .int .i64 ia] w fun e w' => e = .returned (.bool true) ∧ Below w.heap.size w w' := by
  by_cases hm : m2 ≤ 1048576
  · have SP := hidden (fun b b1 b2 w h h1 h2 hk hk1 => specNf_any b 0 n n b1 0 m1 m1 b2 0 m2 m2 N A L2 D1 ia w h h1 h2 hk hk1 hm)
    have IM := hidden (fun b b1 b2 w h h1 h2 hk hk1 => implNf_any b 0 n n b1 0 m1 m1 b2 0 m2 m2 N A L2 D1 ia w h h1 h2 hk hk1 hm)
    have hK := fun hc => nm_len (n := n) (N := N) (A := A) (T := L2) (r := m1) (m := m2) (D := D1) (x := ia) hc
    generalize nmF n N A m1 D1 ia m2 L2 = R at SP IM hK
    obtain ⟨C, st, K, U⟩ := R
    by_cases hc : C = 0
    · exact law_nf_ok p n c N A p1 m1 c1 D1 p2 m2 c2 L2 ia C st K U w h h1 h2 hm hc (Nat.le_trans (hK hc) (by omega)) SP IM
    · exact law_nf_bad p n c N A p1 m1 c1 D1 p2 m2 c2 L2 ia C st K U w h h1 h2 hm hc SP IM
  · exact law_nf_big p n c p1 m1 c1 p2 m2 c2 ia w hm

end Go.Proofs.YtflhfhmhdhokoaaGreat
