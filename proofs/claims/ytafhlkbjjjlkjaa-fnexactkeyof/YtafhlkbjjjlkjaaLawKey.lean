/- Law FnExactKeyOf: at every signature and two lists of nodes the program's KeyOf answers as the model's; its answer owns its memory. -/
import Derived.Test.YtafhlkbjjjlkjaaLaw5Kit
import Derived.Test.YtafhlkbjjjlkjaaKeyT
namespace Go.Proofs.Ytafhlkbjjjlkjaa
open Go.RowKit

set_option maxRecDepth 20000 in
set_option maxHeartbeats 12800000 in
theorem law_key_ok (p : Option Addr) (n c : Nat) (N : Nat → ByteArray) (A : Nat → Int) (p1 : Option Addr) (m1 c1 : Nat) (L1 : Nat → Int) (p2 : Option Addr) (m2 c2 : Nat) (L2 : Nat → Int) (C : Int) (V : List Int) (w : World) (h : SrcS w p n N A) (h1 : SrcI w p1 m1 L1) (hm1 : m1 ≤ 1048576) (h2 : SrcI w p2 m2 L2) (hm2 : m2 ≤ 1048576) (hc : C = 0) (hK : V.length ≤ 1048576) (hV : ∀ x ∈ V, 0 ≤ x ∧ x ≤ 255)
    (SP : Hid (∀ b b1 b2 w, Syms w b 0 n N A → Ints w b1 0 m1 L1 → Ints w b2 0 m2 L2 → Kept n N A → Calls Try.prog 25 #[.agg #[.slice (some ⟨b, 0, none⟩) n n], .slice (some ⟨b1, 0, none⟩) m1 m1, .slice (some ⟨b2, 0, none⟩) m2 m2] w fun e w' => BytAns w C V e w' ∧ Below w.heap.size w w'))
    (IM : Hid (∀ b b1 b2 w, Syms w b 0 n N A → Ints w b1 0 m1 L1 → Ints w b2 0 m2 L2 → Kept n N A → Calls Try.prog 24 #[.agg #[.slice (some ⟨b, 0, none⟩) n n], .slice (some ⟨b1, 0, none⟩) m1 m1, .slice (some ⟨b2, 0, none⟩) m2 m2] w fun e w' => BytAns w C V e w' ∧ Below w.heap.size w w')) :
    Calls Try.prog 8 #[.agg #[.slice p n c], .slice p1 m1 c1, .slice p2 m2 c2] w fun e w' => e = .returned (.bool true) ∧ Below w.heap.size w w' := by
  have Z := hidden h
  have Z1 := hidden h1
  have Z2 := hidden h2
  subst hc
  have HKK := hidden hK
  have HV := hidden hV
  clear hK hV
  have D0 := hidden (One.new w (.slice p n c) 60)
  have B := hidden (alloc_below w (.cells #[.slice p n c] 60))
  have H := hidden (Z.out.keep B.out)
  have H1 := hidden (Z1.out.keep B.out)
  have HM1 := hidden hm1
  have H2 := hidden (Z2.out.keep B.out)
  have HM2 := hidden hm2
  clear h h1 h2
  go_enter Try.func8, Try.ntmps8
  go_wp2_with fail
  with_reducible refine (szSignature_src p n c N A 1048576 _ H.out (by omega) (by omega)).mono ?_
  rintro e w1 ⟨⟨r1, rfl, hr⟩, hb⟩
  replace D0 := hidden (D0.out.keep hb)
  replace B := hidden (keepB B.out hb)
  replace H := hidden (H.out.keep hb)
  replace H1 := hidden (H1.out.keep hb)
  replace H2 := hidden (H2.out.keep hb)
  clear hb
  rcases hr with rfl | ⟨q0, q1, q2, q3⟩
  · go_wp2_with fail
    go_ret
    exact ⟨rfl, B.out⟩
  have HK := hidden (Kept.mk q2 q3 H.out.fits)
  clear q2 q3
  clear q1
  have d0 := D0.out.c0
  go_wp2_with fail
  with_reducible refine (toSig_new p n c N A _ H.out HK.out).mono ?_
  rintro e w2 ⟨g2, rfl, hg, hl, hs, hb⟩
  replace D0 := hidden (D0.out.keep hb)
  replace B := hidden (keepB B.out hb)
  replace H := hidden (H.out.keep hb)
  replace H1 := hidden (H1.out.keep hb)
  replace H2 := hidden (H2.out.keep hb)
  clear d0 hb hg hl
  have P := hidden (hs)
  clear hs
  go_wp2_with fail
  with_reducible refine (toInts_new p1 m1 c1 L1 _ H1.out HM1.out).mono ?_
  rintro e w3 ⟨g3, rfl, hs, hb⟩
  replace D0 := hidden (D0.out.keep hb)
  replace B := hidden (keepB B.out hb)
  replace H := hidden (H.out.keep hb)
  replace H1 := hidden (H1.out.keep hb)
  replace H2 := hidden (H2.out.keep hb)
  replace P := hidden (P.out.keep hb)
  clear hb
  have P1 := hidden (hs)
  clear hs
  go_wp2_with fail
  with_reducible refine (toInts_new p2 m2 c2 L2 _ H2.out HM2.out).mono ?_
  rintro e w4 ⟨g4, rfl, hs, hb⟩
  replace D0 := hidden (D0.out.keep hb)
  replace B := hidden (keepB B.out hb)
  replace H := hidden (H.out.keep hb)
  replace H1 := hidden (H1.out.keep hb)
  replace H2 := hidden (H2.out.keep hb)
  replace P := hidden (P.out.keep hb)
  replace P1 := hidden (P1.out.keep hb)
  clear hb
  have P2 := hidden (hs)
  clear hs
  go_wp2_with fail
  with_reducible refine (SP.out _ _ _ _ P.out P1.out P2.out HK.out).mono ?_
  rintro e w5 ⟨ha, hb⟩
  rcases ha with ⟨ha, -⟩ | ⟨-, ga, da, rfl, hg, ho⟩
  · exact absurd rfl ha
  replace D0 := hidden (D0.out.keep hb)
  replace B := hidden (keepB B.out hb)
  replace H := hidden (H.out.keep hb)
  replace H1 := hidden (H1.out.keep hb)
  replace H2 := hidden (H2.out.keep hb)
  replace P := hidden (P.out.keep hb)
  replace P1 := hidden (P1.out.keep hb)
  replace P2 := hidden (P2.out.keep hb)
  have LW := hidden (ho)
  clear hb ho hg
  have hb := alloc_below w5 (.cells #[.int .i64 0, .slice (some ⟨ga, 0, none⟩) V.length da] 31)
  replace D0 := hidden (D0.out.keep hb)
  replace B := hidden (keepB B.out hb)
  replace H := hidden (H.out.keep hb)
  replace H1 := hidden (H1.out.keep hb)
  replace H2 := hidden (H2.out.keep hb)
  replace P := hidden (P.out.keep hb)
  replace P1 := hidden (P1.out.keep hb)
  replace P2 := hidden (P2.out.keep hb)
  replace LW := hidden (LW.out.keep hb)
  clear hb
  have R0 := hidden (Two.new w5 (.int .i64 0) (.slice (some ⟨ga, 0, none⟩) V.length da) 31)
  clear P P1 P2
  have d0 := D0.out.c0
  go_wp2_with fail
  have BSx := hidden B.out.size
  with_reducible refine (toSignature_src p n c N A _ H.out HK.out).mono ?_
  rintro e w6 ⟨gx, rfl, hgx, hs, hb⟩
  have L_D0_Q := hidden (Nat.lt_of_lt_of_le D0.out.blk hgx)
  have L_LW_Q := hidden (Nat.lt_of_lt_of_le LW.out.lt hgx)
  have L_R0_Q := hidden (Nat.lt_of_lt_of_le R0.out.blk hgx)
  replace D0 := hidden (D0.out.keep hb)
  replace B := hidden (keepB B.out hb)
  replace H := hidden (H.out.keep hb)
  replace H1 := hidden (H1.out.keep hb)
  replace H2 := hidden (H2.out.keep hb)
  replace LW := hidden (LW.out.keep hb)
  replace R0 := hidden (R0.out.keep hb)
  have Q := hidden (hs)
  clear d0 hb
  have GX := hidden (Nat.le_trans BSx.out hgx)
  clear hs hgx BSx
  have L_Q_X := hidden (Nat.lt_of_lt_of_le Q.out.lt (Nat.le_refl _))
  have hb := alloc_below w6 (.cells #[.slice (some ⟨gx, 0, none⟩) n n] 26)
  replace D0 := hidden (D0.out.keep hb)
  replace B := hidden (keepB B.out hb)
  replace H := hidden (H.out.keep hb)
  replace H1 := hidden (H1.out.keep hb)
  replace H2 := hidden (H2.out.keep hb)
  replace LW := hidden (LW.out.keep hb)
  replace R0 := hidden (R0.out.keep hb)
  replace Q := hidden (Q.out.keep hb)
  clear hb
  have X := hidden (One.new w6 (.slice (some ⟨gx, 0, none⟩) n n) 26)
  have BSx := hidden B.out.size
  go_wp2_with fail
  with_reducible refine (toInts_src p1 m1 c1 L1 _ H1.out HM1.out).mono ?_
  rintro e w7 ⟨gy1, rfl, hgy, hs, hb⟩
  have L_D0_Q1 := hidden (Nat.lt_of_lt_of_le D0.out.blk hgy)
  have L_LW_Q1 := hidden (Nat.lt_of_lt_of_le LW.out.lt hgy)
  have L_R0_Q1 := hidden (Nat.lt_of_lt_of_le R0.out.blk hgy)
  have L_Q_Q1 := hidden (Nat.lt_of_lt_of_le Q.out.lt hgy)
  have L_X_Q1 := hidden (Nat.lt_of_lt_of_le X.out.blk hgy)
  replace D0 := hidden (D0.out.keep hb)
  replace B := hidden (keepB B.out hb)
  replace H := hidden (H.out.keep hb)
  replace H1 := hidden (H1.out.keep hb)
  replace H2 := hidden (H2.out.keep hb)
  replace LW := hidden (LW.out.keep hb)
  replace R0 := hidden (R0.out.keep hb)
  replace Q := hidden (Q.out.keep hb)
  replace X := hidden (X.out.keep hb)
  have Q1 := hidden (hs)
  clear hb
  have GY1 := hidden (Nat.le_trans BSx.out hgy)
  clear hs hgy BSx
  have BSx := hidden B.out.size
  go_wp2_with fail
  with_reducible refine (toInts_src p2 m2 c2 L2 _ H2.out HM2.out).mono ?_
  rintro e w8 ⟨gy2, rfl, hgy, hs, hb⟩
  have L_D0_Q2 := hidden (Nat.lt_of_lt_of_le D0.out.blk hgy)
  have L_LW_Q2 := hidden (Nat.lt_of_lt_of_le LW.out.lt hgy)
  have L_R0_Q2 := hidden (Nat.lt_of_lt_of_le R0.out.blk hgy)
  have L_Q_Q2 := hidden (Nat.lt_of_lt_of_le Q.out.lt hgy)
  have L_X_Q2 := hidden (Nat.lt_of_lt_of_le X.out.blk hgy)
  have L_Q1_Q2 := hidden (Nat.lt_of_lt_of_le Q1.out.lt hgy)
  replace D0 := hidden (D0.out.keep hb)
  replace B := hidden (keepB B.out hb)
  replace H := hidden (H.out.keep hb)
  replace H1 := hidden (H1.out.keep hb)
  replace H2 := hidden (H2.out.keep hb)
  replace LW := hidden (LW.out.keep hb)
  replace R0 := hidden (R0.out.keep hb)
  replace Q := hidden (Q.out.keep hb)
  replace X := hidden (X.out.keep hb)
  replace Q1 := hidden (Q1.out.keep hb)
  have Q2 := hidden (hs)
  clear hb
  have GY2 := hidden (Nat.le_trans BSx.out hgy)
  clear hs hgy BSx
  have x0 := X.out.c0
  go_wp2_with fail
  have BSx := hidden B.out.size
  with_reducible refine (IM.out _ _ _ _ (Q.out.syms HK.out.big HK.out.fits) Q1.out.ints Q2.out.ints HK.out).mono ?_
  rintro e w9 ⟨ha, hb⟩
  rcases ha with ⟨ha, -⟩ | ⟨-, gb, db, rfl, hg, ho⟩
  · exact absurd rfl ha
  have L_D0_LG := hidden (Nat.lt_of_lt_of_le D0.out.blk hg)
  have L_LW_LG := hidden (Nat.lt_of_lt_of_le LW.out.lt hg)
  have L_R0_LG := hidden (Nat.lt_of_lt_of_le R0.out.blk hg)
  have L_Q_LG := hidden (Nat.lt_of_lt_of_le Q.out.lt hg)
  have L_X_LG := hidden (Nat.lt_of_lt_of_le X.out.blk hg)
  have L_Q1_LG := hidden (Nat.lt_of_lt_of_le Q1.out.lt hg)
  have L_Q2_LG := hidden (Nat.lt_of_lt_of_le Q2.out.lt hg)
  have GBx := hidden hg
  replace D0 := hidden (D0.out.keep hb)
  replace B := hidden (keepB B.out hb)
  replace H := hidden (H.out.keep hb)
  replace H1 := hidden (H1.out.keep hb)
  replace H2 := hidden (H2.out.keep hb)
  replace LW := hidden (LW.out.keep hb)
  replace R0 := hidden (R0.out.keep hb)
  replace Q := hidden (Q.out.keep hb)
  replace X := hidden (X.out.keep hb)
  replace Q1 := hidden (Q1.out.keep hb)
  replace Q2 := hidden (Q2.out.keep hb)
  have LG := hidden (ho)
  clear x0 hb ho hg
  have L_Q_R1 := hidden (Nat.lt_of_lt_of_le Q.out.lt (Nat.le_refl _))
  have L_Q1_R1 := hidden (Nat.lt_of_lt_of_le Q1.out.lt (Nat.le_refl _))
  have L_Q2_R1 := hidden (Nat.lt_of_lt_of_le Q2.out.lt (Nat.le_refl _))
  have L_LG_R1 := hidden (Nat.lt_of_lt_of_le LG.out.lt (Nat.le_refl _))
  have hb := alloc_below w9 (.cells #[.int .i64 0, .slice (some ⟨gb, 0, none⟩) V.length db] 31)
  replace D0 := hidden (D0.out.keep hb)
  replace B := hidden (keepB B.out hb)
  replace H := hidden (H.out.keep hb)
  replace H1 := hidden (H1.out.keep hb)
  replace H2 := hidden (H2.out.keep hb)
  replace LW := hidden (LW.out.keep hb)
  replace R0 := hidden (R0.out.keep hb)
  replace Q := hidden (Q.out.keep hb)
  replace X := hidden (X.out.keep hb)
  replace Q1 := hidden (Q1.out.keep hb)
  replace Q2 := hidden (Q2.out.keep hb)
  replace LG := hidden (LG.out.keep hb)
  clear hb
  have R1 := hidden (Two.new w9 (.int .i64 0) (.slice (some ⟨gb, 0, none⟩) V.length db) 31)
  have r00 := R0.out.c0
  have r01 := R0.out.c1
  have r10 := R1.out.c0
  have r11 := R1.out.c1
  go_wp2_with fail
  with_reducible refine (eqBy_eq _ _ _ _ _ _ _ _ _ _ rfl _ LG.out LW.out HKK.out HV.out).mono ?_
  rintro e w10 ⟨rfl, hb⟩
  replace D0 := hidden (D0.out.keep hb)
  replace B := hidden (keepB B.out hb)
  replace H := hidden (H.out.keep hb)
  replace H1 := hidden (H1.out.keep hb)
  replace H2 := hidden (H2.out.keep hb)
  replace LW := hidden (LW.out.keep hb)
  replace R0 := hidden (R0.out.keep hb)
  replace Q := hidden (Q.out.keep hb)
  replace X := hidden (X.out.keep hb)
  replace Q1 := hidden (Q1.out.keep hb)
  replace Q2 := hidden (Q2.out.keep hb)
  replace LG := hidden (LG.out.keep hb)
  replace R1 := hidden (R1.out.keep hb)
  clear r00 r01 r10 r11 hb
  have QS := hidden (Q.out.syms HK.out.big HK.out.fits)
  have S1 := hidden (show ∀ wc, Below w10.heap.size w10 wc → Calls Try.prog 38 #[.agg #[.slice p n c]] wc fun e w' => ∃ g, e = .returned (.agg #[.slice (some ⟨g, 0, none⟩) n n]) ∧ Below w10.heap.size w10 w' ∧ Syms w' g 0 n N A ∧ w'.cell? ⟨w6.heap.size, 0, none⟩ = some (.slice (some ⟨gx, 0, none⟩) n n) from fun wc hc => by
    refine (toSig_new p n c N A wc (H.out.keep hc) HK.out).mono ?_
    rintro e w' ⟨g, rfl, hg, hl, hs, hb⟩
    exact ⟨g, rfl, keepB hc hb, hs, (X.out.keep (keepB hc hb)).c0⟩)
  have S2 := hidden (show ∀ wc g, Below w10.heap.size w10 wc → Syms wc g 0 n N A → Calls Try.prog 41 #[.agg #[.slice (some ⟨gx, 0, none⟩) n n], .agg #[.slice (some ⟨g, 0, none⟩) n n]] wc fun e w' => e = .returned (.bool true) ∧ Below w10.heap.size w10 w' from fun wc g hc hm => by
    refine (eqSignature_eq gx 0 g 0 n n n N A wc (QS.out.keep hc) hm HK.out.most).mono ?_
    rintro e w' ⟨rfl, hb⟩
    exact ⟨rfl, keepB hc hb⟩)
  have x0 := X.out.c0
  have d0 := D0.out.c0
  go_wp2_with fail
  go_cut [53] (fun t wc => t = .bool false ∧ Below w10.heap.size w10 wc)
  case first =>
    go_region_with (first
      | (go_at_call 38; with_reducible refine (S1.out _ ?_).mono ?_; exact (Below.refl _ _).drew; rintro e v5 ⟨g5', rfl, b5', m5', d5'⟩)
      | (go_at_call 41; with_reducible refine (S2.out _ _ b5' m5').mono ?_; rintro e v6 ⟨rfl, b6'⟩))
    all_goals (go_wp2_with fail; go_meet)
    all_goals exact ⟨rfl, b6'⟩
  case rest =>
    rename World => w11
    obtain ⟨rfl, hb⟩ := hcut
    replace D0 := hidden (D0.out.keep hb)
    replace B := hidden (keepB B.out hb)
    replace H := hidden (H.out.keep hb)
    replace H1 := hidden (H1.out.keep hb)
    replace H2 := hidden (H2.out.keep hb)
    replace LW := hidden (LW.out.keep hb)
    replace R0 := hidden (R0.out.keep hb)
    replace Q := hidden (Q.out.keep hb)
    replace X := hidden (X.out.keep hb)
    replace Q1 := hidden (Q1.out.keep hb)
    replace Q2 := hidden (Q2.out.keep hb)
    replace LG := hidden (LG.out.keep hb)
    replace R1 := hidden (R1.out.keep hb)
    replace QS := hidden (QS.out.keep hb)
    clear x0 d0 hb S1 S2
    clear QS
    go_wp2_with fail
    with_reducible refine (toInts_new p1 m1 c1 L1 _ H1.out HM1.out).mono ?_
    rintro e w12 ⟨g12, rfl, hs, hb⟩
    replace D0 := hidden (D0.out.keep hb)
    replace B := hidden (keepB B.out hb)
    replace H := hidden (H.out.keep hb)
    replace H1 := hidden (H1.out.keep hb)
    replace H2 := hidden (H2.out.keep hb)
    replace LW := hidden (LW.out.keep hb)
    replace R0 := hidden (R0.out.keep hb)
    replace Q := hidden (Q.out.keep hb)
    replace X := hidden (X.out.keep hb)
    replace Q1 := hidden (Q1.out.keep hb)
    replace Q2 := hidden (Q2.out.keep hb)
    replace LG := hidden (LG.out.keep hb)
    replace R1 := hidden (R1.out.keep hb)
    clear hb
    have Q9 := hidden (hs)
    clear hs
    go_wp2_with fail
    with_reducible refine (eqInt64S_eq _ _ _ _ _ _ _ L1 _ Q1.out.ints Q9.out HM1.out).mono ?_
    rintro e w13 ⟨rfl, hb⟩
    replace D0 := hidden (D0.out.keep hb)
    replace B := hidden (keepB B.out hb)
    replace H := hidden (H.out.keep hb)
    replace H1 := hidden (H1.out.keep hb)
    replace H2 := hidden (H2.out.keep hb)
    replace LW := hidden (LW.out.keep hb)
    replace R0 := hidden (R0.out.keep hb)
    replace Q := hidden (Q.out.keep hb)
    replace X := hidden (X.out.keep hb)
    replace Q1 := hidden (Q1.out.keep hb)
    replace Q2 := hidden (Q2.out.keep hb)
    replace LG := hidden (LG.out.keep hb)
    replace R1 := hidden (R1.out.keep hb)
    replace Q9 := hidden (Q9.out.keep hb)
    clear hb
    clear Q9
    go_wp2_with fail
    with_reducible refine (toInts_new p2 m2 c2 L2 _ H2.out HM2.out).mono ?_
    rintro e w14 ⟨g14, rfl, hs, hb⟩
    replace D0 := hidden (D0.out.keep hb)
    replace B := hidden (keepB B.out hb)
    replace H := hidden (H.out.keep hb)
    replace H1 := hidden (H1.out.keep hb)
    replace H2 := hidden (H2.out.keep hb)
    replace LW := hidden (LW.out.keep hb)
    replace R0 := hidden (R0.out.keep hb)
    replace Q := hidden (Q.out.keep hb)
    replace X := hidden (X.out.keep hb)
    replace Q1 := hidden (Q1.out.keep hb)
    replace Q2 := hidden (Q2.out.keep hb)
    replace LG := hidden (LG.out.keep hb)
    replace R1 := hidden (R1.out.keep hb)
    clear hb
    have Q9 := hidden (hs)
    clear hs
    go_wp2_with fail
    with_reducible refine (eqInt64S_eq _ _ _ _ _ _ _ L2 _ Q2.out.ints Q9.out HM2.out).mono ?_
    rintro e w15 ⟨rfl, hb⟩
    replace D0 := hidden (D0.out.keep hb)
    replace B := hidden (keepB B.out hb)
    replace H := hidden (H.out.keep hb)
    replace H1 := hidden (H1.out.keep hb)
    replace H2 := hidden (H2.out.keep hb)
    replace LW := hidden (LW.out.keep hb)
    replace R0 := hidden (R0.out.keep hb)
    replace Q := hidden (Q.out.keep hb)
    replace X := hidden (X.out.keep hb)
    replace Q1 := hidden (Q1.out.keep hb)
    replace Q2 := hidden (Q2.out.keep hb)
    replace LG := hidden (LG.out.keep hb)
    replace R1 := hidden (R1.out.keep hb)
    replace Q9 := hidden (Q9.out.keep hb)
    clear hb
    clear Q9
    have x0 := X.out.c0
    go_wp2_with fail
    with_reducible refine (markSignature_z _ gx n n 1 N A _ Q.out HK.out.most (by omega) (by omega)).mono ?_
    rintro e w16 ⟨rfl, -, hg⟩
    replace B := hidden (grownB B.out hg GX.out)
    replace D0 := hidden (D0.out.grown hg (Nat.ne_of_lt L_D0_Q.out))
    replace H := hidden (Z.out.keep B.out)
    replace H1 := hidden (Z1.out.keep B.out)
    replace H2 := hidden (Z2.out.keep B.out)
    replace LW := hidden (LW.out.grown hg (Nat.ne_of_lt L_LW_Q.out))
    replace R0 := hidden (R0.out.grown hg (Nat.ne_of_lt L_R0_Q.out))
    replace X := hidden (X.out.grown hg (Nat.ne_of_gt L_Q_X.out))
    replace Q1 := hidden (Q1.out.grown hg (Nat.ne_of_gt L_Q_Q1.out))
    replace Q2 := hidden (Q2.out.grown hg (Nat.ne_of_gt L_Q_Q2.out))
    replace LG := hidden (LG.out.grown hg (Nat.ne_of_gt L_Q_LG.out))
    replace R1 := hidden (R1.out.grown hg (Nat.ne_of_gt L_Q_R1.out))
    clear Q
    clear x0 hg
    have HN1 := HK.out.most
    go_wp2_with fail
    have HMx1 := HM1.out
    with_reducible refine (markInt64S_z _ gy1 m1 m1 (1 + 2 * n) L1 _ Q1.out HM1.out (by omega) (by omega)).mono ?_
    rintro e w17 ⟨rfl, -, hg⟩
    replace B := hidden (grownB B.out hg GY1.out)
    replace D0 := hidden (D0.out.grown hg (Nat.ne_of_lt L_D0_Q1.out))
    replace H := hidden (Z.out.keep B.out)
    replace H1 := hidden (Z1.out.keep B.out)
    replace H2 := hidden (Z2.out.keep B.out)
    replace LW := hidden (LW.out.grown hg (Nat.ne_of_lt L_LW_Q1.out))
    replace R0 := hidden (R0.out.grown hg (Nat.ne_of_lt L_R0_Q1.out))
    replace X := hidden (X.out.grown hg (Nat.ne_of_lt L_X_Q1.out))
    replace Q2 := hidden (Q2.out.grown hg (Nat.ne_of_gt L_Q1_Q2.out))
    replace LG := hidden (LG.out.grown hg (Nat.ne_of_gt L_Q1_LG.out))
    replace R1 := hidden (R1.out.grown hg (Nat.ne_of_gt L_Q1_R1.out))
    clear Q1
    clear hg
    go_wp2_with fail
    have HMx2 := HM2.out
    with_reducible refine (markInt64S_z _ gy2 m2 m2 (1 + 2 * n + m1) L2 _ Q2.out HM2.out (by omega) (by omega)).mono ?_
    rintro e w18 ⟨rfl, -, hg⟩
    replace B := hidden (grownB B.out hg GY2.out)
    replace D0 := hidden (D0.out.grown hg (Nat.ne_of_lt L_D0_Q2.out))
    replace H := hidden (Z.out.keep B.out)
    replace H1 := hidden (Z1.out.keep B.out)
    replace H2 := hidden (Z2.out.keep B.out)
    replace LW := hidden (LW.out.grown hg (Nat.ne_of_lt L_LW_Q2.out))
    replace R0 := hidden (R0.out.grown hg (Nat.ne_of_lt L_R0_Q2.out))
    replace X := hidden (X.out.grown hg (Nat.ne_of_lt L_X_Q2.out))
    replace LG := hidden (LG.out.grown hg (Nat.ne_of_gt L_Q2_LG.out))
    replace R1 := hidden (R1.out.grown hg (Nat.ne_of_gt L_Q2_R1.out))
    clear Q2
    clear hg
    have r00 := R0.out.c0
    have r01 := R0.out.c1
    have r10 := R1.out.c0
    have r11 := R1.out.c1
    have hkk : decide (((1 : Int) + 2 * n + m1 + m2) < 0) = false := by simp; omega
    go_wp2_with fail
    with_reducible refine (eqBy_eq _ _ _ _ _ _ _ _ _ _ rfl _ LG.out LW.out HKK.out HV.out).mono ?_
    rintro e w19 ⟨rfl, hb⟩
    replace D0 := hidden (D0.out.keep hb)
    replace B := hidden (keepB B.out hb)
    replace H := hidden (H.out.keep hb)
    replace H1 := hidden (H1.out.keep hb)
    replace H2 := hidden (H2.out.keep hb)
    replace LW := hidden (LW.out.keep hb)
    replace R0 := hidden (R0.out.keep hb)
    replace X := hidden (X.out.keep hb)
    replace LG := hidden (LG.out.keep hb)
    replace R1 := hidden (R1.out.keep hb)
    clear r00 r01 r10 r11 hb
    have r00 := R1.out.c0
    have r01 := R1.out.c1
    go_wp2_with fail
    have GB := hidden (show w.heap.size ≤ gb from Nat.le_trans BSx.out GBx.out)
    with_reducible refine (markBy_any _ _ gb _ db _ _ LG.out HKK.out).mono ?_
    rintro e w20 ⟨rfl, ho, hg⟩
    replace B := hidden (grownB B.out hg GB.out)
    replace D0 := hidden (D0.out.grown hg (Nat.ne_of_lt L_D0_LG.out))
    replace H := hidden (Z.out.keep B.out)
    replace H1 := hidden (Z1.out.keep B.out)
    replace H2 := hidden (Z2.out.keep B.out)
    replace LW := hidden (LW.out.grown hg (Nat.ne_of_lt L_LW_LG.out))
    replace R0 := hidden (R0.out.grown hg (Nat.ne_of_lt L_R0_LG.out))
    replace X := hidden (X.out.grown hg (Nat.ne_of_lt L_X_LG.out))
    replace R1 := hidden (R1.out.grown hg (Nat.ne_of_gt L_LG_R1.out))
    replace LG := hidden (ho)
    clear r00 r01 hg ho
    have hq : ¬ (1 : Int) + (V.length : Nat) < 0 := by omega
    have r00 := R1.out.c0
    have r01 := R1.out.c1
    go_wp2_with fail
    with_reducible refine (heldBy_any _ _ gb _ db _ LG.out HKK.out).mono ?_
    rintro e w21 ⟨rfl, hb⟩
    replace D0 := hidden (D0.out.keep hb)
    replace B := hidden (keepB B.out hb)
    replace H := hidden (H.out.keep hb)
    replace H1 := hidden (H1.out.keep hb)
    replace H2 := hidden (H2.out.keep hb)
    replace LW := hidden (LW.out.keep hb)
    replace R0 := hidden (R0.out.keep hb)
    replace X := hidden (X.out.keep hb)
    replace LG := hidden (LG.out.keep hb)
    replace R1 := hidden (R1.out.keep hb)
    clear r00 r01 hb
    have d0 := D0.out.c0
    go_wp2_with fail
    with_reducible refine (toSig_new p n c N A _ H.out HK.out).mono ?_
    rintro e w22 ⟨g22, rfl, hg, hl, hs, hb⟩
    replace D0 := hidden (D0.out.keep hb)
    replace B := hidden (keepB B.out hb)
    replace H := hidden (H.out.keep hb)
    replace H1 := hidden (H1.out.keep hb)
    replace H2 := hidden (H2.out.keep hb)
    replace LW := hidden (LW.out.keep hb)
    replace R0 := hidden (R0.out.keep hb)
    replace X := hidden (X.out.keep hb)
    replace LG := hidden (LG.out.keep hb)
    replace R1 := hidden (R1.out.keep hb)
    clear d0 hb hg hl
    have P := hidden (hs)
    clear hs
    go_wp2_with fail
    with_reducible refine (toInts_new p1 m1 c1 L1 _ H1.out HM1.out).mono ?_
    rintro e w23 ⟨g23, rfl, hs, hb⟩
    replace D0 := hidden (D0.out.keep hb)
    replace B := hidden (keepB B.out hb)
    replace H := hidden (H.out.keep hb)
    replace H1 := hidden (H1.out.keep hb)
    replace H2 := hidden (H2.out.keep hb)
    replace LW := hidden (LW.out.keep hb)
    replace R0 := hidden (R0.out.keep hb)
    replace X := hidden (X.out.keep hb)
    replace LG := hidden (LG.out.keep hb)
    replace R1 := hidden (R1.out.keep hb)
    replace P := hidden (P.out.keep hb)
    clear hb
    have P1 := hidden (hs)
    clear hs
    go_wp2_with fail
    with_reducible refine (toInts_new p2 m2 c2 L2 _ H2.out HM2.out).mono ?_
    rintro e w24 ⟨g24, rfl, hs, hb⟩
    replace D0 := hidden (D0.out.keep hb)
    replace B := hidden (keepB B.out hb)
    replace H := hidden (H.out.keep hb)
    replace H1 := hidden (H1.out.keep hb)
    replace H2 := hidden (H2.out.keep hb)
    replace LW := hidden (LW.out.keep hb)
    replace R0 := hidden (R0.out.keep hb)
    replace X := hidden (X.out.keep hb)
    replace LG := hidden (LG.out.keep hb)
    replace R1 := hidden (R1.out.keep hb)
    replace P := hidden (P.out.keep hb)
    replace P1 := hidden (P1.out.keep hb)
    clear hb
    have P2 := hidden (hs)
    clear hs
    go_wp2_with fail
    with_reducible refine (IM.out _ _ _ _ P.out P1.out P2.out HK.out).mono ?_
    rintro e w25 ⟨ha, hb⟩
    rcases ha with ⟨ha, -⟩ | ⟨-, gc, dc, rfl, hg, ho⟩
    · exact absurd rfl ha
    have L_LG_LH := hidden (Nat.lt_of_lt_of_le LG.out.lt hg)
    replace D0 := hidden (D0.out.keep hb)
    replace B := hidden (keepB B.out hb)
    replace H := hidden (H.out.keep hb)
    replace H1 := hidden (H1.out.keep hb)
    replace H2 := hidden (H2.out.keep hb)
    replace LW := hidden (LW.out.keep hb)
    replace R0 := hidden (R0.out.keep hb)
    replace X := hidden (X.out.keep hb)
    replace LG := hidden (LG.out.keep hb)
    replace R1 := hidden (R1.out.keep hb)
    replace P := hidden (P.out.keep hb)
    replace P1 := hidden (P1.out.keep hb)
    replace P2 := hidden (P2.out.keep hb)
    have LH := hidden (ho)
    clear hb ho hg
    have L_LG_R2 := hidden (Nat.lt_of_lt_of_le LG.out.lt (Nat.le_refl _))
    have hb := alloc_below w25 (.cells #[.int .i64 0, .slice (some ⟨gc, 0, none⟩) V.length dc] 31)
    replace D0 := hidden (D0.out.keep hb)
    replace B := hidden (keepB B.out hb)
    replace H := hidden (H.out.keep hb)
    replace H1 := hidden (H1.out.keep hb)
    replace H2 := hidden (H2.out.keep hb)
    replace LW := hidden (LW.out.keep hb)
    replace R0 := hidden (R0.out.keep hb)
    replace X := hidden (X.out.keep hb)
    replace LG := hidden (LG.out.keep hb)
    replace R1 := hidden (R1.out.keep hb)
    replace P := hidden (P.out.keep hb)
    replace P1 := hidden (P1.out.keep hb)
    replace P2 := hidden (P2.out.keep hb)
    replace LH := hidden (LH.out.keep hb)
    clear hb
    have R2 := hidden (Two.new w25 (.int .i64 0) (.slice (some ⟨gc, 0, none⟩) V.length dc) 31)
    clear P P1 P2
    have r00 := R0.out.c0
    have r01 := R0.out.c1
    have r10 := R2.out.c0
    have r11 := R2.out.c1
    go_wp2_with fail
    with_reducible refine (eqBy_eq _ _ _ _ _ _ _ _ _ _ rfl _ LH.out LW.out HKK.out HV.out).mono ?_
    rintro e w26 ⟨rfl, hb⟩
    replace D0 := hidden (D0.out.keep hb)
    replace B := hidden (keepB B.out hb)
    replace H := hidden (H.out.keep hb)
    replace H1 := hidden (H1.out.keep hb)
    replace H2 := hidden (H2.out.keep hb)
    replace LW := hidden (LW.out.keep hb)
    replace R0 := hidden (R0.out.keep hb)
    replace X := hidden (X.out.keep hb)
    replace LG := hidden (LG.out.keep hb)
    replace R1 := hidden (R1.out.keep hb)
    replace LH := hidden (LH.out.keep hb)
    replace R2 := hidden (R2.out.keep hb)
    clear r00 r01 r10 r11 hb
    have r00 := R1.out.c0
    have r01 := R1.out.c1
    go_wp2_with fail
    with_reducible refine (heldBy_any _ _ gb _ db _ LG.out HKK.out).mono ?_
    rintro e w27 ⟨rfl, hb⟩
    replace D0 := hidden (D0.out.keep hb)
    replace B := hidden (keepB B.out hb)
    replace H := hidden (H.out.keep hb)
    replace H1 := hidden (H1.out.keep hb)
    replace H2 := hidden (H2.out.keep hb)
    replace LW := hidden (LW.out.keep hb)
    replace R0 := hidden (R0.out.keep hb)
    replace X := hidden (X.out.keep hb)
    replace LG := hidden (LG.out.keep hb)
    replace R1 := hidden (R1.out.keep hb)
    replace LH := hidden (LH.out.keep hb)
    replace R2 := hidden (R2.out.keep hb)
    clear r00 r01 hb
    go_wp2_with fail
    go_ret
    exact ⟨rfl, B.out⟩

set_option maxRecDepth 20000 in
set_option maxHeartbeats 12800000 in
theorem law_key_bad (p : Option Addr) (n c : Nat) (N : Nat → ByteArray) (A : Nat → Int) (p1 : Option Addr) (m1 c1 : Nat) (L1 : Nat → Int) (p2 : Option Addr) (m2 c2 : Nat) (L2 : Nat → Int) (C : Int) (V : List Int) (w : World) (h : SrcS w p n N A) (h1 : SrcI w p1 m1 L1) (hm1 : m1 ≤ 1048576) (h2 : SrcI w p2 m2 L2) (hm2 : m2 ≤ 1048576) (hc : C ≠ 0)
    (SP : Hid (∀ b b1 b2 w, Syms w b 0 n N A → Ints w b1 0 m1 L1 → Ints w b2 0 m2 L2 → Kept n N A → Calls Try.prog 25 #[.agg #[.slice (some ⟨b, 0, none⟩) n n], .slice (some ⟨b1, 0, none⟩) m1 m1, .slice (some ⟨b2, 0, none⟩) m2 m2] w fun e w' => BytAns w C V e w' ∧ Below w.heap.size w w'))
    (IM : Hid (∀ b b1 b2 w, Syms w b 0 n N A → Ints w b1 0 m1 L1 → Ints w b2 0 m2 L2 → Kept n N A → Calls Try.prog 24 #[.agg #[.slice (some ⟨b, 0, none⟩) n n], .slice (some ⟨b1, 0, none⟩) m1 m1, .slice (some ⟨b2, 0, none⟩) m2 m2] w fun e w' => BytAns w C V e w' ∧ Below w.heap.size w w')) :
    Calls Try.prog 8 #[.agg #[.slice p n c], .slice p1 m1 c1, .slice p2 m2 c2] w fun e w' => e = .returned (.bool true) ∧ Below w.heap.size w w' := by
  have Z := hidden h
  have Z1 := hidden h1
  have Z2 := hidden h2
  have HC := hidden hc
  clear hc
  have D0 := hidden (One.new w (.slice p n c) 60)
  have B := hidden (alloc_below w (.cells #[.slice p n c] 60))
  have H := hidden (Z.out.keep B.out)
  have H1 := hidden (Z1.out.keep B.out)
  have HM1 := hidden hm1
  have H2 := hidden (Z2.out.keep B.out)
  have HM2 := hidden hm2
  clear h h1 h2
  go_enter Try.func8, Try.ntmps8
  go_wp2_with fail
  with_reducible refine (szSignature_src p n c N A 1048576 _ H.out (by omega) (by omega)).mono ?_
  rintro e w1 ⟨⟨r1, rfl, hr⟩, hb⟩
  replace D0 := hidden (D0.out.keep hb)
  replace B := hidden (keepB B.out hb)
  replace H := hidden (H.out.keep hb)
  replace H1 := hidden (H1.out.keep hb)
  replace H2 := hidden (H2.out.keep hb)
  clear hb
  rcases hr with rfl | ⟨q0, q1, q2, q3⟩
  · go_wp2_with fail
    go_ret
    exact ⟨rfl, B.out⟩
  have HK := hidden (Kept.mk q2 q3 H.out.fits)
  clear q2 q3
  clear q1
  have d0 := D0.out.c0
  go_wp2_with fail
  with_reducible refine (toSig_new p n c N A _ H.out HK.out).mono ?_
  rintro e w2 ⟨g2, rfl, hg, hl, hs, hb⟩
  replace D0 := hidden (D0.out.keep hb)
  replace B := hidden (keepB B.out hb)
  replace H := hidden (H.out.keep hb)
  replace H1 := hidden (H1.out.keep hb)
  replace H2 := hidden (H2.out.keep hb)
  clear d0 hb hg hl
  have P := hidden (hs)
  clear hs
  go_wp2_with fail
  with_reducible refine (toInts_new p1 m1 c1 L1 _ H1.out HM1.out).mono ?_
  rintro e w3 ⟨g3, rfl, hs, hb⟩
  replace D0 := hidden (D0.out.keep hb)
  replace B := hidden (keepB B.out hb)
  replace H := hidden (H.out.keep hb)
  replace H1 := hidden (H1.out.keep hb)
  replace H2 := hidden (H2.out.keep hb)
  replace P := hidden (P.out.keep hb)
  clear hb
  have P1 := hidden (hs)
  clear hs
  go_wp2_with fail
  with_reducible refine (toInts_new p2 m2 c2 L2 _ H2.out HM2.out).mono ?_
  rintro e w4 ⟨g4, rfl, hs, hb⟩
  replace D0 := hidden (D0.out.keep hb)
  replace B := hidden (keepB B.out hb)
  replace H := hidden (H.out.keep hb)
  replace H1 := hidden (H1.out.keep hb)
  replace H2 := hidden (H2.out.keep hb)
  replace P := hidden (P.out.keep hb)
  replace P1 := hidden (P1.out.keep hb)
  clear hb
  have P2 := hidden (hs)
  clear hs
  go_wp2_with fail
  with_reducible refine (SP.out _ _ _ _ P.out P1.out P2.out HK.out).mono ?_
  rintro e w5 ⟨ha, hb⟩
  replace D0 := hidden (D0.out.keep hb)
  replace B := hidden (keepB B.out hb)
  replace H := hidden (H.out.keep hb)
  replace H1 := hidden (H1.out.keep hb)
  replace H2 := hidden (H2.out.keep hb)
  replace P := hidden (P.out.keep hb)
  replace P1 := hidden (P1.out.keep hb)
  replace P2 := hidden (P2.out.keep hb)
  clear hb
  rcases ha with ⟨-, rfl⟩ | ⟨ha, -⟩
  rotate_left
  · exact absurd ha HC.out
  have hb := alloc_below w5 (.cells #[.int .i64 C, .slice none 0 0] 31)
  replace D0 := hidden (D0.out.keep hb)
  replace B := hidden (keepB B.out hb)
  replace H := hidden (H.out.keep hb)
  replace H1 := hidden (H1.out.keep hb)
  replace H2 := hidden (H2.out.keep hb)
  replace P := hidden (P.out.keep hb)
  replace P1 := hidden (P1.out.keep hb)
  replace P2 := hidden (P2.out.keep hb)
  clear hb
  have R0 := hidden (Two.new w5 (.int .i64 C) (.slice none 0 0) 31)
  clear P P1 P2
  have d0 := D0.out.c0
  go_wp2_with fail
  have BSx := hidden B.out.size
  with_reducible refine (toSignature_src p n c N A _ H.out HK.out).mono ?_
  rintro e w6 ⟨gx, rfl, hgx, hs, hb⟩
  have L_D0_Q := hidden (Nat.lt_of_lt_of_le D0.out.blk hgx)
  have L_R0_Q := hidden (Nat.lt_of_lt_of_le R0.out.blk hgx)
  replace D0 := hidden (D0.out.keep hb)
  replace B := hidden (keepB B.out hb)
  replace H := hidden (H.out.keep hb)
  replace H1 := hidden (H1.out.keep hb)
  replace H2 := hidden (H2.out.keep hb)
  replace R0 := hidden (R0.out.keep hb)
  have Q := hidden (hs)
  clear d0 hb
  have GX := hidden (Nat.le_trans BSx.out hgx)
  clear hs hgx BSx
  have L_Q_X := hidden (Nat.lt_of_lt_of_le Q.out.lt (Nat.le_refl _))
  have hb := alloc_below w6 (.cells #[.slice (some ⟨gx, 0, none⟩) n n] 26)
  replace D0 := hidden (D0.out.keep hb)
  replace B := hidden (keepB B.out hb)
  replace H := hidden (H.out.keep hb)
  replace H1 := hidden (H1.out.keep hb)
  replace H2 := hidden (H2.out.keep hb)
  replace R0 := hidden (R0.out.keep hb)
  replace Q := hidden (Q.out.keep hb)
  clear hb
  have X := hidden (One.new w6 (.slice (some ⟨gx, 0, none⟩) n n) 26)
  have BSx := hidden B.out.size
  go_wp2_with fail
  with_reducible refine (toInts_src p1 m1 c1 L1 _ H1.out HM1.out).mono ?_
  rintro e w7 ⟨gy1, rfl, hgy, hs, hb⟩
  have L_D0_Q1 := hidden (Nat.lt_of_lt_of_le D0.out.blk hgy)
  have L_R0_Q1 := hidden (Nat.lt_of_lt_of_le R0.out.blk hgy)
  have L_Q_Q1 := hidden (Nat.lt_of_lt_of_le Q.out.lt hgy)
  have L_X_Q1 := hidden (Nat.lt_of_lt_of_le X.out.blk hgy)
  replace D0 := hidden (D0.out.keep hb)
  replace B := hidden (keepB B.out hb)
  replace H := hidden (H.out.keep hb)
  replace H1 := hidden (H1.out.keep hb)
  replace H2 := hidden (H2.out.keep hb)
  replace R0 := hidden (R0.out.keep hb)
  replace Q := hidden (Q.out.keep hb)
  replace X := hidden (X.out.keep hb)
  have Q1 := hidden (hs)
  clear hb
  have GY1 := hidden (Nat.le_trans BSx.out hgy)
  clear hs hgy BSx
  have BSx := hidden B.out.size
  go_wp2_with fail
  with_reducible refine (toInts_src p2 m2 c2 L2 _ H2.out HM2.out).mono ?_
  rintro e w8 ⟨gy2, rfl, hgy, hs, hb⟩
  have L_D0_Q2 := hidden (Nat.lt_of_lt_of_le D0.out.blk hgy)
  have L_R0_Q2 := hidden (Nat.lt_of_lt_of_le R0.out.blk hgy)
  have L_Q_Q2 := hidden (Nat.lt_of_lt_of_le Q.out.lt hgy)
  have L_X_Q2 := hidden (Nat.lt_of_lt_of_le X.out.blk hgy)
  have L_Q1_Q2 := hidden (Nat.lt_of_lt_of_le Q1.out.lt hgy)
  replace D0 := hidden (D0.out.keep hb)
  replace B := hidden (keepB B.out hb)
  replace H := hidden (H.out.keep hb)
  replace H1 := hidden (H1.out.keep hb)
  replace H2 := hidden (H2.out.keep hb)
  replace R0 := hidden (R0.out.keep hb)
  replace Q := hidden (Q.out.keep hb)
  replace X := hidden (X.out.keep hb)
  replace Q1 := hidden (Q1.out.keep hb)
  have Q2 := hidden (hs)
  clear hb
  have GY2 := hidden (Nat.le_trans BSx.out hgy)
  clear hs hgy BSx
  have x0 := X.out.c0
  go_wp2_with fail
  have BSx := hidden B.out.size
  with_reducible refine (IM.out _ _ _ _ (Q.out.syms HK.out.big HK.out.fits) Q1.out.ints Q2.out.ints HK.out).mono ?_
  rintro e w9 ⟨ha, hb⟩
  replace D0 := hidden (D0.out.keep hb)
  replace B := hidden (keepB B.out hb)
  replace H := hidden (H.out.keep hb)
  replace H1 := hidden (H1.out.keep hb)
  replace H2 := hidden (H2.out.keep hb)
  replace R0 := hidden (R0.out.keep hb)
  replace Q := hidden (Q.out.keep hb)
  replace X := hidden (X.out.keep hb)
  replace Q1 := hidden (Q1.out.keep hb)
  replace Q2 := hidden (Q2.out.keep hb)
  clear x0 hb
  rcases ha with ⟨-, rfl⟩ | ⟨ha, -⟩
  rotate_left
  · exact absurd ha HC.out
  have L_Q_R1 := hidden (Nat.lt_of_lt_of_le Q.out.lt (Nat.le_refl _))
  have L_Q1_R1 := hidden (Nat.lt_of_lt_of_le Q1.out.lt (Nat.le_refl _))
  have L_Q2_R1 := hidden (Nat.lt_of_lt_of_le Q2.out.lt (Nat.le_refl _))
  have hb := alloc_below w9 (.cells #[.int .i64 C, .slice none 0 0] 31)
  replace D0 := hidden (D0.out.keep hb)
  replace B := hidden (keepB B.out hb)
  replace H := hidden (H.out.keep hb)
  replace H1 := hidden (H1.out.keep hb)
  replace H2 := hidden (H2.out.keep hb)
  replace R0 := hidden (R0.out.keep hb)
  replace Q := hidden (Q.out.keep hb)
  replace X := hidden (X.out.keep hb)
  replace Q1 := hidden (Q1.out.keep hb)
  replace Q2 := hidden (Q2.out.keep hb)
  clear hb
  have R1 := hidden (Two.new w9 (.int .i64 C) (.slice none 0 0) 31)
  have r00 := R0.out.c0
  have r01 := R0.out.c1
  have r10 := R1.out.c0
  have r11 := R1.out.c1
  go_wp2_with fail
  with_reducible refine (Byt.eqBytes_none _ _).mono ?_
  rintro e w10 ⟨rfl, hb⟩
  replace D0 := hidden (D0.out.keep hb)
  replace B := hidden (keepB B.out hb)
  replace H := hidden (H.out.keep hb)
  replace H1 := hidden (H1.out.keep hb)
  replace H2 := hidden (H2.out.keep hb)
  replace R0 := hidden (R0.out.keep hb)
  replace Q := hidden (Q.out.keep hb)
  replace X := hidden (X.out.keep hb)
  replace Q1 := hidden (Q1.out.keep hb)
  replace Q2 := hidden (Q2.out.keep hb)
  replace R1 := hidden (R1.out.keep hb)
  clear r00 r01 r10 r11 hb
  have QS := hidden (Q.out.syms HK.out.big HK.out.fits)
  have S1 := hidden (show ∀ wc, Below w10.heap.size w10 wc → Calls Try.prog 38 #[.agg #[.slice p n c]] wc fun e w' => ∃ g, e = .returned (.agg #[.slice (some ⟨g, 0, none⟩) n n]) ∧ Below w10.heap.size w10 w' ∧ Syms w' g 0 n N A ∧ w'.cell? ⟨w6.heap.size, 0, none⟩ = some (.slice (some ⟨gx, 0, none⟩) n n) from fun wc hc => by
    refine (toSig_new p n c N A wc (H.out.keep hc) HK.out).mono ?_
    rintro e w' ⟨g, rfl, hg, hl, hs, hb⟩
    exact ⟨g, rfl, keepB hc hb, hs, (X.out.keep (keepB hc hb)).c0⟩)
  have S2 := hidden (show ∀ wc g, Below w10.heap.size w10 wc → Syms wc g 0 n N A → Calls Try.prog 41 #[.agg #[.slice (some ⟨gx, 0, none⟩) n n], .agg #[.slice (some ⟨g, 0, none⟩) n n]] wc fun e w' => e = .returned (.bool true) ∧ Below w10.heap.size w10 w' from fun wc g hc hm => by
    refine (eqSignature_eq gx 0 g 0 n n n N A wc (QS.out.keep hc) hm HK.out.most).mono ?_
    rintro e w' ⟨rfl, hb⟩
    exact ⟨rfl, keepB hc hb⟩)
  have x0 := X.out.c0
  have d0 := D0.out.c0
  go_wp2_with fail
  go_cut [53] (fun t wc => t = .bool false ∧ Below w10.heap.size w10 wc)
  case first =>
    go_region_with (first
      | (go_at_call 38; with_reducible refine (S1.out _ ?_).mono ?_; exact (Below.refl _ _).drew; rintro e v5 ⟨g5', rfl, b5', m5', d5'⟩)
      | (go_at_call 41; with_reducible refine (S2.out _ _ b5' m5').mono ?_; rintro e v6 ⟨rfl, b6'⟩))
    all_goals (go_wp2_with fail; go_meet)
    all_goals exact ⟨rfl, b6'⟩
  case rest =>
    rename World => w11
    obtain ⟨rfl, hb⟩ := hcut
    replace D0 := hidden (D0.out.keep hb)
    replace B := hidden (keepB B.out hb)
    replace H := hidden (H.out.keep hb)
    replace H1 := hidden (H1.out.keep hb)
    replace H2 := hidden (H2.out.keep hb)
    replace R0 := hidden (R0.out.keep hb)
    replace Q := hidden (Q.out.keep hb)
    replace X := hidden (X.out.keep hb)
    replace Q1 := hidden (Q1.out.keep hb)
    replace Q2 := hidden (Q2.out.keep hb)
    replace R1 := hidden (R1.out.keep hb)
    replace QS := hidden (QS.out.keep hb)
    clear x0 d0 hb S1 S2
    clear QS
    go_wp2_with fail
    with_reducible refine (toInts_new p1 m1 c1 L1 _ H1.out HM1.out).mono ?_
    rintro e w12 ⟨g12, rfl, hs, hb⟩
    replace D0 := hidden (D0.out.keep hb)
    replace B := hidden (keepB B.out hb)
    replace H := hidden (H.out.keep hb)
    replace H1 := hidden (H1.out.keep hb)
    replace H2 := hidden (H2.out.keep hb)
    replace R0 := hidden (R0.out.keep hb)
    replace Q := hidden (Q.out.keep hb)
    replace X := hidden (X.out.keep hb)
    replace Q1 := hidden (Q1.out.keep hb)
    replace Q2 := hidden (Q2.out.keep hb)
    replace R1 := hidden (R1.out.keep hb)
    clear hb
    have Q9 := hidden (hs)
    clear hs
    go_wp2_with fail
    with_reducible refine (eqInt64S_eq _ _ _ _ _ _ _ L1 _ Q1.out.ints Q9.out HM1.out).mono ?_
    rintro e w13 ⟨rfl, hb⟩
    replace D0 := hidden (D0.out.keep hb)
    replace B := hidden (keepB B.out hb)
    replace H := hidden (H.out.keep hb)
    replace H1 := hidden (H1.out.keep hb)
    replace H2 := hidden (H2.out.keep hb)
    replace R0 := hidden (R0.out.keep hb)
    replace Q := hidden (Q.out.keep hb)
    replace X := hidden (X.out.keep hb)
    replace Q1 := hidden (Q1.out.keep hb)
    replace Q2 := hidden (Q2.out.keep hb)
    replace R1 := hidden (R1.out.keep hb)
    replace Q9 := hidden (Q9.out.keep hb)
    clear hb
    clear Q9
    go_wp2_with fail
    with_reducible refine (toInts_new p2 m2 c2 L2 _ H2.out HM2.out).mono ?_
    rintro e w14 ⟨g14, rfl, hs, hb⟩
    replace D0 := hidden (D0.out.keep hb)
    replace B := hidden (keepB B.out hb)
    replace H := hidden (H.out.keep hb)
    replace H1 := hidden (H1.out.keep hb)
    replace H2 := hidden (H2.out.keep hb)
    replace R0 := hidden (R0.out.keep hb)
    replace Q := hidden (Q.out.keep hb)
    replace X := hidden (X.out.keep hb)
    replace Q1 := hidden (Q1.out.keep hb)
    replace Q2 := hidden (Q2.out.keep hb)
    replace R1 := hidden (R1.out.keep hb)
    clear hb
    have Q9 := hidden (hs)
    clear hs
    go_wp2_with fail
    with_reducible refine (eqInt64S_eq _ _ _ _ _ _ _ L2 _ Q2.out.ints Q9.out HM2.out).mono ?_
    rintro e w15 ⟨rfl, hb⟩
    replace D0 := hidden (D0.out.keep hb)
    replace B := hidden (keepB B.out hb)
    replace H := hidden (H.out.keep hb)
    replace H1 := hidden (H1.out.keep hb)
    replace H2 := hidden (H2.out.keep hb)
    replace R0 := hidden (R0.out.keep hb)
    replace Q := hidden (Q.out.keep hb)
    replace X := hidden (X.out.keep hb)
    replace Q1 := hidden (Q1.out.keep hb)
    replace Q2 := hidden (Q2.out.keep hb)
    replace R1 := hidden (R1.out.keep hb)
    replace Q9 := hidden (Q9.out.keep hb)
    clear hb
    clear Q9
    have x0 := X.out.c0
    go_wp2_with fail
    with_reducible refine (markSignature_z _ gx n n 1 N A _ Q.out HK.out.most (by omega) (by omega)).mono ?_
    rintro e w16 ⟨rfl, -, hg⟩
    replace B := hidden (grownB B.out hg GX.out)
    replace D0 := hidden (D0.out.grown hg (Nat.ne_of_lt L_D0_Q.out))
    replace H := hidden (Z.out.keep B.out)
    replace H1 := hidden (Z1.out.keep B.out)
    replace H2 := hidden (Z2.out.keep B.out)
    replace R0 := hidden (R0.out.grown hg (Nat.ne_of_lt L_R0_Q.out))
    replace X := hidden (X.out.grown hg (Nat.ne_of_gt L_Q_X.out))
    replace Q1 := hidden (Q1.out.grown hg (Nat.ne_of_gt L_Q_Q1.out))
    replace Q2 := hidden (Q2.out.grown hg (Nat.ne_of_gt L_Q_Q2.out))
    replace R1 := hidden (R1.out.grown hg (Nat.ne_of_gt L_Q_R1.out))
    clear Q
    clear x0 hg
    have HN1 := HK.out.most
    go_wp2_with fail
    have HMx1 := HM1.out
    with_reducible refine (markInt64S_z _ gy1 m1 m1 (1 + 2 * n) L1 _ Q1.out HM1.out (by omega) (by omega)).mono ?_
    rintro e w17 ⟨rfl, -, hg⟩
    replace B := hidden (grownB B.out hg GY1.out)
    replace D0 := hidden (D0.out.grown hg (Nat.ne_of_lt L_D0_Q1.out))
    replace H := hidden (Z.out.keep B.out)
    replace H1 := hidden (Z1.out.keep B.out)
    replace H2 := hidden (Z2.out.keep B.out)
    replace R0 := hidden (R0.out.grown hg (Nat.ne_of_lt L_R0_Q1.out))
    replace X := hidden (X.out.grown hg (Nat.ne_of_lt L_X_Q1.out))
    replace Q2 := hidden (Q2.out.grown hg (Nat.ne_of_gt L_Q1_Q2.out))
    replace R1 := hidden (R1.out.grown hg (Nat.ne_of_gt L_Q1_R1.out))
    clear Q1
    clear hg
    go_wp2_with fail
    have HMx2 := HM2.out
    with_reducible refine (markInt64S_z _ gy2 m2 m2 (1 + 2 * n + m1) L2 _ Q2.out HM2.out (by omega) (by omega)).mono ?_
    rintro e w18 ⟨rfl, -, hg⟩
    replace B := hidden (grownB B.out hg GY2.out)
    replace D0 := hidden (D0.out.grown hg (Nat.ne_of_lt L_D0_Q2.out))
    replace H := hidden (Z.out.keep B.out)
    replace H1 := hidden (Z1.out.keep B.out)
    replace H2 := hidden (Z2.out.keep B.out)
    replace R0 := hidden (R0.out.grown hg (Nat.ne_of_lt L_R0_Q2.out))
    replace X := hidden (X.out.grown hg (Nat.ne_of_lt L_X_Q2.out))
    replace R1 := hidden (R1.out.grown hg (Nat.ne_of_gt L_Q2_R1.out))
    clear Q2
    clear hg
    have r00 := R0.out.c0
    have r01 := R0.out.c1
    have r10 := R1.out.c0
    have r11 := R1.out.c1
    have hkk : decide (((1 : Int) + 2 * n + m1 + m2) < 0) = false := by simp; omega
    go_wp2_with fail
    with_reducible refine (Byt.eqBytes_none _ _).mono ?_
    rintro e w19 ⟨rfl, hb⟩
    replace D0 := hidden (D0.out.keep hb)
    replace B := hidden (keepB B.out hb)
    replace H := hidden (H.out.keep hb)
    replace H1 := hidden (H1.out.keep hb)
    replace H2 := hidden (H2.out.keep hb)
    replace R0 := hidden (R0.out.keep hb)
    replace X := hidden (X.out.keep hb)
    replace R1 := hidden (R1.out.keep hb)
    clear r00 r01 r10 r11 hb
    have r00 := R1.out.c0
    have r01 := R1.out.c1
    go_wp2_with fail
    with_reducible refine (Byt.markBytes_none _ 1 _).mono ?_
    rintro e w20 ⟨rfl, hb⟩
    replace D0 := hidden (D0.out.keep hb)
    replace B := hidden (keepB B.out hb)
    replace H := hidden (H.out.keep hb)
    replace H1 := hidden (H1.out.keep hb)
    replace H2 := hidden (H2.out.keep hb)
    replace R0 := hidden (R0.out.keep hb)
    replace X := hidden (X.out.keep hb)
    replace R1 := hidden (R1.out.keep hb)
    clear r00 r01 hb
    have r00 := R1.out.c0
    have r01 := R1.out.c1
    go_wp2_with fail
    with_reducible refine (Byt.heldBytes_none _ 1 (by omega) _).mono ?_
    rintro e w21 ⟨rfl, hb⟩
    replace D0 := hidden (D0.out.keep hb)
    replace B := hidden (keepB B.out hb)
    replace H := hidden (H.out.keep hb)
    replace H1 := hidden (H1.out.keep hb)
    replace H2 := hidden (H2.out.keep hb)
    replace R0 := hidden (R0.out.keep hb)
    replace X := hidden (X.out.keep hb)
    replace R1 := hidden (R1.out.keep hb)
    clear r00 r01 hb
    have d0 := D0.out.c0
    go_wp2_with fail
    with_reducible refine (toSig_new p n c N A _ H.out HK.out).mono ?_
    rintro e w22 ⟨g22, rfl, hg, hl, hs, hb⟩
    replace D0 := hidden (D0.out.keep hb)
    replace B := hidden (keepB B.out hb)
    replace H := hidden (H.out.keep hb)
    replace H1 := hidden (H1.out.keep hb)
    replace H2 := hidden (H2.out.keep hb)
    replace R0 := hidden (R0.out.keep hb)
    replace X := hidden (X.out.keep hb)
    replace R1 := hidden (R1.out.keep hb)
    clear d0 hb hg hl
    have P := hidden (hs)
    clear hs
    go_wp2_with fail
    with_reducible refine (toInts_new p1 m1 c1 L1 _ H1.out HM1.out).mono ?_
    rintro e w23 ⟨g23, rfl, hs, hb⟩
    replace D0 := hidden (D0.out.keep hb)
    replace B := hidden (keepB B.out hb)
    replace H := hidden (H.out.keep hb)
    replace H1 := hidden (H1.out.keep hb)
    replace H2 := hidden (H2.out.keep hb)
    replace R0 := hidden (R0.out.keep hb)
    replace X := hidden (X.out.keep hb)
    replace R1 := hidden (R1.out.keep hb)
    replace P := hidden (P.out.keep hb)
    clear hb
    have P1 := hidden (hs)
    clear hs
    go_wp2_with fail
    with_reducible refine (toInts_new p2 m2 c2 L2 _ H2.out HM2.out).mono ?_
    rintro e w24 ⟨g24, rfl, hs, hb⟩
    replace D0 := hidden (D0.out.keep hb)
    replace B := hidden (keepB B.out hb)
    replace H := hidden (H.out.keep hb)
    replace H1 := hidden (H1.out.keep hb)
    replace H2 := hidden (H2.out.keep hb)
    replace R0 := hidden (R0.out.keep hb)
    replace X := hidden (X.out.keep hb)
    replace R1 := hidden (R1.out.keep hb)
    replace P := hidden (P.out.keep hb)
    replace P1 := hidden (P1.out.keep hb)
    clear hb
    have P2 := hidden (hs)
    clear hs
    go_wp2_with fail
    with_reducible refine (IM.out _ _ _ _ P.out P1.out P2.out HK.out).mono ?_
    rintro e w25 ⟨ha, hb⟩
    replace D0 := hidden (D0.out.keep hb)
    replace B := hidden (keepB B.out hb)
    replace H := hidden (H.out.keep hb)
    replace H1 := hidden (H1.out.keep hb)
    replace H2 := hidden (H2.out.keep hb)
    replace R0 := hidden (R0.out.keep hb)
    replace X := hidden (X.out.keep hb)
    replace R1 := hidden (R1.out.keep hb)
    replace P := hidden (P.out.keep hb)
    replace P1 := hidden (P1.out.keep hb)
    replace P2 := hidden (P2.out.keep hb)
    clear hb
    rcases ha with ⟨-, rfl⟩ | ⟨ha, -⟩
    rotate_left
    · exact absurd ha HC.out
    have hb := alloc_below w25 (.cells #[.int .i64 C, .slice none 0 0] 31)
    replace D0 := hidden (D0.out.keep hb)
    replace B := hidden (keepB B.out hb)
    replace H := hidden (H.out.keep hb)
    replace H1 := hidden (H1.out.keep hb)
    replace H2 := hidden (H2.out.keep hb)
    replace R0 := hidden (R0.out.keep hb)
    replace X := hidden (X.out.keep hb)
    replace R1 := hidden (R1.out.keep hb)
    replace P := hidden (P.out.keep hb)
    replace P1 := hidden (P1.out.keep hb)
    replace P2 := hidden (P2.out.keep hb)
    clear hb
    have R2 := hidden (Two.new w25 (.int .i64 C) (.slice none 0 0) 31)
    clear P P1 P2
    have r00 := R0.out.c0
    have r01 := R0.out.c1
    have r10 := R2.out.c0
    have r11 := R2.out.c1
    go_wp2_with fail
    with_reducible refine (Byt.eqBytes_none _ _).mono ?_
    rintro e w26 ⟨rfl, hb⟩
    replace D0 := hidden (D0.out.keep hb)
    replace B := hidden (keepB B.out hb)
    replace H := hidden (H.out.keep hb)
    replace H1 := hidden (H1.out.keep hb)
    replace H2 := hidden (H2.out.keep hb)
    replace R0 := hidden (R0.out.keep hb)
    replace X := hidden (X.out.keep hb)
    replace R1 := hidden (R1.out.keep hb)
    replace R2 := hidden (R2.out.keep hb)
    clear r00 r01 r10 r11 hb
    have r00 := R1.out.c0
    have r01 := R1.out.c1
    go_wp2_with fail
    with_reducible refine (Byt.heldBytes_none _ 1 (by omega) _).mono ?_
    rintro e w27 ⟨rfl, hb⟩
    replace D0 := hidden (D0.out.keep hb)
    replace B := hidden (keepB B.out hb)
    replace H := hidden (H.out.keep hb)
    replace H1 := hidden (H1.out.keep hb)
    replace H2 := hidden (H2.out.keep hb)
    replace R0 := hidden (R0.out.keep hb)
    replace X := hidden (X.out.keep hb)
    replace R1 := hidden (R1.out.keep hb)
    replace R2 := hidden (R2.out.keep hb)
    clear r00 r01 hb
    go_wp2_with fail
    go_ret
    exact ⟨rfl, B.out⟩

set_option maxRecDepth 20000 in
set_option maxHeartbeats 400000 in
theorem law_key_big1 (p : Option Addr) (n c : Nat) (p1 : Option Addr) (m1 c1 : Nat) (p2 : Option Addr) (m2 c2 : Nat) (w : World) (hm : ¬ m1 ≤ 1048576) :
    Calls Try.prog 8 #[.agg #[.slice p n c], .slice p1 m1 c1, .slice p2 m2 c2] w fun e w' => e = .returned (.bool true) ∧ Below w.heap.size w w' := by
  have h : (1048576 : Int) < m1 := by omega
  go_enter Try.func8, Try.ntmps8
  go_wp2
  go_ret
  exact ⟨rfl, alloc_below _ _⟩

set_option maxRecDepth 20000 in
set_option maxHeartbeats 400000 in
theorem law_key_big2 (p : Option Addr) (n c : Nat) (p1 : Option Addr) (m1 c1 : Nat) (p2 : Option Addr) (m2 c2 : Nat) (w : World) (hm1 : m1 ≤ 1048576) (hm : ¬ m2 ≤ 1048576) :
    Calls Try.prog 8 #[.agg #[.slice p n c], .slice p1 m1 c1, .slice p2 m2 c2] w fun e w' => e = .returned (.bool true) ∧ Below w.heap.size w w' := by
  have h : (1048576 : Int) < m2 := by omega
  have h1 : ¬ (1048576 : Int) < m1 := by omega
  go_enter Try.func8, Try.ntmps8
  go_wp2
  go_ret
  exact ⟨rfl, alloc_below _ _⟩

theorem law_key_all (p : Option Addr) (n c : Nat) (N : Nat → ByteArray) (A : Nat → Int) (p1 : Option Addr) (m1 c1 : Nat) (L1 : Nat → Int) (p2 : Option Addr) (m2 c2 : Nat) (L2 : Nat → Int) (w : World) (h : SrcS w p n N A) (h1 : SrcI w p1 m1 L1) (h2 : SrcI w p2 m2 L2) :
    Calls Try.prog 8 #[.agg #[.slice p n c], .slice p1 m1 c1, .slice p2 m2 c2] w fun e w' => e = .returned (.bool true) ∧ Below w.heap.size w w' := by
  by_cases hm1 : m1 ≤ 1048576
  · by_cases hm2 : m2 ≤ 1048576
    · have SP := hidden (fun b b1 b2 w h h1 h2 hk => specKey_any b 0 n n b1 0 m1 m1 b2 0 m2 m2 N A L1 L2 w h h1 h2 hk hm1 hm2)
      have IM := hidden (fun b b1 b2 w h h1 h2 hk => implKey_any b 0 n n b1 0 m1 m1 b2 0 m2 m2 N A L1 L2 w h h1 h2 hk hm1 hm2)
      by_cases hc : keyC n N A m1 L1 m2 L2 = 0
      · obtain ⟨k1, k2, _⟩ := key_right hc
        refine law_key_ok p n c N A p1 m1 c1 L1 p2 m2 c2 L2 _ _ w h h1 hm1 h2 hm2 hc ?_ ?_ SP IM
        · rw [keyV_len]; have := (term_right k1).nods.most; have := (term_right k2).nods.most; omega
        · intro x hx
          rcases List.mem_append.1 hx with hx | hx
          · exact packT_byt m1 (term_right k1).nods.rng x hx
          · exact packT_byt m2 (term_right k2).nods.rng x hx
      · exact law_key_bad p n c N A p1 m1 c1 L1 p2 m2 c2 L2 _ _ w h h1 hm1 h2 hm2 hc SP IM
    · exact law_key_big2 p n c p1 m1 c1 p2 m2 c2 w hm1 hm2
  · exact law_key_big1 p n c p1 m1 c1 p2 m2 c2 w hm1

end Go.Proofs.Ytafhlkbjjjlkjaa
