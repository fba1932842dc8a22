/- Law FnExactUnifyTerms: at every signature and two terms the program's UnifyTerms answers as the model's; its answer owns its memory. -/
import Derived.Test.YtenlogljpgdbpaaND
import Derived.Test.YtenlogljpgdbpaaMB
namespace Go.Proofs.Ytenlogljpgdbpaa
open Go.RowKit
set_option maxRecDepth 20000 in
set_option maxHeartbeats 12800000 in
theorem law_ut_ok (p : Option Addr) (n c : Nat) (N : Nat → ByteArray) (A : Nat → Int) (p1 : Option Addr) (m1 c1 : Nat) (L1 : Nat → Int) (p2 : Option Addr) (m2 c2 : Nat) (L2 : Nat → Int) (C : Int) (M : Nat → List Int) (w : World) (h : SrcS w p n N A) (h1 : SrcI w p1 m1 L1) (hm1 : m1 ≤ 1048576) (h2 : SrcI w p2 m2 L2) (hm2 : m2 ≤ 1048576) (hpos : C = 0 ∧ 0 < cR M) (hkb : KeptM (cR M) (cnD M 12)) (hsb : (1 : Int) + cR M + sumM (cnD M 12) (cR M) ≤ 1099511627776)
    (SP : Hid (∀ b b1 b2 w, Syms w b 0 n N A → Ints w b1 0 m1 L1 → Ints w b2 0 m2 L2 → Kept n N A → Calls Try.prog 18 #[.agg #[.slice (some ⟨b, 0, none⟩) n n], .slice (some ⟨b1, 0, none⟩) m1 m1, .slice (some ⟨b2, 0, none⟩) m2 m2] w fun e w' => BnAns w C M e w' ∧ Below w.heap.size w w'))
    (IM : Hid (∀ b b1 b2 w, Syms w b 0 n N A → Ints w b1 0 m1 L1 → Ints w b2 0 m2 L2 → Kept n N A → Calls Try.prog 19 #[.agg #[.slice (some ⟨b, 0, none⟩) n n], .slice (some ⟨b1, 0, none⟩) m1 m1, .slice (some ⟨b2, 0, none⟩) m2 m2] w fun e w' => BnAns w C M e w' ∧ Below w.heap.size w w')) :
    Calls Try.prog 4 #[.agg #[.slice p n c], .slice p1 m1 c1, .slice p2 m2 c2] w fun e w' => e = .returned (.bool true) ∧ Below w.heap.size w w' := by
  have Z := hidden h
  have Z1 := hidden h1
  have Z2 := hidden h2
  have HC0 := hidden hpos
  have HKB := hidden hkb
  have HSB := hidden hsb
  have HR12 := hidden (cR_le M)
  clear hpos hkb hsb
  have D0 := hidden (One.new w (.slice p n c) 24)
  have B := hidden (alloc_below w (.cells #[.slice p n c] 24))
  have H := hidden (Z.out.keep B.out)
  have H1 := hidden (Z1.out.keep B.out)
  have HM1 := hidden hm1
  have H2 := hidden (Z2.out.keep B.out)
  have HM2 := hidden hm2
  clear h h1 h2
  go_enter Try.func4, Try.ntmps4
  go_wp2_with fail
  with_reducible refine (szSignature_src p n c N A 1048576 _ H.out (by omega) (by omega)).mono ?_
  rintro e w1 ⟨⟨r1, rfl, hr⟩, hb⟩
  replace D0 := hidden (D0.out.keep hb)
  replace B := hidden (keepB B.out hb)
  replace H := hidden (H.out.keep hb)
  replace H1 := hidden (H1.out.keep hb)
  replace H2 := hidden (H2.out.keep hb)
  clear hb
  rcases hr with rfl | ⟨q0, q1, q2, q3⟩
  · go_wp2_with fail
    go_ret
    exact ⟨rfl, B.out⟩
  have HK := hidden (Kept.mk q2 q3 H.out.fits)
  clear q2 q3
  clear q1
  have d0 := D0.out.c0
  go_wp2_with fail
  with_reducible refine (toSig_new p n c N A _ H.out HK.out).mono ?_
  rintro e w2 ⟨g2, rfl, hg, hl, hs, hb⟩
  replace D0 := hidden (D0.out.keep hb)
  replace B := hidden (keepB B.out hb)
  replace H := hidden (H.out.keep hb)
  replace H1 := hidden (H1.out.keep hb)
  replace H2 := hidden (H2.out.keep hb)
  clear d0 hb hg hl
  have P := hidden (hs)
  clear hs
  go_wp2_with fail
  with_reducible refine (toInts_new p1 m1 c1 L1 _ H1.out HM1.out).mono ?_
  rintro e w3 ⟨g3, rfl, hs, hb⟩
  replace D0 := hidden (D0.out.keep hb)
  replace B := hidden (keepB B.out hb)
  replace H := hidden (H.out.keep hb)
  replace H1 := hidden (H1.out.keep hb)
  replace H2 := hidden (H2.out.keep hb)
  replace P := hidden (P.out.keep hb)
  clear hb
  have P1 := hidden (hs)
  clear hs
  go_wp2_with fail
  with_reducible refine (toInts_new p2 m2 c2 L2 _ H2.out HM2.out).mono ?_
  rintro e w4 ⟨g4, rfl, hs, hb⟩
  replace D0 := hidden (D0.out.keep hb)
  replace B := hidden (keepB B.out hb)
  replace H := hidden (H.out.keep hb)
  replace H1 := hidden (H1.out.keep hb)
  replace H2 := hidden (H2.out.keep hb)
  replace P := hidden (P.out.keep hb)
  replace P1 := hidden (P1.out.keep hb)
  clear hb
  have P2 := hidden (hs)
  clear hs
  go_wp2_with fail
  with_reducible refine (SP.out _ _ _ _ P.out P1.out P2.out HK.out).mono ?_
  rintro e w5 ⟨ha, hb⟩
  rcases ha with ⟨ha, -⟩ | ⟨-, -, loa, ga1, da1, ga2, da2, rfl, hlo, ho⟩
  · exact absurd ha (by have h1 := HC0.out.1; have h2 := HC0.out.2; intro h; rcases h with h | h; exact h h1; omega)
  have L_D0_LW := hidden (Nat.lt_of_lt_of_le D0.out.blk hlo)
  replace D0 := hidden (D0.out.keep hb)
  replace B := hidden (keepB B.out hb)
  replace H := hidden (H.out.keep hb)
  replace H1 := hidden (H1.out.keep hb)
  replace H2 := hidden (H2.out.keep hb)
  replace P := hidden (P.out.keep hb)
  replace P1 := hidden (P1.out.keep hb)
  replace P2 := hidden (P2.out.keep hb)
  have LW := hidden (ho)
  clear hb ho hlo
  have L_LW_R0 := hidden (Nat.le_trans LW.out.top (Nat.le_refl _))
  have hb := alloc_below w5 (.cells #[.int .i64 0, .slice (some ⟨ga1, 0, none⟩) (cR M) da1, .slice (some ⟨ga2, 0, none⟩) (cR M) da2] 31)
  replace D0 := hidden (D0.out.keep hb)
  replace B := hidden (keepB B.out hb)
  replace H := hidden (H.out.keep hb)
  replace H1 := hidden (H1.out.keep hb)
  replace H2 := hidden (H2.out.keep hb)
  replace P := hidden (P.out.keep hb)
  replace P1 := hidden (P1.out.keep hb)
  replace P2 := hidden (P2.out.keep hb)
  replace LW := hidden (LW.out.keep hb)
  clear hb
  have R0 := hidden (Three.new w5 (.int .i64 0) (.slice (some ⟨ga1, 0, none⟩) (cR M) da1) (.slice (some ⟨ga2, 0, none⟩) (cR M) da2) 31)
  clear P P1 P2
  have d0 := D0.out.c0
  go_wp2_with fail
  have BSx := hidden B.out.size
  with_reducible refine (toSignature_src p n c N A _ H.out HK.out).mono ?_
  rintro e w6 ⟨gx, rfl, hgx, hs, hb⟩
  have L_D0_Q := hidden (Nat.lt_of_lt_of_le D0.out.blk hgx)
  have L_LW_Q := hidden (Nat.le_trans LW.out.top hgx)
  have L_R0_Q := hidden (Nat.lt_of_lt_of_le R0.out.blk hgx)
  replace D0 := hidden (D0.out.keep hb)
  replace B := hidden (keepB B.out hb)
  replace H := hidden (H.out.keep hb)
  replace H1 := hidden (H1.out.keep hb)
  replace H2 := hidden (H2.out.keep hb)
  replace LW := hidden (LW.out.keep hb)
  replace R0 := hidden (R0.out.keep hb)
  have Q := hidden (hs)
  clear d0 hb
  have GX := hidden (Nat.le_trans BSx.out hgx)
  clear hs hgx BSx
  have L_LW_X := hidden (Nat.le_trans LW.out.top (Nat.le_refl _))
  have L_Q_X := hidden (Nat.lt_of_lt_of_le Q.out.lt (Nat.le_refl _))
  have hb := alloc_below w6 (.cells #[.slice (some ⟨gx, 0, none⟩) n n] 35)
  replace D0 := hidden (D0.out.keep hb)
  replace B := hidden (keepB B.out hb)
  replace H := hidden (H.out.keep hb)
  replace H1 := hidden (H1.out.keep hb)
  replace H2 := hidden (H2.out.keep hb)
  replace LW := hidden (LW.out.keep hb)
  replace R0 := hidden (R0.out.keep hb)
  replace Q := hidden (Q.out.keep hb)
  clear hb
  have X := hidden (One.new w6 (.slice (some ⟨gx, 0, none⟩) n n) 35)
  have BSx := hidden B.out.size
  go_wp2_with fail
  with_reducible refine (toInts_src p1 m1 c1 L1 _ H1.out HM1.out).mono ?_
  rintro e w7 ⟨gy1, rfl, hgy, hs, hb⟩
  have L_D0_Q1 := hidden (Nat.lt_of_lt_of_le D0.out.blk hgy)
  have L_LW_Q1 := hidden (Nat.le_trans LW.out.top hgy)
  have L_R0_Q1 := hidden (Nat.lt_of_lt_of_le R0.out.blk hgy)
  have L_Q_Q1 := hidden (Nat.lt_of_lt_of_le Q.out.lt hgy)
  have L_X_Q1 := hidden (Nat.lt_of_lt_of_le X.out.blk hgy)
  replace D0 := hidden (D0.out.keep hb)
  replace B := hidden (keepB B.out hb)
  replace H := hidden (H.out.keep hb)
  replace H1 := hidden (H1.out.keep hb)
  replace H2 := hidden (H2.out.keep hb)
  replace LW := hidden (LW.out.keep hb)
  replace R0 := hidden (R0.out.keep hb)
  replace Q := hidden (Q.out.keep hb)
  replace X := hidden (X.out.keep hb)
  have Q1 := hidden (hs)
  clear hb
  have GY1 := hidden (Nat.le_trans BSx.out hgy)
  clear hs hgy BSx
  have BSx := hidden B.out.size
  go_wp2_with fail
  with_reducible refine (toInts_src p2 m2 c2 L2 _ H2.out HM2.out).mono ?_
  rintro e w8 ⟨gy2, rfl, hgy, hs, hb⟩
  have L_D0_Q2 := hidden (Nat.lt_of_lt_of_le D0.out.blk hgy)
  have L_LW_Q2 := hidden (Nat.le_trans LW.out.top hgy)
  have L_R0_Q2 := hidden (Nat.lt_of_lt_of_le R0.out.blk hgy)
  have L_Q_Q2 := hidden (Nat.lt_of_lt_of_le Q.out.lt hgy)
  have L_X_Q2 := hidden (Nat.lt_of_lt_of_le X.out.blk hgy)
  have L_Q1_Q2 := hidden (Nat.lt_of_lt_of_le Q1.out.lt hgy)
  replace D0 := hidden (D0.out.keep hb)
  replace B := hidden (keepB B.out hb)
  replace H := hidden (H.out.keep hb)
  replace H1 := hidden (H1.out.keep hb)
  replace H2 := hidden (H2.out.keep hb)
  replace LW := hidden (LW.out.keep hb)
  replace R0 := hidden (R0.out.keep hb)
  replace Q := hidden (Q.out.keep hb)
  replace X := hidden (X.out.keep hb)
  replace Q1 := hidden (Q1.out.keep hb)
  have Q2 := hidden (hs)
  clear hb
  have GY2 := hidden (Nat.le_trans BSx.out hgy)
  clear hs hgy BSx
  have x0 := X.out.c0
  go_wp2_with fail
  have BSx := hidden B.out.size
  with_reducible refine (IM.out _ _ _ _ (Q.out.syms HK.out.big HK.out.fits) Q1.out.ints Q2.out.ints HK.out).mono ?_
  rintro e w9 ⟨ha, hb⟩
  rcases ha with ⟨ha, -⟩ | ⟨-, -, lob, gb1, db1, gb2, db2, rfl, hlo, ho⟩
  · exact absurd ha (by have h1 := HC0.out.1; have h2 := HC0.out.2; intro h; rcases h with h | h; exact h h1; omega)
  have L_D0_LG := hidden (Nat.lt_of_lt_of_le D0.out.blk hlo)
  have L_LW_LG := hidden (Nat.le_trans LW.out.top hlo)
  have L_R0_LG := hidden (Nat.lt_of_lt_of_le R0.out.blk hlo)
  have L_Q_LG := hidden (Nat.lt_of_lt_of_le Q.out.lt hlo)
  have L_X_LG := hidden (Nat.lt_of_lt_of_le X.out.blk hlo)
  have L_Q1_LG := hidden (Nat.lt_of_lt_of_le Q1.out.lt hlo)
  have L_Q2_LG := hidden (Nat.lt_of_lt_of_le Q2.out.lt hlo)
  have GBx := hidden hlo
  replace D0 := hidden (D0.out.keep hb)
  replace B := hidden (keepB B.out hb)
  replace H := hidden (H.out.keep hb)
  replace H1 := hidden (H1.out.keep hb)
  replace H2 := hidden (H2.out.keep hb)
  replace LW := hidden (LW.out.keep hb)
  replace R0 := hidden (R0.out.keep hb)
  replace Q := hidden (Q.out.keep hb)
  replace X := hidden (X.out.keep hb)
  replace Q1 := hidden (Q1.out.keep hb)
  replace Q2 := hidden (Q2.out.keep hb)
  have LG := hidden (ho)
  clear x0 hb ho hlo
  have L_LW_R1 := hidden (Nat.le_trans LW.out.top (Nat.le_refl _))
  have L_Q_R1 := hidden (Nat.lt_of_lt_of_le Q.out.lt (Nat.le_refl _))
  have L_Q1_R1 := hidden (Nat.lt_of_lt_of_le Q1.out.lt (Nat.le_refl _))
  have L_Q2_R1 := hidden (Nat.lt_of_lt_of_le Q2.out.lt (Nat.le_refl _))
  have L_LG_R1 := hidden (Nat.le_trans LG.out.top (Nat.le_refl _))
  have hb := alloc_below w9 (.cells #[.int .i64 0, .slice (some ⟨gb1, 0, none⟩) (cR M) db1, .slice (some ⟨gb2, 0, none⟩) (cR M) db2] 31)
  replace D0 := hidden (D0.out.keep hb)
  replace B := hidden (keepB B.out hb)
  replace H := hidden (H.out.keep hb)
  replace H1 := hidden (H1.out.keep hb)
  replace H2 := hidden (H2.out.keep hb)
  replace LW := hidden (LW.out.keep hb)
  replace R0 := hidden (R0.out.keep hb)
  replace Q := hidden (Q.out.keep hb)
  replace X := hidden (X.out.keep hb)
  replace Q1 := hidden (Q1.out.keep hb)
  replace Q2 := hidden (Q2.out.keep hb)
  replace LG := hidden (LG.out.keep hb)
  clear hb
  have R1 := hidden (Three.new w9 (.int .i64 0) (.slice (some ⟨gb1, 0, none⟩) (cR M) db1) (.slice (some ⟨gb2, 0, none⟩) (cR M) db2) 31)
  have r00 := R0.out.c0
  have r01 := R0.out.c1
  have r02 := R0.out.c2
  have r10 := R1.out.c0
  have r11 := R1.out.c1
  have r12 := R1.out.c2
  go_wp2_with fail
  with_reducible refine (eqBdR_eq _ _ _ _ _ _ _ _ _ _ _ (cV M) (cnD M 12) _ LG.out.vars.ints LG.out.terms.mats LW.out.vars.ints LW.out.terms.mats (by have := HR12.out; omega) HKB.out).mono ?_
  rintro e w10 ⟨rfl, hb⟩
  replace D0 := hidden (D0.out.keep hb)
  replace B := hidden (keepB B.out hb)
  replace H := hidden (H.out.keep hb)
  replace H1 := hidden (H1.out.keep hb)
  replace H2 := hidden (H2.out.keep hb)
  replace LW := hidden (LW.out.keep hb)
  replace R0 := hidden (R0.out.keep hb)
  replace Q := hidden (Q.out.keep hb)
  replace X := hidden (X.out.keep hb)
  replace Q1 := hidden (Q1.out.keep hb)
  replace Q2 := hidden (Q2.out.keep hb)
  replace LG := hidden (LG.out.keep hb)
  replace R1 := hidden (R1.out.keep hb)
  clear r00 r01 r02 r10 r11 r12 hb
  have QS := hidden (Q.out.syms HK.out.big HK.out.fits)
  have S1 := hidden (show ∀ wc, Below w10.heap.size w10 wc → Calls Try.prog 8 #[.agg #[.slice p n c]] wc fun e w' => ∃ g, e = .returned (.agg #[.slice (some ⟨g, 0, none⟩) n n]) ∧ Below w10.heap.size w10 w' ∧ Syms w' g 0 n N A ∧ w'.cell? ⟨w6.heap.size, 0, none⟩ = some (.slice (some ⟨gx, 0, none⟩) n n) from fun wc hc => by
    refine (toSig_new p n c N A wc (H.out.keep hc) HK.out).mono ?_
    rintro e w' ⟨g, rfl, hg, hl, hs, hb⟩
    exact ⟨g, rfl, keepB hc hb, hs, (X.out.keep (keepB hc hb)).c0⟩)
  have S2 := hidden (show ∀ wc g, Below w10.heap.size w10 wc → Syms wc g 0 n N A → Calls Try.prog 12 #[.agg #[.slice (some ⟨gx, 0, none⟩) n n], .agg #[.slice (some ⟨g, 0, none⟩) n n]] wc fun e w' => e = .returned (.bool true) ∧ Below w10.heap.size w10 w' from fun wc g hc hm => by
    refine (eqSignature_eq gx 0 g 0 n n n N A wc (QS.out.keep hc) hm HK.out.most).mono ?_
    rintro e w' ⟨rfl, hb⟩
    exact ⟨rfl, keepB hc hb⟩)
  have x0 := X.out.c0
  have d0 := D0.out.c0
  go_wp2_with fail
  go_cut [53] (fun t wc => t = .bool false ∧ Below w10.heap.size w10 wc)
  case first =>
    go_region_with (first
      | (go_at_call 8; with_reducible refine (S1.out _ ?_).mono ?_; exact (Below.refl _ _).drew; rintro e v5 ⟨g5', rfl, b5', m5', d5'⟩)
      | (go_at_call 12; with_reducible refine (S2.out _ _ b5' m5').mono ?_; rintro e v6 ⟨rfl, b6'⟩))
    all_goals (go_wp2_with fail; go_meet)
    all_goals exact ⟨rfl, b6'⟩
  case rest =>
    rename World => w11
    obtain ⟨rfl, hb⟩ := hcut
    replace D0 := hidden (D0.out.keep hb)
    replace B := hidden (keepB B.out hb)
    replace H := hidden (H.out.keep hb)
    replace H1 := hidden (H1.out.keep hb)
    replace H2 := hidden (H2.out.keep hb)
    replace LW := hidden (LW.out.keep hb)
    replace R0 := hidden (R0.out.keep hb)
    replace Q := hidden (Q.out.keep hb)
    replace X := hidden (X.out.keep hb)
    replace Q1 := hidden (Q1.out.keep hb)
    replace Q2 := hidden (Q2.out.keep hb)
    replace LG := hidden (LG.out.keep hb)
    replace R1 := hidden (R1.out.keep hb)
    replace QS := hidden (QS.out.keep hb)
    clear x0 d0 hb S1 S2
    clear QS
    go_wp2_with fail
    with_reducible refine (toInts_new p1 m1 c1 L1 _ H1.out HM1.out).mono ?_
    rintro e w12 ⟨g12, rfl, hs, hb⟩
    replace D0 := hidden (D0.out.keep hb)
    replace B := hidden (keepB B.out hb)
    replace H := hidden (H.out.keep hb)
    replace H1 := hidden (H1.out.keep hb)
    replace H2 := hidden (H2.out.keep hb)
    replace LW := hidden (LW.out.keep hb)
    replace R0 := hidden (R0.out.keep hb)
    replace Q := hidden (Q.out.keep hb)
    replace X := hidden (X.out.keep hb)
    replace Q1 := hidden (Q1.out.keep hb)
    replace Q2 := hidden (Q2.out.keep hb)
    replace LG := hidden (LG.out.keep hb)
    replace R1 := hidden (R1.out.keep hb)
    clear hb
    have Q9 := hidden (hs)
    clear hs
    go_wp2_with fail
    with_reducible refine (eqInt64S_eq _ _ _ _ _ _ _ L1 _ Q1.out.ints Q9.out HM1.out).mono ?_
    rintro e w13 ⟨rfl, hb⟩
    replace D0 := hidden (D0.out.keep hb)
    replace B := hidden (keepB B.out hb)
    replace H := hidden (H.out.keep hb)
    replace H1 := hidden (H1.out.keep hb)
    replace H2 := hidden (H2.out.keep hb)
    replace LW := hidden (LW.out.keep hb)
    replace R0 := hidden (R0.out.keep hb)
    replace Q := hidden (Q.out.keep hb)
    replace X := hidden (X.out.keep hb)
    replace Q1 := hidden (Q1.out.keep hb)
    replace Q2 := hidden (Q2.out.keep hb)
    replace LG := hidden (LG.out.keep hb)
    replace R1 := hidden (R1.out.keep hb)
    replace Q9 := hidden (Q9.out.keep hb)
    clear hb
    clear Q9
    go_wp2_with fail
    with_reducible refine (toInts_new p2 m2 c2 L2 _ H2.out HM2.out).mono ?_
    rintro e w14 ⟨g14, rfl, hs, hb⟩
    replace D0 := hidden (D0.out.keep hb)
    replace B := hidden (keepB B.out hb)
    replace H := hidden (H.out.keep hb)
    replace H1 := hidden (H1.out.keep hb)
    replace H2 := hidden (H2.out.keep hb)
    replace LW := hidden (LW.out.keep hb)
    replace R0 := hidden (R0.out.keep hb)
    replace Q := hidden (Q.out.keep hb)
    replace X := hidden (X.out.keep hb)
    replace Q1 := hidden (Q1.out.keep hb)
    replace Q2 := hidden (Q2.out.keep hb)
    replace LG := hidden (LG.out.keep hb)
    replace R1 := hidden (R1.out.keep hb)
    clear hb
    have Q9 := hidden (hs)
    clear hs
    go_wp2_with fail
    with_reducible refine (eqInt64S_eq _ _ _ _ _ _ _ L2 _ Q2.out.ints Q9.out HM2.out).mono ?_
    rintro e w15 ⟨rfl, hb⟩
    replace D0 := hidden (D0.out.keep hb)
    replace B := hidden (keepB B.out hb)
    replace H := hidden (H.out.keep hb)
    replace H1 := hidden (H1.out.keep hb)
    replace H2 := hidden (H2.out.keep hb)
    replace LW := hidden (LW.out.keep hb)
    replace R0 := hidden (R0.out.keep hb)
    replace Q := hidden (Q.out.keep hb)
    replace X := hidden (X.out.keep hb)
    replace Q1 := hidden (Q1.out.keep hb)
    replace Q2 := hidden (Q2.out.keep hb)
    replace LG := hidden (LG.out.keep hb)
    replace R1 := hidden (R1.out.keep hb)
    replace Q9 := hidden (Q9.out.keep hb)
    clear hb
    clear Q9
    have x0 := X.out.c0
    go_wp2_with fail
    with_reducible refine (markSignature_z _ gx n n 1 N A _ Q.out HK.out.most (by omega) (by omega)).mono ?_
    rintro e w16 ⟨rfl, -, hg⟩
    replace B := hidden (grownB B.out hg GX.out)
    replace D0 := hidden (D0.out.grown hg (Nat.ne_of_lt L_D0_Q.out))
    replace H := hidden (Z.out.keep B.out)
    replace H1 := hidden (Z1.out.keep B.out)
    replace H2 := hidden (Z2.out.keep B.out)
    replace LW := hidden (LW.out.grown hg (Or.inr L_LW_Q.out))
    replace R0 := hidden (R0.out.grown hg (Nat.ne_of_lt L_R0_Q.out))
    replace X := hidden (X.out.grown hg (Nat.ne_of_gt L_Q_X.out))
    replace Q1 := hidden (Q1.out.grown hg (Nat.ne_of_gt L_Q_Q1.out))
    replace Q2 := hidden (Q2.out.grown hg (Nat.ne_of_gt L_Q_Q2.out))
    replace LG := hidden (LG.out.grown hg (Or.inl L_Q_LG.out))
    replace R1 := hidden (R1.out.grown hg (Nat.ne_of_gt L_Q_R1.out))
    clear Q
    clear x0 hg
    have HN1 := HK.out.most
    go_wp2_with fail
    have HMx1 := HM1.out
    with_reducible refine (markInt64S_z _ gy1 m1 m1 (1 + 2 * n) L1 _ Q1.out HM1.out (by omega) (by omega)).mono ?_
    rintro e w17 ⟨rfl, -, hg⟩
    replace B := hidden (grownB B.out hg GY1.out)
    replace D0 := hidden (D0.out.grown hg (Nat.ne_of_lt L_D0_Q1.out))
    replace H := hidden (Z.out.keep B.out)
    replace H1 := hidden (Z1.out.keep B.out)
    replace H2 := hidden (Z2.out.keep B.out)
    replace LW := hidden (LW.out.grown hg (Or.inr L_LW_Q1.out))
    replace R0 := hidden (R0.out.grown hg (Nat.ne_of_lt L_R0_Q1.out))
    replace X := hidden (X.out.grown hg (Nat.ne_of_lt L_X_Q1.out))
    replace Q2 := hidden (Q2.out.grown hg (Nat.ne_of_gt L_Q1_Q2.out))
    replace LG := hidden (LG.out.grown hg (Or.inl L_Q1_LG.out))
    replace R1 := hidden (R1.out.grown hg (Nat.ne_of_gt L_Q1_R1.out))
    clear Q1
    clear hg
    go_wp2_with fail
    have HMx2 := HM2.out
    with_reducible refine (markInt64S_z _ gy2 m2 m2 (1 + 2 * n + m1) L2 _ Q2.out HM2.out (by omega) (by omega)).mono ?_
    rintro e w18 ⟨rfl, -, hg⟩
    replace B := hidden (grownB B.out hg GY2.out)
    replace D0 := hidden (D0.out.grown hg (Nat.ne_of_lt L_D0_Q2.out))
    replace H := hidden (Z.out.keep B.out)
    replace H1 := hidden (Z1.out.keep B.out)
    replace H2 := hidden (Z2.out.keep B.out)
    replace LW := hidden (LW.out.grown hg (Or.inr L_LW_Q2.out))
    replace R0 := hidden (R0.out.grown hg (Nat.ne_of_lt L_R0_Q2.out))
    replace X := hidden (X.out.grown hg (Nat.ne_of_lt L_X_Q2.out))
    replace LG := hidden (LG.out.grown hg (Or.inl L_Q2_LG.out))
    replace R1 := hidden (R1.out.grown hg (Nat.ne_of_gt L_Q2_R1.out))
    clear Q2
    clear hg
    have r00 := R0.out.c0
    have r01 := R0.out.c1
    have r02 := R0.out.c2
    have r10 := R1.out.c0
    have r11 := R1.out.c1
    have r12 := R1.out.c2
    have hkk : decide (((1 : Int) + 2 * n + m1 + m2) < 0) = false := by simp; omega
    go_wp2_with fail
    with_reducible refine (eqBdR_eq _ _ _ _ _ _ _ _ _ _ _ (cV M) (cnD M 12) _ LG.out.vars.ints LG.out.terms.mats LW.out.vars.ints LW.out.terms.mats (by have := HR12.out; omega) HKB.out).mono ?_
    rintro e w19 ⟨rfl, hb⟩
    replace D0 := hidden (D0.out.keep hb)
    replace B := hidden (keepB B.out hb)
    replace H := hidden (H.out.keep hb)
    replace H1 := hidden (H1.out.keep hb)
    replace H2 := hidden (H2.out.keep hb)
    replace LW := hidden (LW.out.keep hb)
    replace R0 := hidden (R0.out.keep hb)
    replace X := hidden (X.out.keep hb)
    replace LG := hidden (LG.out.keep hb)
    replace R1 := hidden (R1.out.keep hb)
    clear r00 r01 r02 r10 r11 r12 hb
    have r00 := R1.out.c0
    have r01 := R1.out.c1
    have r02 := R1.out.c2
    go_wp2_with fail
    have GB := hidden (show w.heap.size ≤ lob from Nat.le_trans BSx.out GBx.out)
    with_reducible refine (markBdR_any _ _ _ gb1 (cR M) db1 gb2 (cR M) db2 (cV M) (cnD M 12) _ LG.out (by have := HR12.out; omega) HKB.out HSB.out).mono ?_
    rintro e w20 ⟨rfl, ho, hr⟩
    replace B := hidden (Rng.below B.out hr GB.out)
    replace D0 := hidden (D0.out.rng hr (Or.inl L_D0_LG.out))
    replace H := hidden (Z.out.keep B.out)
    replace H1 := hidden (Z1.out.keep B.out)
    replace H2 := hidden (Z2.out.keep B.out)
    replace LW := hidden (LW.out.rng hr (Or.inl L_LW_LG.out))
    replace R0 := hidden (R0.out.rng hr (Or.inl L_R0_LG.out))
    replace X := hidden (X.out.rng hr (Or.inl L_X_LG.out))
    replace R1 := hidden (R1.out.rng hr (Or.inr L_LG_R1.out))
    replace LG := hidden (ho)
    clear r00 r01 r02 hr ho
    have hq : ¬ (1 : Int) + (cR M : Nat) + (sumM (cnD M 12) (cR M) : Nat) < 0 := by omega
    have r00 := R1.out.c0
    have r01 := R1.out.c1
    have r02 := R1.out.c2
    go_wp2_with fail
    with_reducible refine (heldBdR_any _ _ _ gb1 (cR M) db1 gb2 (cR M) db2 (cnD M 12) _ LG.out (by have := HR12.out; omega) HKB.out (by have := HSB.out; omega)).mono ?_
    rintro e w21 ⟨rfl, hb⟩
    replace D0 := hidden (D0.out.keep hb)
    replace B := hidden (keepB B.out hb)
    replace H := hidden (H.out.keep hb)
    replace H1 := hidden (H1.out.keep hb)
    replace H2 := hidden (H2.out.keep hb)
    replace LW := hidden (LW.out.keep hb)
    replace R0 := hidden (R0.out.keep hb)
    replace X := hidden (X.out.keep hb)
    replace LG := hidden (LG.out.keep hb)
    replace R1 := hidden (R1.out.keep hb)
    clear r00 r01 r02 hb
    have d0 := D0.out.c0
    go_wp2_with fail
    with_reducible refine (toSig_new p n c N A _ H.out HK.out).mono ?_
    rintro e w22 ⟨g22, rfl, hg, hl, hs, hb⟩
    replace D0 := hidden (D0.out.keep hb)
    replace B := hidden (keepB B.out hb)
    replace H := hidden (H.out.keep hb)
    replace H1 := hidden (H1.out.keep hb)
    replace H2 := hidden (H2.out.keep hb)
    replace LW := hidden (LW.out.keep hb)
    replace R0 := hidden (R0.out.keep hb)
    replace X := hidden (X.out.keep hb)
    replace LG := hidden (LG.out.keep hb)
    replace R1 := hidden (R1.out.keep hb)
    clear d0 hb hg hl
    have P := hidden (hs)
    clear hs
    go_wp2_with fail
    with_reducible refine (toInts_new p1 m1 c1 L1 _ H1.out HM1.out).mono ?_
    rintro e w23 ⟨g23, rfl, hs, hb⟩
    replace D0 := hidden (D0.out.keep hb)
    replace B := hidden (keepB B.out hb)
    replace H := hidden (H.out.keep hb)
    replace H1 := hidden (H1.out.keep hb)
    replace H2 := hidden (H2.out.keep hb)
    replace LW := hidden (LW.out.keep hb)
    replace R0 := hidden (R0.out.keep hb)
    replace X := hidden (X.out.keep hb)
    replace LG := hidden (LG.out.keep hb)
    replace R1 := hidden (R1.out.keep hb)
    replace P := hidden (P.out.keep hb)
    clear hb
    have P1 := hidden (hs)
    clear hs
    go_wp2_with fail
    with_reducible refine (toInts_new p2 m2 c2 L2 _ H2.out HM2.out).mono ?_
    rintro e w24 ⟨g24, rfl, hs, hb⟩
    replace D0 := hidden (D0.out.keep hb)
    replace B := hidden (keepB B.out hb)
    replace H := hidden (H.out.keep hb)
    replace H1 := hidden (H1.out.keep hb)
    replace H2 := hidden (H2.out.keep hb)
    replace LW := hidden (LW.out.keep hb)
    replace R0 := hidden (R0.out.keep hb)
    replace X := hidden (X.out.keep hb)
    replace LG := hidden (LG.out.keep hb)
    replace R1 := hidden (R1.out.keep hb)
    replace P := hidden (P.out.keep hb)
    replace P1 := hidden (P1.out.keep hb)
    clear hb
    have P2 := hidden (hs)
    clear hs
    go_wp2_with fail
    with_reducible refine (IM.out _ _ _ _ P.out P1.out P2.out HK.out).mono ?_
    rintro e w25 ⟨ha, hb⟩
    rcases ha with ⟨ha, -⟩ | ⟨-, -, loc, gc1, dc1, gc2, dc2, rfl, hlo, ho⟩
    · exact absurd ha (by have h1 := HC0.out.1; have h2 := HC0.out.2; intro h; rcases h with h | h; exact h h1; omega)
    have L_D0_LH := hidden (Nat.lt_of_lt_of_le D0.out.blk hlo)
    have L_LW_LH := hidden (Nat.le_trans LW.out.top hlo)
    have L_R0_LH := hidden (Nat.lt_of_lt_of_le R0.out.blk hlo)
    have L_X_LH := hidden (Nat.lt_of_lt_of_le X.out.blk hlo)
    have L_LG_LH := hidden (Nat.le_trans LG.out.top hlo)
    have L_R1_LH := hidden (Nat.lt_of_lt_of_le R1.out.blk hlo)
    replace D0 := hidden (D0.out.keep hb)
    replace B := hidden (keepB B.out hb)
    replace H := hidden (H.out.keep hb)
    replace H1 := hidden (H1.out.keep hb)
    replace H2 := hidden (H2.out.keep hb)
    replace LW := hidden (LW.out.keep hb)
    replace R0 := hidden (R0.out.keep hb)
    replace X := hidden (X.out.keep hb)
    replace LG := hidden (LG.out.keep hb)
    replace R1 := hidden (R1.out.keep hb)
    replace P := hidden (P.out.keep hb)
    replace P1 := hidden (P1.out.keep hb)
    replace P2 := hidden (P2.out.keep hb)
    have LH := hidden (ho)
    clear hb ho hlo
    have L_LW_R2 := hidden (Nat.le_trans LW.out.top (Nat.le_refl _))
    have L_LG_R2 := hidden (Nat.le_trans LG.out.top (Nat.le_refl _))
    have L_LH_R2 := hidden (Nat.le_trans LH.out.top (Nat.le_refl _))
    have hb := alloc_below w25 (.cells #[.int .i64 0, .slice (some ⟨gc1, 0, none⟩) (cR M) dc1, .slice (some ⟨gc2, 0, none⟩) (cR M) dc2] 31)
    replace D0 := hidden (D0.out.keep hb)
    replace B := hidden (keepB B.out hb)
    replace H := hidden (H.out.keep hb)
    replace H1 := hidden (H1.out.keep hb)
    replace H2 := hidden (H2.out.keep hb)
    replace LW := hidden (LW.out.keep hb)
    replace R0 := hidden (R0.out.keep hb)
    replace X := hidden (X.out.keep hb)
    replace LG := hidden (LG.out.keep hb)
    replace R1 := hidden (R1.out.keep hb)
    replace P := hidden (P.out.keep hb)
    replace P1 := hidden (P1.out.keep hb)
    replace P2 := hidden (P2.out.keep hb)
    replace LH := hidden (LH.out.keep hb)
    clear hb
    have R2 := hidden (Three.new w25 (.int .i64 0) (.slice (some ⟨gc1, 0, none⟩) (cR M) dc1) (.slice (some ⟨gc2, 0, none⟩) (cR M) dc2) 31)
    clear P P1 P2
    have r00 := R0.out.c0
    have r01 := R0.out.c1
    have r02 := R0.out.c2
    have r10 := R2.out.c0
    have r11 := R2.out.c1
    have r12 := R2.out.c2
    go_wp2_with fail
    with_reducible refine (eqBdR_eq _ _ _ _ _ _ _ _ _ _ _ (cV M) (cnD M 12) _ LH.out.vars.ints LH.out.terms.mats LW.out.vars.ints LW.out.terms.mats (by have := HR12.out; omega) HKB.out).mono ?_
    rintro e w26 ⟨rfl, hb⟩
    replace D0 := hidden (D0.out.keep hb)
    replace B := hidden (keepB B.out hb)
    replace H := hidden (H.out.keep hb)
    replace H1 := hidden (H1.out.keep hb)
    replace H2 := hidden (H2.out.keep hb)
    replace LW := hidden (LW.out.keep hb)
    replace R0 := hidden (R0.out.keep hb)
    replace X := hidden (X.out.keep hb)
    replace LG := hidden (LG.out.keep hb)
    replace R1 := hidden (R1.out.keep hb)
    replace LH := hidden (LH.out.keep hb)
    replace R2 := hidden (R2.out.keep hb)
    clear r00 r01 r02 r10 r11 r12 hb
    have r00 := R1.out.c0
    have r01 := R1.out.c1
    have r02 := R1.out.c2
    go_wp2_with fail
    with_reducible refine (heldBdR_any _ _ _ gb1 (cR M) db1 gb2 (cR M) db2 (cnD M 12) _ LG.out (by have := HR12.out; omega) HKB.out (by have := HSB.out; omega)).mono ?_
    rintro e w27 ⟨rfl, hb⟩
    replace D0 := hidden (D0.out.keep hb)
    replace B := hidden (keepB B.out hb)
    replace H := hidden (H.out.keep hb)
    replace H1 := hidden (H1.out.keep hb)
    replace H2 := hidden (H2.out.keep hb)
    replace LW := hidden (LW.out.keep hb)
    replace R0 := hidden (R0.out.keep hb)
    replace X := hidden (X.out.keep hb)
    replace LG := hidden (LG.out.keep hb)
    replace R1 := hidden (R1.out.keep hb)
    replace LH := hidden (LH.out.keep hb)
    replace R2 := hidden (R2.out.keep hb)
    clear r00 r01 r02 hb
    go_wp2_with fail
    go_ret
    exact ⟨rfl, B.out⟩

set_option maxRecDepth 20000 in
set_option maxHeartbeats 12800000 in
theorem law_ut_bad (p : Option Addr) (n c : Nat) (N : Nat → ByteArray) (A : Nat → Int) (p1 : Option Addr) (m1 c1 : Nat) (L1 : Nat → Int) (p2 : Option Addr) (m2 c2 : Nat) (L2 : Nat → Int) (C : Int) (M : Nat → List Int) (w : World) (h : SrcS w p n N A) (h1 : SrcI w p1 m1 L1) (hm1 : m1 ≤ 1048576) (h2 : SrcI w p2 m2 L2) (hm2 : m2 ≤ 1048576) (hc : ¬ (C = 0 ∧ 0 < cR M))
    (SP : Hid (∀ b b1 b2 w, Syms w b 0 n N A → Ints w b1 0 m1 L1 → Ints w b2 0 m2 L2 → Kept n N A → Calls Try.prog 18 #[.agg #[.slice (some ⟨b, 0, none⟩) n n], .slice (some ⟨b1, 0, none⟩) m1 m1, .slice (some ⟨b2, 0, none⟩) m2 m2] w fun e w' => BnAns w C M e w' ∧ Below w.heap.size w w'))
    (IM : Hid (∀ b b1 b2 w, Syms w b 0 n N A → Ints w b1 0 m1 L1 → Ints w b2 0 m2 L2 → Kept n N A → Calls Try.prog 19 #[.agg #[.slice (some ⟨b, 0, none⟩) n n], .slice (some ⟨b1, 0, none⟩) m1 m1, .slice (some ⟨b2, 0, none⟩) m2 m2] w fun e w' => BnAns w C M e w' ∧ Below w.heap.size w w')) :
    Calls Try.prog 4 #[.agg #[.slice p n c], .slice p1 m1 c1, .slice p2 m2 c2] w fun e w' => e = .returned (.bool true) ∧ Below w.heap.size w w' := by
  have Z := hidden h
  have Z1 := hidden h1
  have Z2 := hidden h2
  have HC0 := hidden hc
  clear hc
  have D0 := hidden (One.new w (.slice p n c) 24)
  have B := hidden (alloc_below w (.cells #[.slice p n c] 24))
  have H := hidden (Z.out.keep B.out)
  have H1 := hidden (Z1.out.keep B.out)
  have HM1 := hidden hm1
  have H2 := hidden (Z2.out.keep B.out)
  have HM2 := hidden hm2
  clear h h1 h2
  go_enter Try.func4, Try.ntmps4
  go_wp2_with fail
  with_reducible refine (szSignature_src p n c N A 1048576 _ H.out (by omega) (by omega)).mono ?_
  rintro e w1 ⟨⟨r1, rfl, hr⟩, hb⟩
  replace D0 := hidden (D0.out.keep hb)
  replace B := hidden (keepB B.out hb)
  replace H := hidden (H.out.keep hb)
  replace H1 := hidden (H1.out.keep hb)
  replace H2 := hidden (H2.out.keep hb)
  clear hb
  rcases hr with rfl | ⟨q0, q1, q2, q3⟩
  · go_wp2_with fail
    go_ret
    exact ⟨rfl, B.out⟩
  have HK := hidden (Kept.mk q2 q3 H.out.fits)
  clear q2 q3
  clear q1
  have d0 := D0.out.c0
  go_wp2_with fail
  with_reducible refine (toSig_new p n c N A _ H.out HK.out).mono ?_
  rintro e w2 ⟨g2, rfl, hg, hl, hs, hb⟩
  replace D0 := hidden (D0.out.keep hb)
  replace B := hidden (keepB B.out hb)
  replace H := hidden (H.out.keep hb)
  replace H1 := hidden (H1.out.keep hb)
  replace H2 := hidden (H2.out.keep hb)
  clear d0 hb hg hl
  have P := hidden (hs)
  clear hs
  go_wp2_with fail
  with_reducible refine (toInts_new p1 m1 c1 L1 _ H1.out HM1.out).mono ?_
  rintro e w3 ⟨g3, rfl, hs, hb⟩
  replace D0 := hidden (D0.out.keep hb)
  replace B := hidden (keepB B.out hb)
  replace H := hidden (H.out.keep hb)
  replace H1 := hidden (H1.out.keep hb)
  replace H2 := hidden (H2.out.keep hb)
  replace P := hidden (P.out.keep hb)
  clear hb
  have P1 := hidden (hs)
  clear hs
  go_wp2_with fail
  with_reducible refine (toInts_new p2 m2 c2 L2 _ H2.out HM2.out).mono ?_
  rintro e w4 ⟨g4, rfl, hs, hb⟩
  replace D0 := hidden (D0.out.keep hb)
  replace B := hidden (keepB B.out hb)
  replace H := hidden (H.out.keep hb)
  replace H1 := hidden (H1.out.keep hb)
  replace H2 := hidden (H2.out.keep hb)
  replace P := hidden (P.out.keep hb)
  replace P1 := hidden (P1.out.keep hb)
  clear hb
  have P2 := hidden (hs)
  clear hs
  go_wp2_with fail
  with_reducible refine (SP.out _ _ _ _ P.out P1.out P2.out HK.out).mono ?_
  rintro e w5 ⟨ha, hb⟩
  replace D0 := hidden (D0.out.keep hb)
  replace B := hidden (keepB B.out hb)
  replace H := hidden (H.out.keep hb)
  replace H1 := hidden (H1.out.keep hb)
  replace H2 := hidden (H2.out.keep hb)
  replace P := hidden (P.out.keep hb)
  replace P1 := hidden (P1.out.keep hb)
  replace P2 := hidden (P2.out.keep hb)
  clear hb
  rcases ha with ⟨-, rfl⟩ | ⟨h1, h2, -⟩
  rotate_left
  · exact absurd ⟨h1, h2⟩ HC0.out
  have hb := alloc_below w5 (.cells #[.int .i64 C, .slice none 0 0, .slice none 0 0] 31)
  replace D0 := hidden (D0.out.keep hb)
  replace B := hidden (keepB B.out hb)
  replace H := hidden (H.out.keep hb)
  replace H1 := hidden (H1.out.keep hb)
  replace H2 := hidden (H2.out.keep hb)
  replace P := hidden (P.out.keep hb)
  replace P1 := hidden (P1.out.keep hb)
  replace P2 := hidden (P2.out.keep hb)
  clear hb
  have R0 := hidden (Three.new w5 (.int .i64 C) (.slice none 0 0) (.slice none 0 0) 31)
  clear P P1 P2
  have d0 := D0.out.c0
  go_wp2_with fail
  have BSx := hidden B.out.size
  with_reducible refine (toSignature_src p n c N A _ H.out HK.out).mono ?_
  rintro e w6 ⟨gx, rfl, hgx, hs, hb⟩
  have L_D0_Q := hidden (Nat.lt_of_lt_of_le D0.out.blk hgx)
  have L_R0_Q := hidden (Nat.lt_of_lt_of_le R0.out.blk hgx)
  replace D0 := hidden (D0.out.keep hb)
  replace B := hidden (keepB B.out hb)
  replace H := hidden (H.out.keep hb)
  replace H1 := hidden (H1.out.keep hb)
  replace H2 := hidden (H2.out.keep hb)
  replace R0 := hidden (R0.out.keep hb)
  have Q := hidden (hs)
  clear d0 hb
  have GX := hidden (Nat.le_trans BSx.out hgx)
  clear hs hgx BSx
  have L_Q_X := hidden (Nat.lt_of_lt_of_le Q.out.lt (Nat.le_refl _))
  have hb := alloc_below w6 (.cells #[.slice (some ⟨gx, 0, none⟩) n n] 35)
  replace D0 := hidden (D0.out.keep hb)
  replace B := hidden (keepB B.out hb)
  replace H := hidden (H.out.keep hb)
  replace H1 := hidden (H1.out.keep hb)
  replace H2 := hidden (H2.out.keep hb)
  replace R0 := hidden (R0.out.keep hb)
  replace Q := hidden (Q.out.keep hb)
  clear hb
  have X := hidden (One.new w6 (.slice (some ⟨gx, 0, none⟩) n n) 35)
  have BSx := hidden B.out.size
  go_wp2_with fail
  with_reducible refine (toInts_src p1 m1 c1 L1 _ H1.out HM1.out).mono ?_
  rintro e w7 ⟨gy1, rfl, hgy, hs, hb⟩
  have L_D0_Q1 := hidden (Nat.lt_of_lt_of_le D0.out.blk hgy)
  have L_R0_Q1 := hidden (Nat.lt_of_lt_of_le R0.out.blk hgy)
  have L_Q_Q1 := hidden (Nat.lt_of_lt_of_le Q.out.lt hgy)
  have L_X_Q1 := hidden (Nat.lt_of_lt_of_le X.out.blk hgy)
  replace D0 := hidden (D0.out.keep hb)
  replace B := hidden (keepB B.out hb)
  replace H := hidden (H.out.keep hb)
  replace H1 := hidden (H1.out.keep hb)
  replace H2 := hidden (H2.out.keep hb)
  replace R0 := hidden (R0.out.keep hb)
  replace Q := hidden (Q.out.keep hb)
  replace X := hidden (X.out.keep hb)
  have Q1 := hidden (hs)
  clear hb
  have GY1 := hidden (Nat.le_trans BSx.out hgy)
  clear hs hgy BSx
  have BSx := hidden B.out.size
  go_wp2_with fail
  with_reducible refine (toInts_src p2 m2 c2 L2 _ H2.out HM2.out).mono ?_
  rintro e w8 ⟨gy2, rfl, hgy, hs, hb⟩
  have L_D0_Q2 := hidden (Nat.lt_of_lt_of_le D0.out.blk hgy)
  have L_R0_Q2 := hidden (Nat.lt_of_lt_of_le R0.out.blk hgy)
  have L_Q_Q2 := hidden (Nat.lt_of_lt_of_le Q.out.lt hgy)
  have L_X_Q2 := hidden (Nat.lt_of_lt_of_le X.out.blk hgy)
  have L_Q1_Q2 := hidden (Nat.lt_of_lt_of_le Q1.out.lt hgy)
  replace D0 := hidden (D0.out.keep hb)
  replace B := hidden (keepB B.out hb)
  replace H := hidden (H.out.keep hb)
  replace H1 := hidden (H1.out.keep hb)
  replace H2 := hidden (H2.out.keep hb)
  replace R0 := hidden (R0.out.keep hb)
  replace Q := hidden (Q.out.keep hb)
  replace X := hidden (X.out.keep hb)
  replace Q1 := hidden (Q1.out.keep hb)
  have Q2 := hidden (hs)
  clear hb
  have GY2 := hidden (Nat.le_trans BSx.out hgy)
  clear hs hgy BSx
  have x0 := X.out.c0
  go_wp2_with fail
  have BSx := hidden B.out.size
  with_reducible refine (IM.out _ _ _ _ (Q.out.syms HK.out.big HK.out.fits) Q1.out.ints Q2.out.ints HK.out).mono ?_
  rintro e w9 ⟨ha, hb⟩
  replace D0 := hidden (D0.out.keep hb)
  replace B := hidden (keepB B.out hb)
  replace H := hidden (H.out.keep hb)
  replace H1 := hidden (H1.out.keep hb)
  replace H2 := hidden (H2.out.keep hb)
  replace R0 := hidden (R0.out.keep hb)
  replace Q := hidden (Q.out.keep hb)
  replace X := hidden (X.out.keep hb)
  replace Q1 := hidden (Q1.out.keep hb)
  replace Q2 := hidden (Q2.out.keep hb)
  clear x0 hb
  rcases ha with ⟨-, rfl⟩ | ⟨h1, h2, -⟩
  rotate_left
  · exact absurd ⟨h1, h2⟩ HC0.out
  have L_Q_R1 := hidden (Nat.lt_of_lt_of_le Q.out.lt (Nat.le_refl _))
  have L_Q1_R1 := hidden (Nat.lt_of_lt_of_le Q1.out.lt (Nat.le_refl _))
  have L_Q2_R1 := hidden (Nat.lt_of_lt_of_le Q2.out.lt (Nat.le_refl _))
  have hb := alloc_below w9 (.cells #[.int .i64 C, .slice none 0 0, .slice none 0 0] 31)
  replace D0 := hidden (D0.out.keep hb)
  replace B := hidden (keepB B.out hb)
  replace H := hidden (H.out.keep hb)
  replace H1 := hidden (H1.out.keep hb)
  replace H2 := hidden (H2.out.keep hb)
  replace R0 := hidden (R0.out.keep hb)
  replace Q := hidden (Q.out.keep hb)
  replace X := hidden (X.out.keep hb)
  replace Q1 := hidden (Q1.out.keep hb)
  replace Q2 := hidden (Q2.out.keep hb)
  clear hb
  have R1 := hidden (Three.new w9 (.int .i64 C) (.slice none 0 0) (.slice none 0 0) 31)
  have r00 := R0.out.c0
  have r01 := R0.out.c1
  have r02 := R0.out.c2
  have r10 := R1.out.c0
  have r11 := R1.out.c1
  have r12 := R1.out.c2
  go_wp2_with fail
  with_reducible refine (eqBdR_none _ _).mono ?_
  rintro e w10 ⟨rfl, hb⟩
  replace D0 := hidden (D0.out.keep hb)
  replace B := hidden (keepB B.out hb)
  replace H := hidden (H.out.keep hb)
  replace H1 := hidden (H1.out.keep hb)
  replace H2 := hidden (H2.out.keep hb)
  replace R0 := hidden (R0.out.keep hb)
  replace Q := hidden (Q.out.keep hb)
  replace X := hidden (X.out.keep hb)
  replace Q1 := hidden (Q1.out.keep hb)
  replace Q2 := hidden (Q2.out.keep hb)
  replace R1 := hidden (R1.out.keep hb)
  clear r00 r01 r02 r10 r11 r12 hb
  have QS := hidden (Q.out.syms HK.out.big HK.out.fits)
  have S1 := hidden (show ∀ wc, Below w10.heap.size w10 wc → Calls Try.prog 8 #[.agg #[.slice p n c]] wc fun e w' => ∃ g, e = .returned (.agg #[.slice (some ⟨g, 0, none⟩) n n]) ∧ Below w10.heap.size w10 w' ∧ Syms w' g 0 n N A ∧ w'.cell? ⟨w6.heap.size, 0, none⟩ = some (.slice (some ⟨gx, 0, none⟩) n n) from fun wc hc => by
    refine (toSig_new p n c N A wc (H.out.keep hc) HK.out).mono ?_
    rintro e w' ⟨g, rfl, hg, hl, hs, hb⟩
    exact ⟨g, rfl, keepB hc hb, hs, (X.out.keep (keepB hc hb)).c0⟩)
  have S2 := hidden (show ∀ wc g, Below w10.heap.size w10 wc → Syms wc g 0 n N A → Calls Try.prog 12 #[.agg #[.slice (some ⟨gx, 0, none⟩) n n], .agg #[.slice (some ⟨g, 0, none⟩) n n]] wc fun e w' => e = .returned (.bool true) ∧ Below w10.heap.size w10 w' from fun wc g hc hm => by
    refine (eqSignature_eq gx 0 g 0 n n n N A wc (QS.out.keep hc) hm HK.out.most).mono ?_
    rintro e w' ⟨rfl, hb⟩
    exact ⟨rfl, keepB hc hb⟩)
  have x0 := X.out.c0
  have d0 := D0.out.c0
  go_wp2_with fail
  go_cut [53] (fun t wc => t = .bool false ∧ Below w10.heap.size w10 wc)
  case first =>
    go_region_with (first
      | (go_at_call 8; with_reducible refine (S1.out _ ?_).mono ?_; exact (Below.refl _ _).drew; rintro e v5 ⟨g5', rfl, b5', m5', d5'⟩)
      | (go_at_call 12; with_reducible refine (S2.out _ _ b5' m5').mono ?_; rintro e v6 ⟨rfl, b6'⟩))
    all_goals (go_wp2_with fail; go_meet)
    all_goals exact ⟨rfl, b6'⟩
  case rest =>
    rename World => w11
    obtain ⟨rfl, hb⟩ := hcut
    replace D0 := hidden (D0.out.keep hb)
    replace B := hidden (keepB B.out hb)
    replace H := hidden (H.out.keep hb)
    replace H1 := hidden (H1.out.keep hb)
    replace H2 := hidden (H2.out.keep hb)
    replace R0 := hidden (R0.out.keep hb)
    replace Q := hidden (Q.out.keep hb)
    replace X := hidden (X.out.keep hb)
    replace Q1 := hidden (Q1.out.keep hb)
    replace Q2 := hidden (Q2.out.keep hb)
    replace R1 := hidden (R1.out.keep hb)
    replace QS := hidden (QS.out.keep hb)
    clear x0 d0 hb S1 S2
    clear QS
    go_wp2_with fail
    with_reducible refine (toInts_new p1 m1 c1 L1 _ H1.out HM1.out).mono ?_
    rintro e w12 ⟨g12, rfl, hs, hb⟩
    replace D0 := hidden (D0.out.keep hb)
    replace B := hidden (keepB B.out hb)
    replace H := hidden (H.out.keep hb)
    replace H1 := hidden (H1.out.keep hb)
    replace H2 := hidden (H2.out.keep hb)
    replace R0 := hidden (R0.out.keep hb)
    replace Q := hidden (Q.out.keep hb)
    replace X := hidden (X.out.keep hb)
    replace Q1 := hidden (Q1.out.keep hb)
    replace Q2 := hidden (Q2.out.keep hb)
    replace R1 := hidden (R1.out.keep hb)
    clear hb
    have Q9 := hidden (hs)
    clear hs
    go_wp2_with fail
    with_reducible refine (eqInt64S_eq _ _ _ _ _ _ _ L1 _ Q1.out.ints Q9.out HM1.out).mono ?_
    rintro e w13 ⟨rfl, hb⟩
    replace D0 := hidden (D0.out.keep hb)
    replace B := hidden (keepB B.out hb)
    replace H := hidden (H.out.keep hb)
    replace H1 := hidden (H1.out.keep hb)
    replace H2 := hidden (H2.out.keep hb)
    replace R0 := hidden (R0.out.keep hb)
    replace Q := hidden (Q.out.keep hb)
    replace X := hidden (X.out.keep hb)
    replace Q1 := hidden (Q1.out.keep hb)
    replace Q2 := hidden (Q2.out.keep hb)
    replace R1 := hidden (R1.out.keep hb)
    replace Q9 := hidden (Q9.out.keep hb)
    clear hb
    clear Q9
    go_wp2_with fail
    with_reducible refine (toInts_new p2 m2 c2 L2 _ H2.out HM2.out).mono ?_
    rintro e w14 ⟨g14, rfl, hs, hb⟩
    replace D0 := hidden (D0.out.keep hb)
    replace B := hidden (keepB B.out hb)
    replace H := hidden (H.out.keep hb)
    replace H1 := hidden (H1.out.keep hb)
    replace H2 := hidden (H2.out.keep hb)
    replace R0 := hidden (R0.out.keep hb)
    replace Q := hidden (Q.out.keep hb)
    replace X := hidden (X.out.keep hb)
    replace Q1 := hidden (Q1.out.keep hb)
    replace Q2 := hidden (Q2.out.keep hb)
    replace R1 := hidden (R1.out.keep hb)
    clear hb
    have Q9 := hidden (hs)
    clear hs
    go_wp2_with fail
    with_reducible refine (eqInt64S_eq _ _ _ _ _ _ _ L2 _ Q2.out.ints Q9.out HM2.out).mono ?_
    rintro e w15 ⟨rfl, hb⟩
    replace D0 := hidden (D0.out.keep hb)
    replace B := hidden (keepB B.out hb)
    replace H := hidden (H.out.keep hb)
    replace H1 := hidden (H1.out.keep hb)
    replace H2 := hidden (H2.out.keep hb)
    replace R0 := hidden (R0.out.keep hb)
    replace Q := hidden (Q.out.keep hb)
    replace X := hidden (X.out.keep hb)
    replace Q1 := hidden (Q1.out.keep hb)
    replace Q2 := hidden (Q2.out.keep hb)
    replace R1 := hidden (R1.out.keep hb)
    replace Q9 := hidden (Q9.out.keep hb)
    clear hb
    clear Q9
    have x0 := X.out.c0
    go_wp2_with fail
    with_reducible refine (markSignature_z _ gx n n 1 N A _ Q.out HK.out.most (by omega) (by omega)).mono ?_
    rintro e w16 ⟨rfl, -, hg⟩
    replace B := hidden (grownB B.out hg GX.out)
    replace D0 := hidden (D0.out.grown hg (Nat.ne_of_lt L_D0_Q.out))
    replace H := hidden (Z.out.keep B.out)
    replace H1 := hidden (Z1.out.keep B.out)
    replace H2 := hidden (Z2.out.keep B.out)
    replace R0 := hidden (R0.out.grown hg (Nat.ne_of_lt L_R0_Q.out))
    replace X := hidden (X.out.grown hg (Nat.ne_of_gt L_Q_X.out))
    replace Q1 := hidden (Q1.out.grown hg (Nat.ne_of_gt L_Q_Q1.out))
    replace Q2 := hidden (Q2.out.grown hg (Nat.ne_of_gt L_Q_Q2.out))
    replace R1 := hidden (R1.out.grown hg (Nat.ne_of_gt L_Q_R1.out))
    clear Q
    clear x0 hg
    have HN1 := HK.out.most
    go_wp2_with fail
    have HMx1 := HM1.out
    with_reducible refine (markInt64S_z _ gy1 m1 m1 (1 + 2 * n) L1 _ Q1.out HM1.out (by omega) (by omega)).mono ?_
    rintro e w17 ⟨rfl, -, hg⟩
    replace B := hidden (grownB B.out hg GY1.out)
    replace D0 := hidden (D0.out.grown hg (Nat.ne_of_lt L_D0_Q1.out))
    replace H := hidden (Z.out.keep B.out)
    replace H1 := hidden (Z1.out.keep B.out)
    replace H2 := hidden (Z2.out.keep B.out)
    replace R0 := hidden (R0.out.grown hg (Nat.ne_of_lt L_R0_Q1.out))
    replace X := hidden (X.out.grown hg (Nat.ne_of_lt L_X_Q1.out))
    replace Q2 := hidden (Q2.out.grown hg (Nat.ne_of_gt L_Q1_Q2.out))
    replace R1 := hidden (R1.out.grown hg (Nat.ne_of_gt L_Q1_R1.out))
    clear Q1
    clear hg
    go_wp2_with fail
    have HMx2 := HM2.out
    with_reducible refine (markInt64S_z _ gy2 m2 m2 (1 + 2 * n + m1) L2 _ Q2.out HM2.out (by omega) (by omega)).mono ?_
    rintro e w18 ⟨rfl, -, hg⟩
    replace B := hidden (grownB B.out hg GY2.out)
    replace D0 := hidden (D0.out.grown hg (Nat.ne_of_lt L_D0_Q2.out))
    replace H := hidden (Z.out.keep B.out)
    replace H1 := hidden (Z1.out.keep B.out)
    replace H2 := hidden (Z2.out.keep B.out)
    replace R0 := hidden (R0.out.grown hg (Nat.ne_of_lt L_R0_Q2.out))
    replace X := hidden (X.out.grown hg (Nat.ne_of_lt L_X_Q2.out))
    replace R1 := hidden (R1.out.grown hg (Nat.ne_of_gt L_Q2_R1.out))
    clear Q2
    clear hg
    have r00 := R0.out.c0
    have r01 := R0.out.c1
    have r02 := R0.out.c2
    have r10 := R1.out.c0
    have r11 := R1.out.c1
    have r12 := R1.out.c2
    have hkk : decide (((1 : Int) + 2 * n + m1 + m2) < 0) = false := by simp; omega
    go_wp2_with fail
    with_reducible refine (eqBdR_none _ _).mono ?_
    rintro e w19 ⟨rfl, hb⟩
    replace D0 := hidden (D0.out.keep hb)
    replace B := hidden (keepB B.out hb)
    replace H := hidden (H.out.keep hb)
    replace H1 := hidden (H1.out.keep hb)
    replace H2 := hidden (H2.out.keep hb)
    replace R0 := hidden (R0.out.keep hb)
    replace X := hidden (X.out.keep hb)
    replace R1 := hidden (R1.out.keep hb)
    clear r00 r01 r02 r10 r11 r12 hb
    have r00 := R1.out.c0
    have r01 := R1.out.c1
    have r02 := R1.out.c2
    go_wp2_with fail
    with_reducible refine (markBdR_none _ _).mono ?_
    rintro e w20 ⟨rfl, hb⟩
    replace D0 := hidden (D0.out.keep hb)
    replace B := hidden (keepB B.out hb)
    replace H := hidden (H.out.keep hb)
    replace H1 := hidden (H1.out.keep hb)
    replace H2 := hidden (H2.out.keep hb)
    replace R0 := hidden (R0.out.keep hb)
    replace X := hidden (X.out.keep hb)
    replace R1 := hidden (R1.out.keep hb)
    clear r00 r01 r02 hb
    have r00 := R1.out.c0
    have r01 := R1.out.c1
    have r02 := R1.out.c2
    go_wp2_with fail
    with_reducible refine (heldBdR_none _ _).mono ?_
    rintro e w21 ⟨rfl, hb⟩
    replace D0 := hidden (D0.out.keep hb)
    replace B := hidden (keepB B.out hb)
    replace H := hidden (H.out.keep hb)
    replace H1 := hidden (H1.out.keep hb)
    replace H2 := hidden (H2.out.keep hb)
    replace R0 := hidden (R0.out.keep hb)
    replace X := hidden (X.out.keep hb)
    replace R1 := hidden (R1.out.keep hb)
    clear r00 r01 r02 hb
    have d0 := D0.out.c0
    go_wp2_with fail
    with_reducible refine (toSig_new p n c N A _ H.out HK.out).mono ?_
    rintro e w22 ⟨g22, rfl, hg, hl, hs, hb⟩
    replace D0 := hidden (D0.out.keep hb)
    replace B := hidden (keepB B.out hb)
    replace H := hidden (H.out.keep hb)
    replace H1 := hidden (H1.out.keep hb)
    replace H2 := hidden (H2.out.keep hb)
    replace R0 := hidden (R0.out.keep hb)
    replace X := hidden (X.out.keep hb)
    replace R1 := hidden (R1.out.keep hb)
    clear d0 hb hg hl
    have P := hidden (hs)
    clear hs
    go_wp2_with fail
    with_reducible refine (toInts_new p1 m1 c1 L1 _ H1.out HM1.out).mono ?_
    rintro e w23 ⟨g23, rfl, hs, hb⟩
    replace D0 := hidden (D0.out.keep hb)
    replace B := hidden (keepB B.out hb)
    replace H := hidden (H.out.keep hb)
    replace H1 := hidden (H1.out.keep hb)
    replace H2 := hidden (H2.out.keep hb)
    replace R0 := hidden (R0.out.keep hb)
    replace X := hidden (X.out.keep hb)
    replace R1 := hidden (R1.out.keep hb)
    replace P := hidden (P.out.keep hb)
    clear hb
    have P1 := hidden (hs)
    clear hs
    go_wp2_with fail
    with_reducible refine (toInts_new p2 m2 c2 L2 _ H2.out HM2.out).mono ?_
    rintro e w24 ⟨g24, rfl, hs, hb⟩
    replace D0 := hidden (D0.out.keep hb)
    replace B := hidden (keepB B.out hb)
    replace H := hidden (H.out.keep hb)
    replace H1 := hidden (H1.out.keep hb)
    replace H2 := hidden (H2.out.keep hb)
    replace R0 := hidden (R0.out.keep hb)
    replace X := hidden (X.out.keep hb)
    replace R1 := hidden (R1.out.keep hb)
    replace P := hidden (P.out.keep hb)
    replace P1 := hidden (P1.out.keep hb)
    clear hb
    have P2 := hidden (hs)
    clear hs
    go_wp2_with fail
    with_reducible refine (IM.out _ _ _ _ P.out P1.out P2.out HK.out).mono ?_
    rintro e w25 ⟨ha, hb⟩
    replace D0 := hidden (D0.out.keep hb)
    replace B := hidden (keepB B.out hb)
    replace H := hidden (H.out.keep hb)
    replace H1 := hidden (H1.out.keep hb)
    replace H2 := hidden (H2.out.keep hb)
    replace R0 := hidden (R0.out.keep hb)
    replace X := hidden (X.out.keep hb)
    replace R1 := hidden (R1.out.keep hb)
    replace P := hidden (P.out.keep hb)
    replace P1 := hidden (P1.out.keep hb)
    replace P2 := hidden (P2.out.keep hb)
    clear hb
    rcases ha with ⟨-, rfl⟩ | ⟨h1, h2, -⟩
    rotate_left
    · exact absurd ⟨h1, h2⟩ HC0.out
    have hb := alloc_below w25 (.cells #[.int .i64 C, .slice none 0 0, .slice none 0 0] 31)
    replace D0 := hidden (D0.out.keep hb)
    replace B := hidden (keepB B.out hb)
    replace H := hidden (H.out.keep hb)
    replace H1 := hidden (H1.out.keep hb)
    replace H2 := hidden (H2.out.keep hb)
    replace R0 := hidden (R0.out.keep hb)
    replace X := hidden (X.out.keep hb)
    replace R1 := hidden (R1.out.keep hb)
    replace P := hidden (P.out.keep hb)
    replace P1 := hidden (P1.out.keep hb)
    replace P2 := hidden (P2.out.keep hb)
    clear hb
    have R2 := hidden (Three.new w25 (.int .i64 C) (.slice none 0 0) (.slice none 0 0) 31)
    clear P P1 P2
    have r00 := R0.out.c0
    have r01 := R0.out.c1
    have r02 := R0.out.c2
    have r10 := R2.out.c0
    have r11 := R2.out.c1
    have r12 := R2.out.c2
    go_wp2_with fail
    with_reducible refine (eqBdR_none _ _).mono ?_
    rintro e w26 ⟨rfl, hb⟩
    replace D0 := hidden (D0.out.keep hb)
    replace B := hidden (keepB B.out hb)
    replace H := hidden (H.out.keep hb)
    replace H1 := hidden (H1.out.keep hb)
    replace H2 := hidden (H2.out.keep hb)
    replace R0 := hidden (R0.out.keep hb)
    replace X := hidden (X.out.keep hb)
    replace R1 := hidden (R1.out.keep hb)
    replace R2 := hidden (R2.out.keep hb)
    clear r00 r01 r02 r10 r11 r12 hb
    have r00 := R1.out.c0
    have r01 := R1.out.c1
    have r02 := R1.out.c2
    go_wp2_with fail
    with_reducible refine (heldBdR_none _ _).mono ?_
    rintro e w27 ⟨rfl, hb⟩
    replace D0 := hidden (D0.out.keep hb)
    replace B := hidden (keepB B.out hb)
    replace H := hidden (H.out.keep hb)
    replace H1 := hidden (H1.out.keep hb)
    replace H2 := hidden (H2.out.keep hb)
    replace R0 := hidden (R0.out.keep hb)
    replace X := hidden (X.out.keep hb)
    replace R1 := hidden (R1.out.keep hb)
    replace R2 := hidden (R2.out.keep hb)
    clear r00 r01 r02 hb
    go_wp2_with fail
    go_ret
    exact ⟨rfl, B.out⟩

set_option maxRecDepth 20000 in
set_option maxHeartbeats 400000 in
theorem law_ut_big1 (p : Option Addr) (n c : Nat) (p1 : Option Addr) (m1 c1 : Nat) (p2 : Option Addr) (m2 c2 : Nat) (w : World) (hm : ¬ m1 ≤ 1048576) :
    Calls Try.prog 4 #[.agg #[.slice p n c], .slice p1 m1 c1, .slice p2 m2 c2] w fun e w' => e = .returned (.bool true) ∧ Below w.heap.size w w' := by
  have h : (1048576 : Int) < m1 := by omega
  go_enter Try.func4, Try.ntmps4
  go_wp2
  go_ret
  exact ⟨rfl, alloc_below _ _⟩

set_option maxRecDepth 20000 in
set_option maxHeartbeats 400000 in
theorem law_ut_big2 (p : Option Addr) (n c : Nat) (p1 : Option Addr) (m1 c1 : Nat) (p2 : Option Addr) (m2 c2 : Nat) (w : World) (hm1 : m1 ≤ 1048576) (hm : ¬ m2 ≤ 1048576) :
    Calls Try.prog 4 #[.agg #[.slice p n c], .slice p1 m1 c1, .slice p2 m2 c2] w fun e w' => e = .returned (.bool true) ∧ Below w.heap.size w w' := by
  have h : (1048576 : Int) < m2 := by omega
  have h1 : ¬ (1048576 : Int) < m1 := by omega
  go_enter Try.func4, Try.ntmps4
  go_wp2
  go_ret
  exact ⟨rfl, alloc_below _ _⟩

theorem law_ut_all (p : Option Addr) (n c : Nat) (N : Nat → ByteArray) (A : Nat → Int) (p1 : Option Addr) (m1 c1 : Nat) (L1 : Nat → Int) (p2 : Option Addr) (m2 c2 : Nat) (L2 : Nat → Int) (w : World) (h : SrcS w p n N A) (h1 : SrcI w p1 m1 L1) (h2 : SrcI w p2 m2 L2) :
    Calls Try.prog 4 #[.agg #[.slice p n c], .slice p1 m1 c1, .slice p2 m2 c2] w fun e w' => e = .returned (.bool true) ∧ Below w.heap.size w w' := by
  by_cases hm1 : m1 ≤ 1048576
  · by_cases hm2 : m2 ≤ 1048576
    · have SP := hidden (fun b b1 b2 w h h1 h2 hk => specUnify_any b 0 n n b1 0 m1 m1 b2 0 m2 m2 N A L1 L2 w h h1 h2 hk hm1 hm2)
      have IM := hidden (fun b b1 b2 w h h1 h2 hk => implUnify_any b 0 n n b1 0 m1 m1 b2 0 m2 m2 N A L1 L2 w h h1 h2 hk hm1 hm2 (Nat.le_refl _) (Nat.le_refl _))
      by_cases hc : utC n N A m1 L1 m2 L2 = 0 ∧ 0 < cR (utM A m1 L1 m2 L2)
      · have hl := utM_len hc.1
        exact law_ut_ok p n c N A p1 m1 c1 L1 p2 m2 c2 L2 _ _ w h h1 hm1 h2 hm2 hc (keptD hl) (by have a := sumD_le hl (cR (utM A m1 L1 m2 L2)); have b := cR_le (utM A m1 L1 m2 L2); omega) SP IM
      · exact law_ut_bad p n c N A p1 m1 c1 L1 p2 m2 c2 L2 _ _ w h h1 hm1 h2 hm2 hc SP IM
    · exact law_ut_big2 p n c p1 m1 c1 p2 m2 c2 w hm1 hm2
  · exact law_ut_big1 p n c p1 m1 c1 p2 m2 c2 w hm1

end Go.Proofs.Ytenlogljpgdbpaa
