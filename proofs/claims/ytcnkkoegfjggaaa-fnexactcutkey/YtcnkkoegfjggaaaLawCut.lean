/- Law FnExactCutKey: at every signature and list of bytes the program's CutKey answers as the model's; its answer owns its memory. -/
import Derived.Test.YtcnkkoegfjggaaaLaw5Kit
import Derived.Test.YtcnkkoegfjggaaaCutI
namespace Go.Proofs.Ytcnkkoegfjggaaa
open Go.RowKit

set_option maxRecDepth 20000 in
set_option maxHeartbeats 12800000 in
theorem law_cut_ok (p : Option Addr) (n c : Nat) (N : Nat → ByteArray) (A : Nat → Int) (p1 : Option Addr) (m1 c1 : Nat) (l1 : List Int) (C : Int) (K1 : Nat) (U1 : Nat → Int) (K2 : Nat) (U2 : Nat → Int) (w : World) (h : SrcS w p n N A) (h1 : Byt.Src w p1 m1 l1) (hm1 : m1 ≤ 1048576) (hc : C = 0) (hK1 : K1 ≤ 1048576) (hK2 : K2 ≤ 1048576)
    (SP : Hid (∀ b b1 w, Syms w b 0 n N A → Byt.Row w b1 0 m1 l1 → Kept n N A → Calls Try.prog 24 #[.agg #[.slice (some ⟨b, 0, none⟩) n n], .slice (some ⟨b1, 0, none⟩) m1 m1] w fun e w' => KeyAns w C K1 U1 K2 U2 e w' ∧ Below w.heap.size w w'))
    (IM : Hid (∀ b b1 w, Syms w b 0 n N A → Byt.Row w b1 0 m1 l1 → Kept n N A → Calls Try.prog 25 #[.agg #[.slice (some ⟨b, 0, none⟩) n n], .slice (some ⟨b1, 0, none⟩) m1 m1] w fun e w' => KeyAns w C K1 U1 K2 U2 e w' ∧ Below w.heap.size w w')) :
    Calls Try.prog 5 #[.agg #[.slice p n c], .slice p1 m1 c1] w fun e w' => e = .returned (.bool true) ∧ Below w.heap.size w w' := by
  have Z := hidden h
  have Z1 := hidden h1
  have HBY1 := hidden (mem_getD h1.2.2.1)
  subst hc
  have HK1 := hidden hK1
  have HK2 := hidden hK2
  clear hK1 hK2
  have D0 := hidden (One.new w (.slice p n c) 24)
  have B := hidden (alloc_below w (.cells #[.slice p n c] 24))
  have H := hidden (Z.out.keep B.out)
  have H1 := hidden (Z1.out.keep B.out)
  have HM1 := hidden hm1
  clear h h1
  go_enter Try.func5, Try.ntmps5
  go_wp2_with fail
  with_reducible refine (szSignature_src p n c N A 1048576 _ H.out (by omega) (by omega)).mono ?_
  rintro e w1 ⟨⟨r1, rfl, hr⟩, hb⟩
  replace D0 := hidden (D0.out.keep hb)
  replace B := hidden (keepB B.out hb)
  replace H := hidden (H.out.keep hb)
  replace H1 := hidden (H1.out.keep hb)
  clear hb
  rcases hr with rfl | ⟨q0, q1, q2, q3⟩
  · go_wp2_with fail
    go_ret
    exact ⟨rfl, B.out⟩
  have HK := hidden (Kept.mk q2 q3 H.out.fits)
  clear q2 q3
  clear q1
  have d0 := D0.out.c0
  go_wp2_with fail
  with_reducible refine (toSig_new p n c N A _ H.out HK.out).mono ?_
  rintro e w2 ⟨g2, rfl, hg, hl, hs, hb⟩
  replace D0 := hidden (D0.out.keep hb)
  replace B := hidden (keepB B.out hb)
  replace H := hidden (H.out.keep hb)
  replace H1 := hidden (H1.out.keep hb)
  clear d0 hb hg hl
  have P := hidden (hs)
  clear hs
  go_wp2_with fail
  with_reducible refine (Byt.toByteS_new p1 m1 c1 l1 _ H1.out).mono ?_
  rintro e w3 ⟨g3, rfl, hg, hs, hb⟩
  replace D0 := hidden (D0.out.keep hb)
  replace B := hidden (keepB B.out hb)
  replace H := hidden (H.out.keep hb)
  replace H1 := hidden (H1.out.keep hb)
  replace P := hidden (P.out.keep hb)
  clear hb hg
  have P1 := hidden (hs)
  clear hs
  go_wp2_with fail
  with_reducible refine (SP.out _ _ _ P.out P1.out HK.out).mono ?_
  rintro e w4 ⟨ha, hb⟩
  rcases ha with ⟨ha, -⟩ | ⟨-, ga1, da1, ga2, da2, rfl, hg1, hg12, ho1, ho2⟩
  · exact absurd rfl ha
  have L_LWa_LWb := hidden hg12
  replace D0 := hidden (D0.out.keep hb)
  replace B := hidden (keepB B.out hb)
  replace H := hidden (H.out.keep hb)
  replace H1 := hidden (H1.out.keep hb)
  replace P := hidden (P.out.keep hb)
  replace P1 := hidden (P1.out.keep hb)
  have LWa := hidden (ho1)
  have LWb := hidden (ho2)
  clear hb ho1 ho2 hg1 hg12
  have hb := alloc_below w4 (.cells #[.int .i64 0, .slice (some ⟨ga1, 0, none⟩) K1 da1, .slice (some ⟨ga2, 0, none⟩) K2 da2] 49)
  replace D0 := hidden (D0.out.keep hb)
  replace B := hidden (keepB B.out hb)
  replace H := hidden (H.out.keep hb)
  replace H1 := hidden (H1.out.keep hb)
  replace P := hidden (P.out.keep hb)
  replace P1 := hidden (P1.out.keep hb)
  replace LWa := hidden (LWa.out.keep hb)
  replace LWb := hidden (LWb.out.keep hb)
  clear hb
  have R0 := hidden (Three.new w4 (.int .i64 0) (.slice (some ⟨ga1, 0, none⟩) K1 da1) (.slice (some ⟨ga2, 0, none⟩) K2 da2) 49)
  clear P P1
  have d0 := D0.out.c0
  go_wp2_with fail
  have BSx := hidden B.out.size
  with_reducible refine (toSignature_src p n c N A _ H.out HK.out).mono ?_
  rintro e w5 ⟨gx, rfl, hgx, hs, hb⟩
  have L_D0_Q := hidden (Nat.lt_of_lt_of_le D0.out.blk hgx)
  have L_LWa_Q := hidden (Nat.lt_of_lt_of_le LWa.out.lt hgx)
  have L_LWb_Q := hidden (Nat.lt_of_lt_of_le LWb.out.lt hgx)
  have L_R0_Q := hidden (Nat.lt_of_lt_of_le R0.out.blk hgx)
  replace D0 := hidden (D0.out.keep hb)
  replace B := hidden (keepB B.out hb)
  replace H := hidden (H.out.keep hb)
  replace H1 := hidden (H1.out.keep hb)
  replace LWa := hidden (LWa.out.keep hb)
  replace LWb := hidden (LWb.out.keep hb)
  replace R0 := hidden (R0.out.keep hb)
  have Q := hidden (hs)
  clear d0 hb
  have GX := hidden (Nat.le_trans BSx.out hgx)
  clear hs hgx BSx
  have L_Q_X := hidden (Nat.lt_of_lt_of_le Q.out.lt (Nat.le_refl _))
  have hb := alloc_below w5 (.cells #[.slice (some ⟨gx, 0, none⟩) n n] 32)
  replace D0 := hidden (D0.out.keep hb)
  replace B := hidden (keepB B.out hb)
  replace H := hidden (H.out.keep hb)
  replace H1 := hidden (H1.out.keep hb)
  replace LWa := hidden (LWa.out.keep hb)
  replace LWb := hidden (LWb.out.keep hb)
  replace R0 := hidden (R0.out.keep hb)
  replace Q := hidden (Q.out.keep hb)
  clear hb
  have X := hidden (One.new w5 (.slice (some ⟨gx, 0, none⟩) n n) 32)
  have BSx := hidden B.out.size
  go_wp2_with fail
  with_reducible refine (toBy_own p1 m1 c1 l1 _ H1.out).mono ?_
  rintro e w6 ⟨gy1, rfl, hgy, hs, hb⟩
  have L_D0_Q1 := hidden (Nat.lt_of_lt_of_le D0.out.blk hgy)
  have L_LWa_Q1 := hidden (Nat.lt_of_lt_of_le LWa.out.lt hgy)
  have L_LWb_Q1 := hidden (Nat.lt_of_lt_of_le LWb.out.lt hgy)
  have L_R0_Q1 := hidden (Nat.lt_of_lt_of_le R0.out.blk hgy)
  have L_Q_Q1 := hidden (Nat.lt_of_lt_of_le Q.out.lt hgy)
  have L_X_Q1 := hidden (Nat.lt_of_lt_of_le X.out.blk hgy)
  replace D0 := hidden (D0.out.keep hb)
  replace B := hidden (keepB B.out hb)
  replace H := hidden (H.out.keep hb)
  replace H1 := hidden (H1.out.keep hb)
  replace LWa := hidden (LWa.out.keep hb)
  replace LWb := hidden (LWb.out.keep hb)
  replace R0 := hidden (R0.out.keep hb)
  replace Q := hidden (Q.out.keep hb)
  replace X := hidden (X.out.keep hb)
  have Q1 := hidden (hs)
  clear hb
  have GY1 := hidden (Nat.le_trans BSx.out hgy)
  clear hs hgy BSx
  have x0 := X.out.c0
  go_wp2_with fail
  have BSx := hidden B.out.size
  with_reducible refine (IM.out _ _ _ (Q.out.syms HK.out.big HK.out.fits) (Q1.out.row HM1.out HBY1.out) HK.out).mono ?_
  rintro e w7 ⟨ha, hb⟩
  rcases ha with ⟨ha, -⟩ | ⟨-, gb1, db1, gb2, db2, rfl, hg1, hg12, ho1, ho2⟩
  · exact absurd rfl ha
  have L_D0_LGa := hidden (Nat.lt_of_lt_of_le D0.out.blk hg1)
  have L_LWa_LGa := hidden (Nat.lt_of_lt_of_le LWa.out.lt hg1)
  have L_LWb_LGa := hidden (Nat.lt_of_lt_of_le LWb.out.lt hg1)
  have L_R0_LGa := hidden (Nat.lt_of_lt_of_le R0.out.blk hg1)
  have L_Q_LGa := hidden (Nat.lt_of_lt_of_le Q.out.lt hg1)
  have L_X_LGa := hidden (Nat.lt_of_lt_of_le X.out.blk hg1)
  have L_Q1_LGa := hidden (Nat.lt_of_lt_of_le Q1.out.lt hg1)
  have L_D0_LGb := hidden (Nat.lt_of_lt_of_le D0.out.blk (Nat.le_of_lt (Nat.lt_of_le_of_lt hg1 hg12)))
  have L_LWa_LGb := hidden (Nat.lt_of_lt_of_le LWa.out.lt (Nat.le_of_lt (Nat.lt_of_le_of_lt hg1 hg12)))
  have L_LWb_LGb := hidden (Nat.lt_of_lt_of_le LWb.out.lt (Nat.le_of_lt (Nat.lt_of_le_of_lt hg1 hg12)))
  have L_R0_LGb := hidden (Nat.lt_of_lt_of_le R0.out.blk (Nat.le_of_lt (Nat.lt_of_le_of_lt hg1 hg12)))
  have L_Q_LGb := hidden (Nat.lt_of_lt_of_le Q.out.lt (Nat.le_of_lt (Nat.lt_of_le_of_lt hg1 hg12)))
  have L_X_LGb := hidden (Nat.lt_of_lt_of_le X.out.blk (Nat.le_of_lt (Nat.lt_of_le_of_lt hg1 hg12)))
  have L_Q1_LGb := hidden (Nat.lt_of_lt_of_le Q1.out.lt (Nat.le_of_lt (Nat.lt_of_le_of_lt hg1 hg12)))
  have L_LGa_LGb := hidden hg12
  have GBx1 := hidden hg1
  have GBx2 := hidden (Nat.le_of_lt (Nat.lt_of_le_of_lt hg1 hg12))
  replace D0 := hidden (D0.out.keep hb)
  replace B := hidden (keepB B.out hb)
  replace H := hidden (H.out.keep hb)
  replace H1 := hidden (H1.out.keep hb)
  replace LWa := hidden (LWa.out.keep hb)
  replace LWb := hidden (LWb.out.keep hb)
  replace R0 := hidden (R0.out.keep hb)
  replace Q := hidden (Q.out.keep hb)
  replace X := hidden (X.out.keep hb)
  replace Q1 := hidden (Q1.out.keep hb)
  have LGa := hidden (ho1)
  have LGb := hidden (ho2)
  clear x0 hb ho1 ho2 hg1 hg12
  have L_Q_R1 := hidden (Nat.lt_of_lt_of_le Q.out.lt (Nat.le_refl _))
  have L_Q1_R1 := hidden (Nat.lt_of_lt_of_le Q1.out.lt (Nat.le_refl _))
  have L_LGa_R1 := hidden (Nat.lt_of_lt_of_le LGa.out.lt (Nat.le_refl _))
  have L_LGb_R1 := hidden (Nat.lt_of_lt_of_le LGb.out.lt (Nat.le_refl _))
  have hb := alloc_below w7 (.cells #[.int .i64 0, .slice (some ⟨gb1, 0, none⟩) K1 db1, .slice (some ⟨gb2, 0, none⟩) K2 db2] 49)
  replace D0 := hidden (D0.out.keep hb)
  replace B := hidden (keepB B.out hb)
  replace H := hidden (H.out.keep hb)
  replace H1 := hidden (H1.out.keep hb)
  replace LWa := hidden (LWa.out.keep hb)
  replace LWb := hidden (LWb.out.keep hb)
  replace R0 := hidden (R0.out.keep hb)
  replace Q := hidden (Q.out.keep hb)
  replace X := hidden (X.out.keep hb)
  replace Q1 := hidden (Q1.out.keep hb)
  replace LGa := hidden (LGa.out.keep hb)
  replace LGb := hidden (LGb.out.keep hb)
  clear hb
  have R1 := hidden (Three.new w7 (.int .i64 0) (.slice (some ⟨gb1, 0, none⟩) K1 db1) (.slice (some ⟨gb2, 0, none⟩) K2 db2) 49)
  have r00 := R0.out.c0
  have r01 := R0.out.c1
  have r02 := R0.out.c2
  have r10 := R1.out.c0
  have r11 := R1.out.c1
  have r12 := R1.out.c2
  go_wp2_with fail
  with_reducible refine (eqKey_eq _ _ _ _ _ _ _ _ _ _ _ U1 U2 _ LGa.out.ints LWa.out.ints LGb.out.ints LWb.out.ints HK1.out HK2.out).mono ?_
  rintro e w8 ⟨rfl, hb⟩
  replace D0 := hidden (D0.out.keep hb)
  replace B := hidden (keepB B.out hb)
  replace H := hidden (H.out.keep hb)
  replace H1 := hidden (H1.out.keep hb)
  replace LWa := hidden (LWa.out.keep hb)
  replace LWb := hidden (LWb.out.keep hb)
  replace R0 := hidden (R0.out.keep hb)
  replace Q := hidden (Q.out.keep hb)
  replace X := hidden (X.out.keep hb)
  replace Q1 := hidden (Q1.out.keep hb)
  replace LGa := hidden (LGa.out.keep hb)
  replace LGb := hidden (LGb.out.keep hb)
  replace R1 := hidden (R1.out.keep hb)
  clear r00 r01 r02 r10 r11 r12 hb
  have QS := hidden (Q.out.syms HK.out.big HK.out.fits)
  have S1 := hidden (show ∀ wc, Below w8.heap.size w8 wc → Calls Try.prog 9 #[.agg #[.slice p n c]] wc fun e w' => ∃ g, e = .returned (.agg #[.slice (some ⟨g, 0, none⟩) n n]) ∧ Below w8.heap.size w8 w' ∧ Syms w' g 0 n N A ∧ w'.cell? ⟨w5.heap.size, 0, none⟩ = some (.slice (some ⟨gx, 0, none⟩) n n) from fun wc hc => by
    refine (toSig_new p n c N A wc (H.out.keep hc) HK.out).mono ?_
    rintro e w' ⟨g, rfl, hg, hl, hs, hb⟩
    exact ⟨g, rfl, keepB hc hb, hs, (X.out.keep (keepB hc hb)).c0⟩)
  have S2 := hidden (show ∀ wc g, Below w8.heap.size w8 wc → Syms wc g 0 n N A → Calls Try.prog 13 #[.agg #[.slice (some ⟨gx, 0, none⟩) n n], .agg #[.slice (some ⟨g, 0, none⟩) n n]] wc fun e w' => e = .returned (.bool true) ∧ Below w8.heap.size w8 w' from fun wc g hc hm => by
    refine (eqSignature_eq gx 0 g 0 n n n N A wc (QS.out.keep hc) hm HK.out.most).mono ?_
    rintro e w' ⟨rfl, hb⟩
    exact ⟨rfl, keepB hc hb⟩)
  have x0 := X.out.c0
  have d0 := D0.out.c0
  go_wp2_with fail
  go_cut [42] (fun t wc => t = .bool false ∧ Below w8.heap.size w8 wc)
  case first =>
    go_region_with (first
      | (go_at_call 9; with_reducible refine (S1.out _ ?_).mono ?_; exact (Below.refl _ _).drew; rintro e v5 ⟨g5', rfl, b5', m5', d5'⟩)
      | (go_at_call 13; with_reducible refine (S2.out _ _ b5' m5').mono ?_; rintro e v6 ⟨rfl, b6'⟩))
    all_goals (go_wp2_with fail; go_meet)
    all_goals exact ⟨rfl, b6'⟩
  case rest =>
    rename World => w9
    obtain ⟨rfl, hb⟩ := hcut
    replace D0 := hidden (D0.out.keep hb)
    replace B := hidden (keepB B.out hb)
    replace H := hidden (H.out.keep hb)
    replace H1 := hidden (H1.out.keep hb)
    replace LWa := hidden (LWa.out.keep hb)
    replace LWb := hidden (LWb.out.keep hb)
    replace R0 := hidden (R0.out.keep hb)
    replace Q := hidden (Q.out.keep hb)
    replace X := hidden (X.out.keep hb)
    replace Q1 := hidden (Q1.out.keep hb)
    replace LGa := hidden (LGa.out.keep hb)
    replace LGb := hidden (LGb.out.keep hb)
    replace R1 := hidden (R1.out.keep hb)
    replace QS := hidden (QS.out.keep hb)
    clear x0 d0 hb S1 S2
    clear QS
    go_wp2_with fail
    with_reducible refine (Byt.toByteS_new p1 m1 c1 l1 _ H1.out).mono ?_
    rintro e w10 ⟨g10, rfl, hg, hs, hb⟩
    replace D0 := hidden (D0.out.keep hb)
    replace B := hidden (keepB B.out hb)
    replace H := hidden (H.out.keep hb)
    replace H1 := hidden (H1.out.keep hb)
    replace LWa := hidden (LWa.out.keep hb)
    replace LWb := hidden (LWb.out.keep hb)
    replace R0 := hidden (R0.out.keep hb)
    replace Q := hidden (Q.out.keep hb)
    replace X := hidden (X.out.keep hb)
    replace Q1 := hidden (Q1.out.keep hb)
    replace LGa := hidden (LGa.out.keep hb)
    replace LGb := hidden (LGb.out.keep hb)
    replace R1 := hidden (R1.out.keep hb)
    clear hb hg
    have Q9 := hidden (hs)
    clear hs
    go_wp2_with fail
    with_reducible refine (Byt.eqByteS_eq gy1 0 _ 0 m1 m1 m1 l1 _ (Q1.out.row HM1.out HBY1.out) Q9.out).mono ?_
    rintro e w11 ⟨rfl, hb⟩
    replace D0 := hidden (D0.out.keep hb)
    replace B := hidden (keepB B.out hb)
    replace H := hidden (H.out.keep hb)
    replace H1 := hidden (H1.out.keep hb)
    replace LWa := hidden (LWa.out.keep hb)
    replace LWb := hidden (LWb.out.keep hb)
    replace R0 := hidden (R0.out.keep hb)
    replace Q := hidden (Q.out.keep hb)
    replace X := hidden (X.out.keep hb)
    replace Q1 := hidden (Q1.out.keep hb)
    replace LGa := hidden (LGa.out.keep hb)
    replace LGb := hidden (LGb.out.keep hb)
    replace R1 := hidden (R1.out.keep hb)
    replace Q9 := hidden (Q9.out.keep hb)
    clear hb
    clear Q9
    have x0 := X.out.c0
    go_wp2_with fail
    with_reducible refine (markSignature_z _ gx n n 1 N A _ Q.out HK.out.most (by omega) (by omega)).mono ?_
    rintro e w12 ⟨rfl, -, hg⟩
    replace B := hidden (grownB B.out hg GX.out)
    replace D0 := hidden (D0.out.grown hg (Nat.ne_of_lt L_D0_Q.out))
    replace H := hidden (Z.out.keep B.out)
    replace H1 := hidden (Z1.out.keep B.out)
    replace LWa := hidden (LWa.out.grown hg (Nat.ne_of_lt L_LWa_Q.out))
    replace LWb := hidden (LWb.out.grown hg (Nat.ne_of_lt L_LWb_Q.out))
    replace R0 := hidden (R0.out.grown hg (Nat.ne_of_lt L_R0_Q.out))
    replace X := hidden (X.out.grown hg (Nat.ne_of_gt L_Q_X.out))
    replace Q1 := hidden (Q1.out.grown hg (Nat.ne_of_gt L_Q_Q1.out))
    replace LGa := hidden (LGa.out.grown hg (Nat.ne_of_gt L_Q_LGa.out))
    replace LGb := hidden (LGb.out.grown hg (Nat.ne_of_gt L_Q_LGb.out))
    replace R1 := hidden (R1.out.grown hg (Nat.ne_of_gt L_Q_R1.out))
    clear Q
    clear x0 hg
    have HN1 := HK.out.most
    go_wp2_with fail
    have HMx1 := HM1.out
    with_reducible refine (markByteS_z _ gy1 m1 m1 (1 + 2 * n) _ _ Q1.out HM1.out (by omega) (by omega)).mono ?_
    rintro e w13 ⟨rfl, -, hg⟩
    replace B := hidden (grownB B.out hg GY1.out)
    replace D0 := hidden (D0.out.grown hg (Nat.ne_of_lt L_D0_Q1.out))
    replace H := hidden (Z.out.keep B.out)
    replace H1 := hidden (Z1.out.keep B.out)
    replace LWa := hidden (LWa.out.grown hg (Nat.ne_of_lt L_LWa_Q1.out))
    replace LWb := hidden (LWb.out.grown hg (Nat.ne_of_lt L_LWb_Q1.out))
    replace R0 := hidden (R0.out.grown hg (Nat.ne_of_lt L_R0_Q1.out))
    replace X := hidden (X.out.grown hg (Nat.ne_of_lt L_X_Q1.out))
    replace LGa := hidden (LGa.out.grown hg (Nat.ne_of_gt L_Q1_LGa.out))
    replace LGb := hidden (LGb.out.grown hg (Nat.ne_of_gt L_Q1_LGb.out))
    replace R1 := hidden (R1.out.grown hg (Nat.ne_of_gt L_Q1_R1.out))
    clear Q1
    clear hg
    have r00 := R0.out.c0
    have r01 := R0.out.c1
    have r02 := R0.out.c2
    have r10 := R1.out.c0
    have r11 := R1.out.c1
    have r12 := R1.out.c2
    have hkk : decide (((1 : Int) + 2 * n + m1) < 0) = false := by simp; omega
    go_wp2_with fail
    with_reducible refine (eqKey_eq _ _ _ _ _ _ _ _ _ _ _ U1 U2 _ LGa.out.ints LWa.out.ints LGb.out.ints LWb.out.ints HK1.out HK2.out).mono ?_
    rintro e w14 ⟨rfl, hb⟩
    replace D0 := hidden (D0.out.keep hb)
    replace B := hidden (keepB B.out hb)
    replace H := hidden (H.out.keep hb)
    replace H1 := hidden (H1.out.keep hb)
    replace LWa := hidden (LWa.out.keep hb)
    replace LWb := hidden (LWb.out.keep hb)
    replace R0 := hidden (R0.out.keep hb)
    replace X := hidden (X.out.keep hb)
    replace LGa := hidden (LGa.out.keep hb)
    replace LGb := hidden (LGb.out.keep hb)
    replace R1 := hidden (R1.out.keep hb)
    clear r00 r01 r02 r10 r11 r12 hb
    have r00 := R1.out.c0
    have r01 := R1.out.c1
    have r02 := R1.out.c2
    go_wp2_with fail
    have GB1 := hidden (show w.heap.size ≤ gb1 from Nat.le_trans BSx.out GBx1.out)
    have GB2 := hidden (show w.heap.size ≤ gb2 from Nat.le_trans BSx.out GBx2.out)
    with_reducible refine (markKey_z _ _ gb1 K1 db1 U1 _ gb2 K2 db2 U2 _ LGa.out LGb.out L_LGa_LGb.out HK1.out HK2.out).mono ?_
    rintro e w15 ⟨rfl, wm, hg1, hg2, ho1, ho2⟩
    replace B := hidden (grownB (grownB B.out hg1 GB1.out) hg2 GB2.out)
    replace D0 := hidden ((D0.out.grown hg1 (Nat.ne_of_lt L_D0_LGa.out)).grown hg2 (Nat.ne_of_lt L_D0_LGb.out))
    replace H := hidden (Z.out.keep B.out)
    replace H1 := hidden (Z1.out.keep B.out)
    replace LWa := hidden ((LWa.out.grown hg1 (Nat.ne_of_lt L_LWa_LGa.out)).grown hg2 (Nat.ne_of_lt L_LWa_LGb.out))
    replace LWb := hidden ((LWb.out.grown hg1 (Nat.ne_of_lt L_LWb_LGa.out)).grown hg2 (Nat.ne_of_lt L_LWb_LGb.out))
    replace R0 := hidden ((R0.out.grown hg1 (Nat.ne_of_lt L_R0_LGa.out)).grown hg2 (Nat.ne_of_lt L_R0_LGb.out))
    replace X := hidden ((X.out.grown hg1 (Nat.ne_of_lt L_X_LGa.out)).grown hg2 (Nat.ne_of_lt L_X_LGb.out))
    replace R1 := hidden ((R1.out.grown hg1 (Nat.ne_of_gt L_LGa_R1.out)).grown hg2 (Nat.ne_of_gt L_LGb_R1.out))
    replace LGa := hidden ho1
    replace LGb := hidden ho2
    clear r00 r01 r02 hg1 hg2 ho1 ho2
    have hq : ¬ (1 : Int) + K1 + K2 < 0 := by omega
    have r00 := R1.out.c0
    have r01 := R1.out.c1
    have r02 := R1.out.c2
    go_wp2_with fail
    with_reducible refine (heldKey_z _ gb1 K1 db1 gb2 K2 db2 _ LGa.out.ints LGb.out.ints HK1.out HK2.out).mono ?_
    rintro e w16 ⟨rfl, hb⟩
    replace D0 := hidden (D0.out.keep hb)
    replace B := hidden (keepB B.out hb)
    replace H := hidden (H.out.keep hb)
    replace H1 := hidden (H1.out.keep hb)
    replace LWa := hidden (LWa.out.keep hb)
    replace LWb := hidden (LWb.out.keep hb)
    replace R0 := hidden (R0.out.keep hb)
    replace X := hidden (X.out.keep hb)
    replace LGa := hidden (LGa.out.keep hb)
    replace LGb := hidden (LGb.out.keep hb)
    replace R1 := hidden (R1.out.keep hb)
    clear r00 r01 r02 hb
    have d0 := D0.out.c0
    go_wp2_with fail
    with_reducible refine (toSig_new p n c N A _ H.out HK.out).mono ?_
    rintro e w17 ⟨g17, rfl, hg, hl, hs, hb⟩
    replace D0 := hidden (D0.out.keep hb)
    replace B := hidden (keepB B.out hb)
    replace H := hidden (H.out.keep hb)
    replace H1 := hidden (H1.out.keep hb)
    replace LWa := hidden (LWa.out.keep hb)
    replace LWb := hidden (LWb.out.keep hb)
    replace R0 := hidden (R0.out.keep hb)
    replace X := hidden (X.out.keep hb)
    replace LGa := hidden (LGa.out.keep hb)
    replace LGb := hidden (LGb.out.keep hb)
    replace R1 := hidden (R1.out.keep hb)
    clear d0 hb hg hl
    have P := hidden (hs)
    clear hs
    go_wp2_with fail
    with_reducible refine (Byt.toByteS_new p1 m1 c1 l1 _ H1.out).mono ?_
    rintro e w18 ⟨g18, rfl, hg, hs, hb⟩
    replace D0 := hidden (D0.out.keep hb)
    replace B := hidden (keepB B.out hb)
    replace H := hidden (H.out.keep hb)
    replace H1 := hidden (H1.out.keep hb)
    replace LWa := hidden (LWa.out.keep hb)
    replace LWb := hidden (LWb.out.keep hb)
    replace R0 := hidden (R0.out.keep hb)
    replace X := hidden (X.out.keep hb)
    replace LGa := hidden (LGa.out.keep hb)
    replace LGb := hidden (LGb.out.keep hb)
    replace R1 := hidden (R1.out.keep hb)
    replace P := hidden (P.out.keep hb)
    clear hb hg
    have P1 := hidden (hs)
    clear hs
    go_wp2_with fail
    with_reducible refine (IM.out _ _ _ P.out P1.out HK.out).mono ?_
    rintro e w19 ⟨ha, hb⟩
    rcases ha with ⟨ha, -⟩ | ⟨-, gc1, dc1, gc2, dc2, rfl, hg1, hg12, ho1, ho2⟩
    · exact absurd rfl ha
    have L_LGa_LHa := hidden (Nat.lt_of_lt_of_le LGa.out.lt hg1)
    have L_LGb_LHa := hidden (Nat.lt_of_lt_of_le LGb.out.lt hg1)
    have L_LGa_LHb := hidden (Nat.lt_of_lt_of_le LGa.out.lt (Nat.le_of_lt (Nat.lt_of_le_of_lt hg1 hg12)))
    have L_LGb_LHb := hidden (Nat.lt_of_lt_of_le LGb.out.lt (Nat.le_of_lt (Nat.lt_of_le_of_lt hg1 hg12)))
    have L_LHa_LHb := hidden hg12
    replace D0 := hidden (D0.out.keep hb)
    replace B := hidden (keepB B.out hb)
    replace H := hidden (H.out.keep hb)
    replace H1 := hidden (H1.out.keep hb)
    replace LWa := hidden (LWa.out.keep hb)
    replace LWb := hidden (LWb.out.keep hb)
    replace R0 := hidden (R0.out.keep hb)
    replace X := hidden (X.out.keep hb)
    replace LGa := hidden (LGa.out.keep hb)
    replace LGb := hidden (LGb.out.keep hb)
    replace R1 := hidden (R1.out.keep hb)
    replace P := hidden (P.out.keep hb)
    replace P1 := hidden (P1.out.keep hb)
    have LHa := hidden (ho1)
    have LHb := hidden (ho2)
    clear hb ho1 ho2 hg1 hg12
    have L_LGa_R2 := hidden (Nat.lt_of_lt_of_le LGa.out.lt (Nat.le_refl _))
    have L_LGb_R2 := hidden (Nat.lt_of_lt_of_le LGb.out.lt (Nat.le_refl _))
    have hb := alloc_below w19 (.cells #[.int .i64 0, .slice (some ⟨gc1, 0, none⟩) K1 dc1, .slice (some ⟨gc2, 0, none⟩) K2 dc2] 49)
    replace D0 := hidden (D0.out.keep hb)
    replace B := hidden (keepB B.out hb)
    replace H := hidden (H.out.keep hb)
    replace H1 := hidden (H1.out.keep hb)
    replace LWa := hidden (LWa.out.keep hb)
    replace LWb := hidden (LWb.out.keep hb)
    replace R0 := hidden (R0.out.keep hb)
    replace X := hidden (X.out.keep hb)
    replace LGa := hidden (LGa.out.keep hb)
    replace LGb := hidden (LGb.out.keep hb)
    replace R1 := hidden (R1.out.keep hb)
    replace P := hidden (P.out.keep hb)
    replace P1 := hidden (P1.out.keep hb)
    replace LHa := hidden (LHa.out.keep hb)
    replace LHb := hidden (LHb.out.keep hb)
    clear hb
    have R2 := hidden (Three.new w19 (.int .i64 0) (.slice (some ⟨gc1, 0, none⟩) K1 dc1) (.slice (some ⟨gc2, 0, none⟩) K2 dc2) 49)
    clear P P1
    have r00 := R0.out.c0
    have r01 := R0.out.c1
    have r02 := R0.out.c2
    have r10 := R2.out.c0
    have r11 := R2.out.c1
    have r12 := R2.out.c2
    go_wp2_with fail
    with_reducible refine (eqKey_eq _ _ _ _ _ _ _ _ _ _ _ U1 U2 _ LHa.out.ints LWa.out.ints LHb.out.ints LWb.out.ints HK1.out HK2.out).mono ?_
    rintro e w20 ⟨rfl, hb⟩
    replace D0 := hidden (D0.out.keep hb)
    replace B := hidden (keepB B.out hb)
    replace H := hidden (H.out.keep hb)
    replace H1 := hidden (H1.out.keep hb)
    replace LWa := hidden (LWa.out.keep hb)
    replace LWb := hidden (LWb.out.keep hb)
    replace R0 := hidden (R0.out.keep hb)
    replace X := hidden (X.out.keep hb)
    replace LGa := hidden (LGa.out.keep hb)
    replace LGb := hidden (LGb.out.keep hb)
    replace R1 := hidden (R1.out.keep hb)
    replace LHa := hidden (LHa.out.keep hb)
    replace LHb := hidden (LHb.out.keep hb)
    replace R2 := hidden (R2.out.keep hb)
    clear r00 r01 r02 r10 r11 r12 hb
    have r00 := R1.out.c0
    have r01 := R1.out.c1
    have r02 := R1.out.c2
    go_wp2_with fail
    with_reducible refine (heldKey_z _ gb1 K1 db1 gb2 K2 db2 _ LGa.out.ints LGb.out.ints HK1.out HK2.out).mono ?_
    rintro e w21 ⟨rfl, hb⟩
    replace D0 := hidden (D0.out.keep hb)
    replace B := hidden (keepB B.out hb)
    replace H := hidden (H.out.keep hb)
    replace H1 := hidden (H1.out.keep hb)
    replace LWa := hidden (LWa.out.keep hb)
    replace LWb := hidden (LWb.out.keep hb)
    replace R0 := hidden (R0.out.keep hb)
    replace X := hidden (X.out.keep hb)
    replace LGa := hidden (LGa.out.keep hb)
    replace LGb := hidden (LGb.out.keep hb)
    replace R1 := hidden (R1.out.keep hb)
    replace LHa := hidden (LHa.out.keep hb)
    replace LHb := hidden (LHb.out.keep hb)
    replace R2 := hidden (R2.out.keep hb)
    clear r00 r01 r02 hb
    go_wp2_with fail
    go_ret
    exact ⟨rfl, B.out⟩

set_option maxRecDepth 20000 in
set_option maxHeartbeats 12800000 in
theorem law_cut_bad (p : Option Addr) (n c : Nat) (N : Nat → ByteArray) (A : Nat → Int) (p1 : Option Addr) (m1 c1 : Nat) (l1 : List Int) (C : Int) (K1 : Nat) (U1 : Nat → Int) (K2 : Nat) (U2 : Nat → Int) (w : World) (h : SrcS w p n N A) (h1 : Byt.Src w p1 m1 l1) (hm1 : m1 ≤ 1048576) (hc : C ≠ 0)
    (SP : Hid (∀ b b1 w, Syms w b 0 n N A → Byt.Row w b1 0 m1 l1 → Kept n N A → Calls Try.prog 24 #[.agg #[.slice (some ⟨b, 0, none⟩) n n], .slice (some ⟨b1, 0, none⟩) m1 m1] w fun e w' => KeyAns w C K1 U1 K2 U2 e w' ∧ Below w.heap.size w w'))
    (IM : Hid (∀ b b1 w, Syms w b 0 n N A → Byt.Row w b1 0 m1 l1 → Kept n N A → Calls Try.prog 25 #[.agg #[.slice (some ⟨b, 0, none⟩) n n], .slice (some ⟨b1, 0, none⟩) m1 m1] w fun e w' => KeyAns w C K1 U1 K2 U2 e w' ∧ Below w.heap.size w w')) :
    Calls Try.prog 5 #[.agg #[.slice p n c], .slice p1 m1 c1] w fun e w' => e = .returned (.bool true) ∧ Below w.heap.size w w' := by
  have Z := hidden h
  have Z1 := hidden h1
  have HBY1 := hidden (mem_getD h1.2.2.1)
  have HC := hidden hc
  clear hc
  have D0 := hidden (One.new w (.slice p n c) 24)
  have B := hidden (alloc_below w (.cells #[.slice p n c] 24))
  have H := hidden (Z.out.keep B.out)
  have H1 := hidden (Z1.out.keep B.out)
  have HM1 := hidden hm1
  clear h h1
  go_enter Try.func5, Try.ntmps5
  go_wp2_with fail
  with_reducible refine (szSignature_src p n c N A 1048576 _ H.out (by omega) (by omega)).mono ?_
  rintro e w1 ⟨⟨r1, rfl, hr⟩, hb⟩
  replace D0 := hidden (D0.out.keep hb)
  replace B := hidden (keepB B.out hb)
  replace H := hidden (H.out.keep hb)
  replace H1 := hidden (H1.out.keep hb)
  clear hb
  rcases hr with rfl | ⟨q0, q1, q2, q3⟩
  · go_wp2_with fail
    go_ret
    exact ⟨rfl, B.out⟩
  have HK := hidden (Kept.mk q2 q3 H.out.fits)
  clear q2 q3
  clear q1
  have d0 := D0.out.c0
  go_wp2_with fail
  with_reducible refine (toSig_new p n c N A _ H.out HK.out).mono ?_
  rintro e w2 ⟨g2, rfl, hg, hl, hs, hb⟩
  replace D0 := hidden (D0.out.keep hb)
  replace B := hidden (keepB B.out hb)
  replace H := hidden (H.out.keep hb)
  replace H1 := hidden (H1.out.keep hb)
  clear d0 hb hg hl
  have P := hidden (hs)
  clear hs
  go_wp2_with fail
  with_reducible refine (Byt.toByteS_new p1 m1 c1 l1 _ H1.out).mono ?_
  rintro e w3 ⟨g3, rfl, hg, hs, hb⟩
  replace D0 := hidden (D0.out.keep hb)
  replace B := hidden (keepB B.out hb)
  replace H := hidden (H.out.keep hb)
  replace H1 := hidden (H1.out.keep hb)
  replace P := hidden (P.out.keep hb)
  clear hb hg
  have P1 := hidden (hs)
  clear hs
  go_wp2_with fail
  with_reducible refine (SP.out _ _ _ P.out P1.out HK.out).mono ?_
  rintro e w4 ⟨ha, hb⟩
  replace D0 := hidden (D0.out.keep hb)
  replace B := hidden (keepB B.out hb)
  replace H := hidden (H.out.keep hb)
  replace H1 := hidden (H1.out.keep hb)
  replace P := hidden (P.out.keep hb)
  replace P1 := hidden (P1.out.keep hb)
  clear hb
  rcases ha with ⟨-, rfl⟩ | ⟨ha, -⟩
  rotate_left
  · exact absurd ha HC.out
  have hb := alloc_below w4 (.cells #[.int .i64 C, .slice none 0 0, .slice none 0 0] 49)
  replace D0 := hidden (D0.out.keep hb)
  replace B := hidden (keepB B.out hb)
  replace H := hidden (H.out.keep hb)
  replace H1 := hidden (H1.out.keep hb)
  replace P := hidden (P.out.keep hb)
  replace P1 := hidden (P1.out.keep hb)
  clear hb
  have R0 := hidden (Three.new w4 (.int .i64 C) (.slice none 0 0) (.slice none 0 0) 49)
  clear P P1
  have d0 := D0.out.c0
  go_wp2_with fail
  have BSx := hidden B.out.size
  with_reducible refine (toSignature_src p n c N A _ H.out HK.out).mono ?_
  rintro e w5 ⟨gx, rfl, hgx, hs, hb⟩
  have L_D0_Q := hidden (Nat.lt_of_lt_of_le D0.out.blk hgx)
  have L_R0_Q := hidden (Nat.lt_of_lt_of_le R0.out.blk hgx)
  replace D0 := hidden (D0.out.keep hb)
  replace B := hidden (keepB B.out hb)
  replace H := hidden (H.out.keep hb)
  replace H1 := hidden (H1.out.keep hb)
  replace R0 := hidden (R0.out.keep hb)
  have Q := hidden (hs)
  clear d0 hb
  have GX := hidden (Nat.le_trans BSx.out hgx)
  clear hs hgx BSx
  have L_Q_X := hidden (Nat.lt_of_lt_of_le Q.out.lt (Nat.le_refl _))
  have hb := alloc_below w5 (.cells #[.slice (some ⟨gx, 0, none⟩) n n] 32)
  replace D0 := hidden (D0.out.keep hb)
  replace B := hidden (keepB B.out hb)
  replace H := hidden (H.out.keep hb)
  replace H1 := hidden (H1.out.keep hb)
  replace R0 := hidden (R0.out.keep hb)
  replace Q := hidden (Q.out.keep hb)
  clear hb
  have X := hidden (One.new w5 (.slice (some ⟨gx, 0, none⟩) n n) 32)
  have BSx := hidden B.out.size
  go_wp2_with fail
  with_reducible refine (toBy_own p1 m1 c1 l1 _ H1.out).mono ?_
  rintro e w6 ⟨gy1, rfl, hgy, hs, hb⟩
  have L_D0_Q1 := hidden (Nat.lt_of_lt_of_le D0.out.blk hgy)
  have L_R0_Q1 := hidden (Nat.lt_of_lt_of_le R0.out.blk hgy)
  have L_Q_Q1 := hidden (Nat.lt_of_lt_of_le Q.out.lt hgy)
  have L_X_Q1 := hidden (Nat.lt_of_lt_of_le X.out.blk hgy)
  replace D0 := hidden (D0.out.keep hb)
  replace B := hidden (keepB B.out hb)
  replace H := hidden (H.out.keep hb)
  replace H1 := hidden (H1.out.keep hb)
  replace R0 := hidden (R0.out.keep hb)
  replace Q := hidden (Q.out.keep hb)
  replace X := hidden (X.out.keep hb)
  have Q1 := hidden (hs)
  clear hb
  have GY1 := hidden (Nat.le_trans BSx.out hgy)
  clear hs hgy BSx
  have x0 := X.out.c0
  go_wp2_with fail
  have BSx := hidden B.out.size
  with_reducible refine (IM.out _ _ _ (Q.out.syms HK.out.big HK.out.fits) (Q1.out.row HM1.out HBY1.out) HK.out).mono ?_
  rintro e w7 ⟨ha, hb⟩
  replace D0 := hidden (D0.out.keep hb)
  replace B := hidden (keepB B.out hb)
  replace H := hidden (H.out.keep hb)
  replace H1 := hidden (H1.out.keep hb)
  replace R0 := hidden (R0.out.keep hb)
  replace Q := hidden (Q.out.keep hb)
  replace X := hidden (X.out.keep hb)
  replace Q1 := hidden (Q1.out.keep hb)
  clear x0 hb
  rcases ha with ⟨-, rfl⟩ | ⟨ha, -⟩
  rotate_left
  · exact absurd ha HC.out
  have L_Q_R1 := hidden (Nat.lt_of_lt_of_le Q.out.lt (Nat.le_refl _))
  have L_Q1_R1 := hidden (Nat.lt_of_lt_of_le Q1.out.lt (Nat.le_refl _))
  have hb := alloc_below w7 (.cells #[.int .i64 C, .slice none 0 0, .slice none 0 0] 49)
  replace D0 := hidden (D0.out.keep hb)
  replace B := hidden (keepB B.out hb)
  replace H := hidden (H.out.keep hb)
  replace H1 := hidden (H1.out.keep hb)
  replace R0 := hidden (R0.out.keep hb)
  replace Q := hidden (Q.out.keep hb)
  replace X := hidden (X.out.keep hb)
  replace Q1 := hidden (Q1.out.keep hb)
  clear hb
  have R1 := hidden (Three.new w7 (.int .i64 C) (.slice none 0 0) (.slice none 0 0) 49)
  have r00 := R0.out.c0
  have r01 := R0.out.c1
  have r02 := R0.out.c2
  have r10 := R1.out.c0
  have r11 := R1.out.c1
  have r12 := R1.out.c2
  go_wp2_with fail
  with_reducible refine (eqKey_none _ _).mono ?_
  rintro e w8 ⟨rfl, hb⟩
  replace D0 := hidden (D0.out.keep hb)
  replace B := hidden (keepB B.out hb)
  replace H := hidden (H.out.keep hb)
  replace H1 := hidden (H1.out.keep hb)
  replace R0 := hidden (R0.out.keep hb)
  replace Q := hidden (Q.out.keep hb)
  replace X := hidden (X.out.keep hb)
  replace Q1 := hidden (Q1.out.keep hb)
  replace R1 := hidden (R1.out.keep hb)
  clear r00 r01 r02 r10 r11 r12 hb
  have QS := hidden (Q.out.syms HK.out.big HK.out.fits)
  have S1 := hidden (show ∀ wc, Below w8.heap.size w8 wc → Calls Try.prog 9 #[.agg #[.slice p n c]] wc fun e w' => ∃ g, e = .returned (.agg #[.slice (some ⟨g, 0, none⟩) n n]) ∧ Below w8.heap.size w8 w' ∧ Syms w' g 0 n N A ∧ w'.cell? ⟨w5.heap.size, 0, none⟩ = some (.slice (some ⟨gx, 0, none⟩) n n) from fun wc hc => by
    refine (toSig_new p n c N A wc (H.out.keep hc) HK.out).mono ?_
    rintro e w' ⟨g, rfl, hg, hl, hs, hb⟩
    exact ⟨g, rfl, keepB hc hb, hs, (X.out.keep (keepB hc hb)).c0⟩)
  have S2 := hidden (show ∀ wc g, Below w8.heap.size w8 wc → Syms wc g 0 n N A → Calls Try.prog 13 #[.agg #[.slice (some ⟨gx, 0, none⟩) n n], .agg #[.slice (some ⟨g, 0, none⟩) n n]] wc fun e w' => e = .returned (.bool true) ∧ Below w8.heap.size w8 w' from fun wc g hc hm => by
    refine (eqSignature_eq gx 0 g 0 n n n N A wc (QS.out.keep hc) hm HK.out.most).mono ?_
    rintro e w' ⟨rfl, hb⟩
    exact ⟨rfl, keepB hc hb⟩)
  have x0 := X.out.c0
  have d0 := D0.out.c0
  go_wp2_with fail
  go_cut [42] (fun t wc => t = .bool false ∧ Below w8.heap.size w8 wc)
  case first =>
    go_region_with (first
      | (go_at_call 9; with_reducible refine (S1.out _ ?_).mono ?_; exact (Below.refl _ _).drew; rintro e v5 ⟨g5', rfl, b5', m5', d5'⟩)
      | (go_at_call 13; with_reducible refine (S2.out _ _ b5' m5').mono ?_; rintro e v6 ⟨rfl, b6'⟩))
    all_goals (go_wp2_with fail; go_meet)
    all_goals exact ⟨rfl, b6'⟩
  case rest =>
    rename World => w9
    obtain ⟨rfl, hb⟩ := hcut
    replace D0 := hidden (D0.out.keep hb)
    replace B := hidden (keepB B.out hb)
    replace H := hidden (H.out.keep hb)
    replace H1 := hidden (H1.out.keep hb)
    replace R0 := hidden (R0.out.keep hb)
    replace Q := hidden (Q.out.keep hb)
    replace X := hidden (X.out.keep hb)
    replace Q1 := hidden (Q1.out.keep hb)
    replace R1 := hidden (R1.out.keep hb)
    replace QS := hidden (QS.out.keep hb)
    clear x0 d0 hb S1 S2
    clear QS
    go_wp2_with fail
    with_reducible refine (Byt.toByteS_new p1 m1 c1 l1 _ H1.out).mono ?_
    rintro e w10 ⟨g10, rfl, hg, hs, hb⟩
    replace D0 := hidden (D0.out.keep hb)
    replace B := hidden (keepB B.out hb)
    replace H := hidden (H.out.keep hb)
    replace H1 := hidden (H1.out.keep hb)
    replace R0 := hidden (R0.out.keep hb)
    replace Q := hidden (Q.out.keep hb)
    replace X := hidden (X.out.keep hb)
    replace Q1 := hidden (Q1.out.keep hb)
    replace R1 := hidden (R1.out.keep hb)
    clear hb hg
    have Q9 := hidden (hs)
    clear hs
    go_wp2_with fail
    with_reducible refine (Byt.eqByteS_eq gy1 0 _ 0 m1 m1 m1 l1 _ (Q1.out.row HM1.out HBY1.out) Q9.out).mono ?_
    rintro e w11 ⟨rfl, hb⟩
    replace D0 := hidden (D0.out.keep hb)
    replace B := hidden (keepB B.out hb)
    replace H := hidden (H.out.keep hb)
    replace H1 := hidden (H1.out.keep hb)
    replace R0 := hidden (R0.out.keep hb)
    replace Q := hidden (Q.out.keep hb)
    replace X := hidden (X.out.keep hb)
    replace Q1 := hidden (Q1.out.keep hb)
    replace R1 := hidden (R1.out.keep hb)
    replace Q9 := hidden (Q9.out.keep hb)
    clear hb
    clear Q9
    have x0 := X.out.c0
    go_wp2_with fail
    with_reducible refine (markSignature_z _ gx n n 1 N A _ Q.out HK.out.most (by omega) (by omega)).mono ?_
    rintro e w12 ⟨rfl, -, hg⟩
    replace B := hidden (grownB B.out hg GX.out)
    replace D0 := hidden (D0.out.grown hg (Nat.ne_of_lt L_D0_Q.out))
    replace H := hidden (Z.out.keep B.out)
    replace H1 := hidden (Z1.out.keep B.out)
    replace R0 := hidden (R0.out.grown hg (Nat.ne_of_lt L_R0_Q.out))
    replace X := hidden (X.out.grown hg (Nat.ne_of_gt L_Q_X.out))
    replace Q1 := hidden (Q1.out.grown hg (Nat.ne_of_gt L_Q_Q1.out))
    replace R1 := hidden (R1.out.grown hg (Nat.ne_of_gt L_Q_R1.out))
    clear Q
    clear x0 hg
    have HN1 := HK.out.most
    go_wp2_with fail
    have HMx1 := HM1.out
    with_reducible refine (markByteS_z _ gy1 m1 m1 (1 + 2 * n) _ _ Q1.out HM1.out (by omega) (by omega)).mono ?_
    rintro e w13 ⟨rfl, -, hg⟩
    replace B := hidden (grownB B.out hg GY1.out)
    replace D0 := hidden (D0.out.grown hg (Nat.ne_of_lt L_D0_Q1.out))
    replace H := hidden (Z.out.keep B.out)
    replace H1 := hidden (Z1.out.keep B.out)
    replace R0 := hidden (R0.out.grown hg (Nat.ne_of_lt L_R0_Q1.out))
    replace X := hidden (X.out.grown hg (Nat.ne_of_lt L_X_Q1.out))
    replace R1 := hidden (R1.out.grown hg (Nat.ne_of_gt L_Q1_R1.out))
    clear Q1
    clear hg
    have r00 := R0.out.c0
    have r01 := R0.out.c1
    have r02 := R0.out.c2
    have r10 := R1.out.c0
    have r11 := R1.out.c1
    have r12 := R1.out.c2
    have hkk : decide (((1 : Int) + 2 * n + m1) < 0) = false := by simp; omega
    go_wp2_with fail
    with_reducible refine (eqKey_none _ _).mono ?_
    rintro e w14 ⟨rfl, hb⟩
    replace D0 := hidden (D0.out.keep hb)
    replace B := hidden (keepB B.out hb)
    replace H := hidden (H.out.keep hb)
    replace H1 := hidden (H1.out.keep hb)
    replace R0 := hidden (R0.out.keep hb)
    replace X := hidden (X.out.keep hb)
    replace R1 := hidden (R1.out.keep hb)
    clear r00 r01 r02 r10 r11 r12 hb
    have r00 := R1.out.c0
    have r01 := R1.out.c1
    have r02 := R1.out.c2
    go_wp2_with fail
    with_reducible refine (markKey_none _ _).mono ?_
    rintro e w15 ⟨rfl, hb⟩
    replace D0 := hidden (D0.out.keep hb)
    replace B := hidden (keepB B.out hb)
    replace H := hidden (H.out.keep hb)
    replace H1 := hidden (H1.out.keep hb)
    replace R0 := hidden (R0.out.keep hb)
    replace X := hidden (X.out.keep hb)
    replace R1 := hidden (R1.out.keep hb)
    clear r00 r01 r02 hb
    have r00 := R1.out.c0
    have r01 := R1.out.c1
    have r02 := R1.out.c2
    go_wp2_with fail
    with_reducible refine (heldKey_none _ _).mono ?_
    rintro e w16 ⟨rfl, hb⟩
    replace D0 := hidden (D0.out.keep hb)
    replace B := hidden (keepB B.out hb)
    replace H := hidden (H.out.keep hb)
    replace H1 := hidden (H1.out.keep hb)
    replace R0 := hidden (R0.out.keep hb)
    replace X := hidden (X.out.keep hb)
    replace R1 := hidden (R1.out.keep hb)
    clear r00 r01 r02 hb
    have d0 := D0.out.c0
    go_wp2_with fail
    with_reducible refine (toSig_new p n c N A _ H.out HK.out).mono ?_
    rintro e w17 ⟨g17, rfl, hg, hl, hs, hb⟩
    replace D0 := hidden (D0.out.keep hb)
    replace B := hidden (keepB B.out hb)
    replace H := hidden (H.out.keep hb)
    replace H1 := hidden (H1.out.keep hb)
    replace R0 := hidden (R0.out.keep hb)
    replace X := hidden (X.out.keep hb)
    replace R1 := hidden (R1.out.keep hb)
    clear d0 hb hg hl
    have P := hidden (hs)
    clear hs
    go_wp2_with fail
    with_reducible refine (Byt.toByteS_new p1 m1 c1 l1 _ H1.out).mono ?_
    rintro e w18 ⟨g18, rfl, hg, hs, hb⟩
    replace D0 := hidden (D0.out.keep hb)
    replace B := hidden (keepB B.out hb)
    replace H := hidden (H.out.keep hb)
    replace H1 := hidden (H1.out.keep hb)
    replace R0 := hidden (R0.out.keep hb)
    replace X := hidden (X.out.keep hb)
    replace R1 := hidden (R1.out.keep hb)
    replace P := hidden (P.out.keep hb)
    clear hb hg
    have P1 := hidden (hs)
    clear hs
    go_wp2_with fail
    with_reducible refine (IM.out _ _ _ P.out P1.out HK.out).mono ?_
    rintro e w19 ⟨ha, hb⟩
    replace D0 := hidden (D0.out.keep hb)
    replace B := hidden (keepB B.out hb)
    replace H := hidden (H.out.keep hb)
    replace H1 := hidden (H1.out.keep hb)
    replace R0 := hidden (R0.out.keep hb)
    replace X := hidden (X.out.keep hb)
    replace R1 := hidden (R1.out.keep hb)
    replace P := hidden (P.out.keep hb)
    replace P1 := hidden (P1.out.keep hb)
    clear hb
    rcases ha with ⟨-, rfl⟩ | ⟨ha, -⟩
    rotate_left
    · exact absurd ha HC.out
    have hb := alloc_below w19 (.cells #[.int .i64 C, .slice none 0 0, .slice none 0 0] 49)
    replace D0 := hidden (D0.out.keep hb)
    replace B := hidden (keepB B.out hb)
    replace H := hidden (H.out.keep hb)
    replace H1 := hidden (H1.out.keep hb)
    replace R0 := hidden (R0.out.keep hb)
    replace X := hidden (X.out.keep hb)
    replace R1 := hidden (R1.out.keep hb)
    replace P := hidden (P.out.keep hb)
    replace P1 := hidden (P1.out.keep hb)
    clear hb
    have R2 := hidden (Three.new w19 (.int .i64 C) (.slice none 0 0) (.slice none 0 0) 49)
    clear P P1
    have r00 := R0.out.c0
    have r01 := R0.out.c1
    have r02 := R0.out.c2
    have r10 := R2.out.c0
    have r11 := R2.out.c1
    have r12 := R2.out.c2
    go_wp2_with fail
    with_reducible refine (eqKey_none _ _).mono ?_
    rintro e w20 ⟨rfl, hb⟩
    replace D0 := hidden (D0.out.keep hb)
    replace B := hidden (keepB B.out hb)
    replace H := hidden (H.out.keep hb)
    replace H1 := hidden (H1.out.keep hb)
    replace R0 := hidden (R0.out.keep hb)
    replace X := hidden (X.out.keep hb)
    replace R1 := hidden (R1.out.keep hb)
    replace R2 := hidden (R2.out.keep hb)
    clear r00 r01 r02 r10 r11 r12 hb
    have r00 := R1.out.c0
    have r01 := R1.out.c1
    have r02 := R1.out.c2
    go_wp2_with fail
    with_reducible refine (heldKey_none _ _).mono ?_
    rintro e w21 ⟨rfl, hb⟩
    replace D0 := hidden (D0.out.keep hb)
    replace B := hidden (keepB B.out hb)
    replace H := hidden (H.out.keep hb)
    replace H1 := hidden (H1.out.keep hb)
    replace R0 := hidden (R0.out.keep hb)
    replace X := hidden (X.out.keep hb)
    replace R1 := hidden (R1.out.keep hb)
    replace R2 := hidden (R2.out.keep hb)
    clear r00 r01 r02 hb
    go_wp2_with fail
    go_ret
    exact ⟨rfl, B.out⟩

set_option maxRecDepth 20000 in
set_option maxHeartbeats 400000 in
theorem law_cut_big1 (p : Option Addr) (n c : Nat) (p1 : Option Addr) (m1 c1 : Nat) (w : World) (hm : ¬ m1 ≤ 1048576) :
    Calls Try.prog 5 #[.agg #[.slice p n c], .slice p1 m1 c1] w fun e w' => e = .returned (.bool true) ∧ Below w.heap.size w w' := by
  have h : (1048576 : Int) < m1 := by omega
  go_enter Try.func5, Try.ntmps5
  go_wp2
  go_ret
  exact ⟨rfl, alloc_below _ _⟩

theorem law_cut_all (p : Option Addr) (n c : Nat) (N : Nat → ByteArray) (A : Nat → Int) (p1 : Option Addr) (m1 c1 : Nat) (l1 : List Int) (w : World) (h : SrcS w p n N A) (h1 : m1 ≤ 1048576 → Byt.Src w p1 m1 l1) :
    Calls Try.prog 5 #[.agg #[.slice p n c], .slice p1 m1 c1] w fun e w' => e = .returned (.bool true) ∧ Below w.heap.size w w' := by
  by_cases hm : m1 ≤ 1048576
  · replace h1 := h1 hm
    have SP := hidden (fun b b1 w h (h1 : Byt.Row w b1 0 m1 l1) hk => specCut_any b 0 n n b1 0 m1 m1 N A (fun i => l1.getD i 0) w h h1.byts hk hm (Nat.le_refl _))
    have IM := hidden (fun b b1 w h (h1 : Byt.Row w b1 0 m1 l1) hk => implCut_any b 0 n n b1 0 m1 m1 N A (fun i => l1.getD i 0) w h h1.byts h1.blk hk hm (Nat.le_refl _))
    by_cases hc : ckC n N A m1 (fun i => l1.getD i 0) = 0
    · refine law_cut_ok p n c N A p1 m1 c1 l1 _ _ _ _ _ w h h1 hm hc ?_ ?_ SP IM
      · have := (rd_le (n := n) (A := A) (m := m1) (l := fun i => l1.getD i 0)).1; omega
      · have h2 : rd2 n A m1 (fun i => l1.getD i 0) ≤ _ := (rd_le (n := n) (A := A) (m := m1 - rdK n A m1 (fun i => l1.getD i 0)) (l := behind (fun i => l1.getD i 0) (rdK n A m1 (fun i => l1.getD i 0)))).1
        omega
    · exact law_cut_bad p n c N A p1 m1 c1 l1 _ _ _ _ _ w h h1 hm hc SP IM
  · exact law_cut_big1 p n c p1 m1 c1 w hm

end Go.Proofs.Ytcnkkoegfjggaaa
