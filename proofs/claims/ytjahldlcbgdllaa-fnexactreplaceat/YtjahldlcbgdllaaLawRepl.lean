/- Law FnExactReplaceAt: at every signature, two lists of nodes and a number the program's ReplaceAt answers as the model's; its answer owns its memory. -/
import Derived.Test.YtjahldlcbgdllaaReplI
namespace Go.Proofs.Ytjahldlcbgdllaa
open Go.RowKit

set_option maxRecDepth 20000 in
set_option maxHeartbeats 12800000 in
theorem law_repl_ok (p : Option Addr) (n c : Nat) (N : Nat → ByteArray) (A : Nat → Int) (p' : Option Addr) (m c' : Nat) (L : Nat → Int) (x : Int) (p3 : Option Addr) (m3 c3 : Nat) (M : Nat → Int) (C : Int) (K : Nat) (U : Nat → Int) (w : World) (h : SrcS w p n N A) (h' : SrcI w p' m L) (hm : m ≤ 1048576) (h3 : SrcI w p3 m3 M) (hm3 : m3 ≤ 1048576) (hc : C = 0) (hK : K ≤ 1048576)
    (SP : Hid (∀ b b' b3 w, Syms w b 0 n N A → Ints w b' 0 m L → Ints w b3 0 m3 M → Kept n N A → Calls Try.prog 33 #[.agg #[.slice (some ⟨b, 0, none⟩) n n], .slice (some ⟨b', 0, none⟩) m m, .int .i64 x, .slice (some ⟨b3, 0, none⟩) m3 m3] w fun e w' => ListAns w C K U e w' ∧ Below w.heap.size w w'))
    (IM : Hid (∀ b b' b3 w, Syms w b 0 n N A → Ints w b' 0 m L → Ints w b3 0 m3 M → Kept n N A → Calls Try.prog 34 #[.agg #[.slice (some ⟨b, 0, none⟩) n n], .slice (some ⟨b', 0, none⟩) m m, .int .i64 x, .slice (some ⟨b3, 0, none⟩) m3 m3] w fun e w' => ListAns w C K U e w' ∧ Below w.heap.size w w')) :
    Calls Try.prog 8 #[.agg #[.slice p n c], .slice p' m c', .int .i64 x, .slice p3 m3 c3] w fun e w' => e = .returned (.bool true) ∧ Below w.heap.size w w' := by
  have H0 := hidden h
  have H1 := hidden h'
  have H2 := hidden h3
  subst hc
  have HKK := hidden hK
  clear hK
  have D0 := hidden (One.new w (.slice p n c) 24)
  have B := hidden (alloc_below w (.cells #[.slice p n c] 24))
  have H := hidden (H0.out.keep B.out)
  have H' := hidden (H1.out.keep B.out)
  have H3 := hidden (H2.out.keep B.out)
  have HM := hidden hm
  clear h h'
  have HM3 := hidden hm3
  clear h3
  go_enter Try.func8, Try.ntmps8
  go_wp2_with fail
  with_reducible refine (szSignature_src p n c N A 1048576 _ H.out (by omega) (by omega)).mono ?_
  rintro e w1 ⟨⟨r1, rfl, hr⟩, hb⟩
  replace D0 := hidden (D0.out.keep hb)
  replace B := hidden (keepB B.out hb)
  replace H := hidden (H.out.keep hb)
  replace H' := hidden (H'.out.keep hb)
  replace H3 := hidden (H3.out.keep hb)
  clear hb
  rcases hr with rfl | ⟨q0, q1, q2, q3⟩
  · go_wp2_with fail
    go_ret
    exact ⟨rfl, B.out⟩
  have HK := hidden (Kept.mk q2 q3 H.out.fits)
  clear q2 q3
  clear q1
  have d0 := D0.out.c0
  go_wp2_with fail
  with_reducible refine (toSig_new p n c N A _ H.out HK.out).mono ?_
  rintro e w2 ⟨g2, rfl, hg, hl, hs, hb⟩
  replace D0 := hidden (D0.out.keep hb)
  replace B := hidden (keepB B.out hb)
  replace H := hidden (H.out.keep hb)
  replace H' := hidden (H'.out.keep hb)
  replace H3 := hidden (H3.out.keep hb)
  clear d0 hb hg hl
  have P1 := hidden (hs)
  clear hs
  go_wp2_with fail
  with_reducible refine (toInts_new p' m c' L _ H'.out HM.out).mono ?_
  rintro e w3 ⟨g3, rfl, hs, hb⟩
  replace D0 := hidden (D0.out.keep hb)
  replace B := hidden (keepB B.out hb)
  replace H := hidden (H.out.keep hb)
  replace H' := hidden (H'.out.keep hb)
  replace H3 := hidden (H3.out.keep hb)
  replace P1 := hidden (P1.out.keep hb)
  clear hb
  have P2 := hidden (hs)
  clear hs
  go_wp2_with fail
  with_reducible refine (toInts_new p3 m3 c3 M _ H3.out HM3.out).mono ?_
  rintro e w4 ⟨g4, rfl, hs, hb⟩
  replace D0 := hidden (D0.out.keep hb)
  replace B := hidden (keepB B.out hb)
  replace H := hidden (H.out.keep hb)
  replace H' := hidden (H'.out.keep hb)
  replace H3 := hidden (H3.out.keep hb)
  replace P1 := hidden (P1.out.keep hb)
  replace P2 := hidden (P2.out.keep hb)
  clear hb
  have P4 := hidden (hs)
  clear hs
  go_wp2_with fail
  with_reducible refine (SP.out _ _ _ _ P1.out P2.out P4.out HK.out).mono ?_
  rintro e w5 ⟨ha, hb⟩
  rcases ha with ⟨ha, -⟩ | ⟨-, ga, da, rfl, hg, ho⟩
  · exact absurd rfl ha
  replace D0 := hidden (D0.out.keep hb)
  replace B := hidden (keepB B.out hb)
  replace H := hidden (H.out.keep hb)
  replace H' := hidden (H'.out.keep hb)
  replace H3 := hidden (H3.out.keep hb)
  replace P1 := hidden (P1.out.keep hb)
  replace P2 := hidden (P2.out.keep hb)
  replace P4 := hidden (P4.out.keep hb)
  have LW := hidden (ho)
  clear hb ho hg
  have hb := alloc_below w5 (.cells #[.int .i64 0, .slice (some ⟨ga, 0, none⟩) K da] 44)
  replace D0 := hidden (D0.out.keep hb)
  replace B := hidden (keepB B.out hb)
  replace H := hidden (H.out.keep hb)
  replace H' := hidden (H'.out.keep hb)
  replace H3 := hidden (H3.out.keep hb)
  replace P1 := hidden (P1.out.keep hb)
  replace P2 := hidden (P2.out.keep hb)
  replace P4 := hidden (P4.out.keep hb)
  replace LW := hidden (LW.out.keep hb)
  clear hb
  have R0 := hidden (Two.new w5 (.int .i64 0) (.slice (some ⟨ga, 0, none⟩) K da) 44)
  clear P1 P2 P4
  have d0 := D0.out.c0
  go_wp2_with fail
  have BSx := hidden B.out.size
  with_reducible refine (toSignature_src p n c N A _ H.out HK.out).mono ?_
  rintro e w6 ⟨gx, rfl, hgx, hs, hb⟩
  have L_D0_Q := hidden (Nat.lt_of_lt_of_le D0.out.blk hgx)
  have L_LW_Q := hidden (Nat.lt_of_lt_of_le LW.out.lt hgx)
  have L_R0_Q := hidden (Nat.lt_of_lt_of_le R0.out.blk hgx)
  replace D0 := hidden (D0.out.keep hb)
  replace B := hidden (keepB B.out hb)
  replace H := hidden (H.out.keep hb)
  replace H' := hidden (H'.out.keep hb)
  replace H3 := hidden (H3.out.keep hb)
  replace LW := hidden (LW.out.keep hb)
  replace R0 := hidden (R0.out.keep hb)
  have Q := hidden (hs)
  clear d0 hb
  have GX := hidden (Nat.le_trans BSx.out hgx)
  clear hs hgx BSx
  have L_Q_X := hidden (Nat.lt_of_lt_of_le Q.out.lt (Nat.le_refl _))
  have hb := alloc_below w6 (.cells #[.slice (some ⟨gx, 0, none⟩) n n] 30)
  replace D0 := hidden (D0.out.keep hb)
  replace B := hidden (keepB B.out hb)
  replace H := hidden (H.out.keep hb)
  replace H' := hidden (H'.out.keep hb)
  replace H3 := hidden (H3.out.keep hb)
  replace LW := hidden (LW.out.keep hb)
  replace R0 := hidden (R0.out.keep hb)
  replace Q := hidden (Q.out.keep hb)
  clear hb
  have X := hidden (One.new w6 (.slice (some ⟨gx, 0, none⟩) n n) 30)
  have BSx := hidden B.out.size
  go_wp2_with fail
  with_reducible refine (toInts_src p' m c' L _ H'.out HM.out).mono ?_
  rintro e w7 ⟨gy, rfl, hgy, hs, hb⟩
  have L_D0_Q2 := hidden (Nat.lt_of_lt_of_le D0.out.blk hgy)
  have L_LW_Q2 := hidden (Nat.lt_of_lt_of_le LW.out.lt hgy)
  have L_R0_Q2 := hidden (Nat.lt_of_lt_of_le R0.out.blk hgy)
  have L_Q_Q2 := hidden (Nat.lt_of_lt_of_le Q.out.lt hgy)
  have L_X_Q2 := hidden (Nat.lt_of_lt_of_le X.out.blk hgy)
  replace D0 := hidden (D0.out.keep hb)
  replace B := hidden (keepB B.out hb)
  replace H := hidden (H.out.keep hb)
  replace H' := hidden (H'.out.keep hb)
  replace H3 := hidden (H3.out.keep hb)
  replace LW := hidden (LW.out.keep hb)
  replace R0 := hidden (R0.out.keep hb)
  replace Q := hidden (Q.out.keep hb)
  replace X := hidden (X.out.keep hb)
  have Q2 := hidden (hs)
  clear hb
  have GY := hidden (Nat.le_trans BSx.out hgy)
  clear hs hgy BSx
  have BSx := hidden B.out.size
  go_wp2_with fail
  with_reducible refine (toInts_src p3 m3 c3 M _ H3.out HM3.out).mono ?_
  rintro e w8 ⟨gu, rfl, hgu, hs, hb⟩
  have L_D0_Q4 := hidden (Nat.lt_of_lt_of_le D0.out.blk hgu)
  have L_LW_Q4 := hidden (Nat.lt_of_lt_of_le LW.out.lt hgu)
  have L_R0_Q4 := hidden (Nat.lt_of_lt_of_le R0.out.blk hgu)
  have L_Q_Q4 := hidden (Nat.lt_of_lt_of_le Q.out.lt hgu)
  have L_X_Q4 := hidden (Nat.lt_of_lt_of_le X.out.blk hgu)
  have L_Q2_Q4 := hidden (Nat.lt_of_lt_of_le Q2.out.lt hgu)
  replace D0 := hidden (D0.out.keep hb)
  replace B := hidden (keepB B.out hb)
  replace H := hidden (H.out.keep hb)
  replace H' := hidden (H'.out.keep hb)
  replace H3 := hidden (H3.out.keep hb)
  replace LW := hidden (LW.out.keep hb)
  replace R0 := hidden (R0.out.keep hb)
  replace Q := hidden (Q.out.keep hb)
  replace X := hidden (X.out.keep hb)
  replace Q2 := hidden (Q2.out.keep hb)
  have Q4 := hidden (hs)
  clear hb
  have GU := hidden (Nat.le_trans BSx.out hgu)
  clear hs hgu BSx
  have x0 := X.out.c0
  go_wp2_with fail
  have BSx := hidden B.out.size
  with_reducible refine (IM.out _ _ _ _ (Q.out.syms HK.out.big HK.out.fits) Q2.out.ints Q4.out.ints HK.out).mono ?_
  rintro e w9 ⟨ha, hb⟩
  rcases ha with ⟨ha, -⟩ | ⟨-, gb, db, rfl, hg, ho⟩
  · exact absurd rfl ha
  have L_D0_LG := hidden (Nat.lt_of_lt_of_le D0.out.blk hg)
  have L_LW_LG := hidden (Nat.lt_of_lt_of_le LW.out.lt hg)
  have L_R0_LG := hidden (Nat.lt_of_lt_of_le R0.out.blk hg)
  have L_Q_LG := hidden (Nat.lt_of_lt_of_le Q.out.lt hg)
  have L_X_LG := hidden (Nat.lt_of_lt_of_le X.out.blk hg)
  have L_Q2_LG := hidden (Nat.lt_of_lt_of_le Q2.out.lt hg)
  have L_Q4_LG := hidden (Nat.lt_of_lt_of_le Q4.out.lt hg)
  have GBx := hidden hg
  replace D0 := hidden (D0.out.keep hb)
  replace B := hidden (keepB B.out hb)
  replace H := hidden (H.out.keep hb)
  replace H' := hidden (H'.out.keep hb)
  replace H3 := hidden (H3.out.keep hb)
  replace LW := hidden (LW.out.keep hb)
  replace R0 := hidden (R0.out.keep hb)
  replace Q := hidden (Q.out.keep hb)
  replace X := hidden (X.out.keep hb)
  replace Q2 := hidden (Q2.out.keep hb)
  replace Q4 := hidden (Q4.out.keep hb)
  have LG := hidden (ho)
  clear x0 hb ho hg
  have L_Q_R1 := hidden (Nat.lt_of_lt_of_le Q.out.lt (Nat.le_refl _))
  have L_Q2_R1 := hidden (Nat.lt_of_lt_of_le Q2.out.lt (Nat.le_refl _))
  have L_Q4_R1 := hidden (Nat.lt_of_lt_of_le Q4.out.lt (Nat.le_refl _))
  have L_LG_R1 := hidden (Nat.lt_of_lt_of_le LG.out.lt (Nat.le_refl _))
  have hb := alloc_below w9 (.cells #[.int .i64 0, .slice (some ⟨gb, 0, none⟩) K db] 44)
  replace D0 := hidden (D0.out.keep hb)
  replace B := hidden (keepB B.out hb)
  replace H := hidden (H.out.keep hb)
  replace H' := hidden (H'.out.keep hb)
  replace H3 := hidden (H3.out.keep hb)
  replace LW := hidden (LW.out.keep hb)
  replace R0 := hidden (R0.out.keep hb)
  replace Q := hidden (Q.out.keep hb)
  replace X := hidden (X.out.keep hb)
  replace Q2 := hidden (Q2.out.keep hb)
  replace Q4 := hidden (Q4.out.keep hb)
  replace LG := hidden (LG.out.keep hb)
  clear hb
  have R1 := hidden (Two.new w9 (.int .i64 0) (.slice (some ⟨gb, 0, none⟩) K db) 44)
  have r0 := R0.out.c0
  have r1 := R0.out.c1
  have r2 := R1.out.c0
  have r3 := R1.out.c1
  go_wp2_with fail
  with_reducible refine (eqTerm_eq _ _ _ _ _ _ U _ LG.out.ints LW.out.ints HKK.out).mono ?_
  rintro e w10 ⟨rfl, hb⟩
  replace D0 := hidden (D0.out.keep hb)
  replace B := hidden (keepB B.out hb)
  replace H := hidden (H.out.keep hb)
  replace H' := hidden (H'.out.keep hb)
  replace H3 := hidden (H3.out.keep hb)
  replace LW := hidden (LW.out.keep hb)
  replace R0 := hidden (R0.out.keep hb)
  replace Q := hidden (Q.out.keep hb)
  replace X := hidden (X.out.keep hb)
  replace Q2 := hidden (Q2.out.keep hb)
  replace Q4 := hidden (Q4.out.keep hb)
  replace LG := hidden (LG.out.keep hb)
  replace R1 := hidden (R1.out.keep hb)
  clear r0 r1 r2 r3 hb
  have QS := hidden (Q.out.syms HK.out.big HK.out.fits)
  have S1 := hidden (show ∀ wc, Below w10.heap.size w10 wc → Calls Try.prog 14 #[.agg #[.slice p n c]] wc fun e w' => ∃ g, e = .returned (.agg #[.slice (some ⟨g, 0, none⟩) n n]) ∧ Below w10.heap.size w10 w' ∧ Syms w' g 0 n N A ∧ w'.cell? ⟨w6.heap.size, 0, none⟩ = some (.slice (some ⟨gx, 0, none⟩) n n) from fun wc hc => by
    refine (toSig_new p n c N A wc (H.out.keep hc) HK.out).mono ?_
    rintro e w' ⟨g, rfl, hg, hl, hs, hb⟩
    exact ⟨g, rfl, keepB hc hb, hs, (X.out.keep (keepB hc hb)).c0⟩)
  have S2 := hidden (show ∀ wc g, Below w10.heap.size w10 wc → Syms wc g 0 n N A → Calls Try.prog 17 #[.agg #[.slice (some ⟨gx, 0, none⟩) n n], .agg #[.slice (some ⟨g, 0, none⟩) n n]] wc fun e w' => e = .returned (.bool true) ∧ Below w10.heap.size w10 w' from fun wc g hc hm => by
    refine (eqSignature_eq gx 0 g 0 n n n N A wc (QS.out.keep hc) hm HK.out.most).mono ?_
    rintro e w' ⟨rfl, hb⟩
    exact ⟨rfl, keepB hc hb⟩)
  have x0 := X.out.c0
  have d0 := D0.out.c0
  go_wp2_with fail
  go_cut [57] (fun t wc => t = .bool false ∧ Below w10.heap.size w10 wc)
  case first =>
    go_region_with (first
      | (go_at_call 14; with_reducible refine (S1.out _ ?_).mono ?_; exact (Below.refl _ _).drew; rintro e v5 ⟨g5', rfl, b5', m5', d5'⟩)
      | (go_at_call 17; with_reducible refine (S2.out _ _ b5' m5').mono ?_; rintro e v6 ⟨rfl, b6'⟩))
    all_goals (go_wp2_with fail; go_meet)
    all_goals exact ⟨rfl, b6'⟩
  case rest =>
    rename World => w11
    obtain ⟨rfl, hb⟩ := hcut
    replace D0 := hidden (D0.out.keep hb)
    replace B := hidden (keepB B.out hb)
    replace H := hidden (H.out.keep hb)
    replace H' := hidden (H'.out.keep hb)
    replace H3 := hidden (H3.out.keep hb)
    replace LW := hidden (LW.out.keep hb)
    replace R0 := hidden (R0.out.keep hb)
    replace Q := hidden (Q.out.keep hb)
    replace X := hidden (X.out.keep hb)
    replace Q2 := hidden (Q2.out.keep hb)
    replace Q4 := hidden (Q4.out.keep hb)
    replace LG := hidden (LG.out.keep hb)
    replace R1 := hidden (R1.out.keep hb)
    replace QS := hidden (QS.out.keep hb)
    clear x0 d0 hb S1 S2
    clear QS
    go_wp2_with fail
    with_reducible refine (toInts_new p' m c' L _ H'.out HM.out).mono ?_
    rintro e w12 ⟨gq, rfl, hs, hb⟩
    replace D0 := hidden (D0.out.keep hb)
    replace B := hidden (keepB B.out hb)
    replace H := hidden (H.out.keep hb)
    replace H' := hidden (H'.out.keep hb)
    replace H3 := hidden (H3.out.keep hb)
    replace LW := hidden (LW.out.keep hb)
    replace R0 := hidden (R0.out.keep hb)
    replace Q := hidden (Q.out.keep hb)
    replace X := hidden (X.out.keep hb)
    replace Q2 := hidden (Q2.out.keep hb)
    replace Q4 := hidden (Q4.out.keep hb)
    replace LG := hidden (LG.out.keep hb)
    replace R1 := hidden (R1.out.keep hb)
    clear hb
    have Q3 := hidden (hs)
    clear hs
    go_wp2_with fail
    with_reducible refine (eqInt64S_eq _ _ _ _ _ _ _ L _ Q2.out.ints Q3.out HM.out).mono ?_
    rintro e w13 ⟨rfl, hb⟩
    replace D0 := hidden (D0.out.keep hb)
    replace B := hidden (keepB B.out hb)
    replace H := hidden (H.out.keep hb)
    replace H' := hidden (H'.out.keep hb)
    replace H3 := hidden (H3.out.keep hb)
    replace LW := hidden (LW.out.keep hb)
    replace R0 := hidden (R0.out.keep hb)
    replace Q := hidden (Q.out.keep hb)
    replace X := hidden (X.out.keep hb)
    replace Q2 := hidden (Q2.out.keep hb)
    replace Q4 := hidden (Q4.out.keep hb)
    replace LG := hidden (LG.out.keep hb)
    replace R1 := hidden (R1.out.keep hb)
    replace Q3 := hidden (Q3.out.keep hb)
    clear hb
    clear Q3
    go_wp2_with fail
    with_reducible refine (toInts_new p3 m3 c3 M _ H3.out HM3.out).mono ?_
    rintro e w14 ⟨gr, rfl, hs, hb⟩
    replace D0 := hidden (D0.out.keep hb)
    replace B := hidden (keepB B.out hb)
    replace H := hidden (H.out.keep hb)
    replace H' := hidden (H'.out.keep hb)
    replace H3 := hidden (H3.out.keep hb)
    replace LW := hidden (LW.out.keep hb)
    replace R0 := hidden (R0.out.keep hb)
    replace Q := hidden (Q.out.keep hb)
    replace X := hidden (X.out.keep hb)
    replace Q2 := hidden (Q2.out.keep hb)
    replace Q4 := hidden (Q4.out.keep hb)
    replace LG := hidden (LG.out.keep hb)
    replace R1 := hidden (R1.out.keep hb)
    clear hb
    have Q3 := hidden (hs)
    clear hs
    go_wp2_with fail
    with_reducible refine (eqInt64S_eq _ _ _ _ _ _ _ M _ Q4.out.ints Q3.out HM3.out).mono ?_
    rintro e w15 ⟨rfl, hb⟩
    replace D0 := hidden (D0.out.keep hb)
    replace B := hidden (keepB B.out hb)
    replace H := hidden (H.out.keep hb)
    replace H' := hidden (H'.out.keep hb)
    replace H3 := hidden (H3.out.keep hb)
    replace LW := hidden (LW.out.keep hb)
    replace R0 := hidden (R0.out.keep hb)
    replace Q := hidden (Q.out.keep hb)
    replace X := hidden (X.out.keep hb)
    replace Q2 := hidden (Q2.out.keep hb)
    replace Q4 := hidden (Q4.out.keep hb)
    replace LG := hidden (LG.out.keep hb)
    replace R1 := hidden (R1.out.keep hb)
    replace Q3 := hidden (Q3.out.keep hb)
    clear hb
    clear Q3
    have x0 := X.out.c0
    go_wp2_with fail
    with_reducible refine (markSignature_z _ gx n n 1 N A _ Q.out HK.out.most (by omega) (by omega)).mono ?_
    rintro e w16 ⟨rfl, -, hg⟩
    replace B := hidden (grownB B.out hg GX.out)
    replace D0 := hidden (D0.out.grown hg (Nat.ne_of_lt L_D0_Q.out))
    replace H := hidden (H0.out.keep B.out)
    replace H' := hidden (H1.out.keep B.out)
    replace H3 := hidden (H2.out.keep B.out)
    replace LW := hidden (LW.out.grown hg (Nat.ne_of_lt L_LW_Q.out))
    replace R0 := hidden (R0.out.grown hg (Nat.ne_of_lt L_R0_Q.out))
    replace X := hidden (X.out.grown hg (Nat.ne_of_gt L_Q_X.out))
    replace Q2 := hidden (Q2.out.grown hg (Nat.ne_of_gt L_Q_Q2.out))
    replace Q4 := hidden (Q4.out.grown hg (Nat.ne_of_gt L_Q_Q4.out))
    replace LG := hidden (LG.out.grown hg (Nat.ne_of_gt L_Q_LG.out))
    replace R1 := hidden (R1.out.grown hg (Nat.ne_of_gt L_Q_R1.out))
    clear Q
    clear x0 hg
    have HN1 := HK.out.most
    go_wp2_with fail
    with_reducible refine (markInt64S_z _ gy m m (1 + 2 * n) L _ Q2.out HM.out (by omega) (by omega)).mono ?_
    rintro e w17 ⟨rfl, -, hg⟩
    replace B := hidden (grownB B.out hg GY.out)
    replace D0 := hidden (D0.out.grown hg (Nat.ne_of_lt L_D0_Q2.out))
    replace H := hidden (H0.out.keep B.out)
    replace H' := hidden (H1.out.keep B.out)
    replace H3 := hidden (H2.out.keep B.out)
    replace LW := hidden (LW.out.grown hg (Nat.ne_of_lt L_LW_Q2.out))
    replace R0 := hidden (R0.out.grown hg (Nat.ne_of_lt L_R0_Q2.out))
    replace X := hidden (X.out.grown hg (Nat.ne_of_lt L_X_Q2.out))
    replace Q4 := hidden (Q4.out.grown hg (Nat.ne_of_gt L_Q2_Q4.out))
    replace LG := hidden (LG.out.grown hg (Nat.ne_of_gt L_Q2_LG.out))
    replace R1 := hidden (R1.out.grown hg (Nat.ne_of_gt L_Q2_R1.out))
    clear Q2
    clear hg
    go_wp2_with fail
    have HM3x := HM3.out
    with_reducible refine (markInt64S_z _ gu m3 m3 (1 + 2 * n + m) M _ Q4.out HM3.out (by omega) (by omega)).mono ?_
    rintro e w18 ⟨rfl, -, hg⟩
    replace B := hidden (grownB B.out hg GU.out)
    replace D0 := hidden (D0.out.grown hg (Nat.ne_of_lt L_D0_Q4.out))
    replace H := hidden (H0.out.keep B.out)
    replace H' := hidden (H1.out.keep B.out)
    replace H3 := hidden (H2.out.keep B.out)
    replace LW := hidden (LW.out.grown hg (Nat.ne_of_lt L_LW_Q4.out))
    replace R0 := hidden (R0.out.grown hg (Nat.ne_of_lt L_R0_Q4.out))
    replace X := hidden (X.out.grown hg (Nat.ne_of_lt L_X_Q4.out))
    replace LG := hidden (LG.out.grown hg (Nat.ne_of_gt L_Q4_LG.out))
    replace R1 := hidden (R1.out.grown hg (Nat.ne_of_gt L_Q4_R1.out))
    clear Q4
    clear hg
    have r0 := R0.out.c0
    have r1 := R0.out.c1
    have r2 := R1.out.c0
    have r3 := R1.out.c1
    have hkk : decide ((1 : Int) + 2 * n + m + m3 < 0) = false := by simp; omega
    go_wp2_with fail
    with_reducible refine (eqTerm_eq _ _ _ _ _ _ U _ LG.out.ints LW.out.ints HKK.out).mono ?_
    rintro e w19 ⟨rfl, hb⟩
    replace D0 := hidden (D0.out.keep hb)
    replace B := hidden (keepB B.out hb)
    replace H := hidden (H.out.keep hb)
    replace H' := hidden (H'.out.keep hb)
    replace H3 := hidden (H3.out.keep hb)
    replace LW := hidden (LW.out.keep hb)
    replace R0 := hidden (R0.out.keep hb)
    replace X := hidden (X.out.keep hb)
    replace LG := hidden (LG.out.keep hb)
    replace R1 := hidden (R1.out.keep hb)
    clear r0 r1 r2 r3 hb
    have r2 := R1.out.c0
    have r3 := R1.out.c1
    go_wp2_with fail
    have GB := hidden (show w.heap.size ≤ gb from Nat.le_trans BSx.out GBx.out)
    with_reducible refine (markTerm_z _ _ gb K db U _ LG.out HKK.out).mono ?_
    rintro e w20 ⟨rfl, ho, hg⟩
    replace B := hidden (grownB B.out hg GB.out)
    replace D0 := hidden (D0.out.grown hg (Nat.ne_of_lt L_D0_LG.out))
    replace H := hidden (H0.out.keep B.out)
    replace H' := hidden (H1.out.keep B.out)
    replace H3 := hidden (H2.out.keep B.out)
    replace LW := hidden (LW.out.grown hg (Nat.ne_of_lt L_LW_LG.out))
    replace R0 := hidden (R0.out.grown hg (Nat.ne_of_lt L_R0_LG.out))
    replace X := hidden (X.out.grown hg (Nat.ne_of_lt L_X_LG.out))
    replace R1 := hidden (R1.out.grown hg (Nat.ne_of_gt L_LG_R1.out))
    replace LG := hidden (ho)
    clear r2 r3 hg ho
    have hq : ¬ (1 : Int) + K < 0 := by omega
    have r2 := R1.out.c0
    have r3 := R1.out.c1
    go_wp2_with fail
    with_reducible refine (heldTerm_z _ gb K db _ LG.out.ints HKK.out).mono ?_
    rintro e w21 ⟨rfl, hb⟩
    replace D0 := hidden (D0.out.keep hb)
    replace B := hidden (keepB B.out hb)
    replace H := hidden (H.out.keep hb)
    replace H' := hidden (H'.out.keep hb)
    replace H3 := hidden (H3.out.keep hb)
    replace LW := hidden (LW.out.keep hb)
    replace R0 := hidden (R0.out.keep hb)
    replace X := hidden (X.out.keep hb)
    replace LG := hidden (LG.out.keep hb)
    replace R1 := hidden (R1.out.keep hb)
    clear r2 r3 hb
    have d0 := D0.out.c0
    go_wp2_with fail
    with_reducible refine (toSig_new p n c N A _ H.out HK.out).mono ?_
    rintro e w22 ⟨g22, rfl, hg, hl, hs, hb⟩
    replace D0 := hidden (D0.out.keep hb)
    replace B := hidden (keepB B.out hb)
    replace H := hidden (H.out.keep hb)
    replace H' := hidden (H'.out.keep hb)
    replace H3 := hidden (H3.out.keep hb)
    replace LW := hidden (LW.out.keep hb)
    replace R0 := hidden (R0.out.keep hb)
    replace X := hidden (X.out.keep hb)
    replace LG := hidden (LG.out.keep hb)
    replace R1 := hidden (R1.out.keep hb)
    clear d0 hb hg hl
    have P1 := hidden (hs)
    clear hs
    go_wp2_with fail
    with_reducible refine (toInts_new p' m c' L _ H'.out HM.out).mono ?_
    rintro e w23 ⟨g23, rfl, hs, hb⟩
    replace D0 := hidden (D0.out.keep hb)
    replace B := hidden (keepB B.out hb)
    replace H := hidden (H.out.keep hb)
    replace H' := hidden (H'.out.keep hb)
    replace H3 := hidden (H3.out.keep hb)
    replace LW := hidden (LW.out.keep hb)
    replace R0 := hidden (R0.out.keep hb)
    replace X := hidden (X.out.keep hb)
    replace LG := hidden (LG.out.keep hb)
    replace R1 := hidden (R1.out.keep hb)
    replace P1 := hidden (P1.out.keep hb)
    clear hb
    have P2 := hidden (hs)
    clear hs
    go_wp2_with fail
    with_reducible refine (toInts_new p3 m3 c3 M _ H3.out HM3.out).mono ?_
    rintro e w24 ⟨g24, rfl, hs, hb⟩
    replace D0 := hidden (D0.out.keep hb)
    replace B := hidden (keepB B.out hb)
    replace H := hidden (H.out.keep hb)
    replace H' := hidden (H'.out.keep hb)
    replace H3 := hidden (H3.out.keep hb)
    replace LW := hidden (LW.out.keep hb)
    replace R0 := hidden (R0.out.keep hb)
    replace X := hidden (X.out.keep hb)
    replace LG := hidden (LG.out.keep hb)
    replace R1 := hidden (R1.out.keep hb)
    replace P1 := hidden (P1.out.keep hb)
    replace P2 := hidden (P2.out.keep hb)
    clear hb
    have P4 := hidden (hs)
    clear hs
    go_wp2_with fail
    with_reducible refine (IM.out _ _ _ _ P1.out P2.out P4.out HK.out).mono ?_
    rintro e w25 ⟨ha, hb⟩
    rcases ha with ⟨ha, -⟩ | ⟨-, gc, dc, rfl, hg, ho⟩
    · exact absurd rfl ha
    have L_LG_LH := hidden (Nat.lt_of_lt_of_le LG.out.lt hg)
    replace D0 := hidden (D0.out.keep hb)
    replace B := hidden (keepB B.out hb)
    replace H := hidden (H.out.keep hb)
    replace H' := hidden (H'.out.keep hb)
    replace H3 := hidden (H3.out.keep hb)
    replace LW := hidden (LW.out.keep hb)
    replace R0 := hidden (R0.out.keep hb)
    replace X := hidden (X.out.keep hb)
    replace LG := hidden (LG.out.keep hb)
    replace R1 := hidden (R1.out.keep hb)
    replace P1 := hidden (P1.out.keep hb)
    replace P2 := hidden (P2.out.keep hb)
    replace P4 := hidden (P4.out.keep hb)
    have LH := hidden (ho)
    clear hb ho hg
    have L_LG_R2 := hidden (Nat.lt_of_lt_of_le LG.out.lt (Nat.le_refl _))
    have hb := alloc_below w25 (.cells #[.int .i64 0, .slice (some ⟨gc, 0, none⟩) K dc] 44)
    replace D0 := hidden (D0.out.keep hb)
    replace B := hidden (keepB B.out hb)
    replace H := hidden (H.out.keep hb)
    replace H' := hidden (H'.out.keep hb)
    replace H3 := hidden (H3.out.keep hb)
    replace LW := hidden (LW.out.keep hb)
    replace R0 := hidden (R0.out.keep hb)
    replace X := hidden (X.out.keep hb)
    replace LG := hidden (LG.out.keep hb)
    replace R1 := hidden (R1.out.keep hb)
    replace P1 := hidden (P1.out.keep hb)
    replace P2 := hidden (P2.out.keep hb)
    replace P4 := hidden (P4.out.keep hb)
    replace LH := hidden (LH.out.keep hb)
    clear hb
    have R2 := hidden (Two.new w25 (.int .i64 0) (.slice (some ⟨gc, 0, none⟩) K dc) 44)
    clear P1 P2 P4
    have r0 := R0.out.c0
    have r1 := R0.out.c1
    have r2 := R2.out.c0
    have r3 := R2.out.c1
    go_wp2_with fail
    with_reducible refine (eqTerm_eq _ _ _ _ _ _ U _ LH.out.ints LW.out.ints HKK.out).mono ?_
    rintro e w26 ⟨rfl, hb⟩
    replace D0 := hidden (D0.out.keep hb)
    replace B := hidden (keepB B.out hb)
    replace H := hidden (H.out.keep hb)
    replace H' := hidden (H'.out.keep hb)
    replace H3 := hidden (H3.out.keep hb)
    replace LW := hidden (LW.out.keep hb)
    replace R0 := hidden (R0.out.keep hb)
    replace X := hidden (X.out.keep hb)
    replace LG := hidden (LG.out.keep hb)
    replace R1 := hidden (R1.out.keep hb)
    replace LH := hidden (LH.out.keep hb)
    replace R2 := hidden (R2.out.keep hb)
    clear r0 r1 r2 r3 hb
    have r2 := R1.out.c0
    have r3 := R1.out.c1
    go_wp2_with fail
    with_reducible refine (heldTerm_z _ gb K db _ LG.out.ints HKK.out).mono ?_
    rintro e w27 ⟨rfl, hb⟩
    replace D0 := hidden (D0.out.keep hb)
    replace B := hidden (keepB B.out hb)
    replace H := hidden (H.out.keep hb)
    replace H' := hidden (H'.out.keep hb)
    replace H3 := hidden (H3.out.keep hb)
    replace LW := hidden (LW.out.keep hb)
    replace R0 := hidden (R0.out.keep hb)
    replace X := hidden (X.out.keep hb)
    replace LG := hidden (LG.out.keep hb)
    replace R1 := hidden (R1.out.keep hb)
    replace LH := hidden (LH.out.keep hb)
    replace R2 := hidden (R2.out.keep hb)
    clear r2 r3 hb
    go_wp2_with fail
    go_ret
    exact ⟨rfl, B.out⟩

set_option maxRecDepth 20000 in
set_option maxHeartbeats 12800000 in
theorem law_repl_bad (p : Option Addr) (n c : Nat) (N : Nat → ByteArray) (A : Nat → Int) (p' : Option Addr) (m c' : Nat) (L : Nat → Int) (x : Int) (p3 : Option Addr) (m3 c3 : Nat) (M : Nat → Int) (C : Int) (K : Nat) (U : Nat → Int) (w : World) (h : SrcS w p n N A) (h' : SrcI w p' m L) (hm : m ≤ 1048576) (h3 : SrcI w p3 m3 M) (hm3 : m3 ≤ 1048576) (hc : C ≠ 0)
    (SP : Hid (∀ b b' b3 w, Syms w b 0 n N A → Ints w b' 0 m L → Ints w b3 0 m3 M → Kept n N A → Calls Try.prog 33 #[.agg #[.slice (some ⟨b, 0, none⟩) n n], .slice (some ⟨b', 0, none⟩) m m, .int .i64 x, .slice (some ⟨b3, 0, none⟩) m3 m3] w fun e w' => ListAns w C K U e w' ∧ Below w.heap.size w w'))
    (IM : Hid (∀ b b' b3 w, Syms w b 0 n N A → Ints w b' 0 m L → Ints w b3 0 m3 M → Kept n N A → Calls Try.prog 34 #[.agg #[.slice (some ⟨b, 0, none⟩) n n], .slice (some ⟨b', 0, none⟩) m m, .int .i64 x, .slice (some ⟨b3, 0, none⟩) m3 m3] w fun e w' => ListAns w C K U e w' ∧ Below w.heap.size w w')) :
    Calls Try.prog 8 #[.agg #[.slice p n c], .slice p' m c', .int .i64 x, .slice p3 m3 c3] w fun e w' => e = .returned (.bool true) ∧ Below w.heap.size w w' := by
  have H0 := hidden h
  have H1 := hidden h'
  have H2 := hidden h3
  have HC := hidden hc
  clear hc
  have D0 := hidden (One.new w (.slice p n c) 24)
  have B := hidden (alloc_below w (.cells #[.slice p n c] 24))
  have H := hidden (H0.out.keep B.out)
  have H' := hidden (H1.out.keep B.out)
  have H3 := hidden (H2.out.keep B.out)
  have HM := hidden hm
  clear h h'
  have HM3 := hidden hm3
  clear h3
  go_enter Try.func8, Try.ntmps8
  go_wp2_with fail
  with_reducible refine (szSignature_src p n c N A 1048576 _ H.out (by omega) (by omega)).mono ?_
  rintro e w1 ⟨⟨r1, rfl, hr⟩, hb⟩
  replace D0 := hidden (D0.out.keep hb)
  replace B := hidden (keepB B.out hb)
  replace H := hidden (H.out.keep hb)
  replace H' := hidden (H'.out.keep hb)
  replace H3 := hidden (H3.out.keep hb)
  clear hb
  rcases hr with rfl | ⟨q0, q1, q2, q3⟩
  · go_wp2_with fail
    go_ret
    exact ⟨rfl, B.out⟩
  have HK := hidden (Kept.mk q2 q3 H.out.fits)
  clear q2 q3
  clear q1
  have d0 := D0.out.c0
  go_wp2_with fail
  with_reducible refine (toSig_new p n c N A _ H.out HK.out).mono ?_
  rintro e w2 ⟨g2, rfl, hg, hl, hs, hb⟩
  replace D0 := hidden (D0.out.keep hb)
  replace B := hidden (keepB B.out hb)
  replace H := hidden (H.out.keep hb)
  replace H' := hidden (H'.out.keep hb)
  replace H3 := hidden (H3.out.keep hb)
  clear d0 hb hg hl
  have P1 := hidden (hs)
  clear hs
  go_wp2_with fail
  with_reducible refine (toInts_new p' m c' L _ H'.out HM.out).mono ?_
  rintro e w3 ⟨g3, rfl, hs, hb⟩
  replace D0 := hidden (D0.out.keep hb)
  replace B := hidden (keepB B.out hb)
  replace H := hidden (H.out.keep hb)
  replace H' := hidden (H'.out.keep hb)
  replace H3 := hidden (H3.out.keep hb)
  replace P1 := hidden (P1.out.keep hb)
  clear hb
  have P2 := hidden (hs)
  clear hs
  go_wp2_with fail
  with_reducible refine (toInts_new p3 m3 c3 M _ H3.out HM3.out).mono ?_
  rintro e w4 ⟨g4, rfl, hs, hb⟩
  replace D0 := hidden (D0.out.keep hb)
  replace B := hidden (keepB B.out hb)
  replace H := hidden (H.out.keep hb)
  replace H' := hidden (H'.out.keep hb)
  replace H3 := hidden (H3.out.keep hb)
  replace P1 := hidden (P1.out.keep hb)
  replace P2 := hidden (P2.out.keep hb)
  clear hb
  have P4 := hidden (hs)
  clear hs
  go_wp2_with fail
  with_reducible refine (SP.out _ _ _ _ P1.out P2.out P4.out HK.out).mono ?_
  rintro e w5 ⟨ha, hb⟩
  replace D0 := hidden (D0.out.keep hb)
  replace B := hidden (keepB B.out hb)
  replace H := hidden (H.out.keep hb)
  replace H' := hidden (H'.out.keep hb)
  replace H3 := hidden (H3.out.keep hb)
  replace P1 := hidden (P1.out.keep hb)
  replace P2 := hidden (P2.out.keep hb)
  replace P4 := hidden (P4.out.keep hb)
  clear hb
  rcases ha with ⟨-, rfl⟩ | ⟨ha, -⟩
  rotate_left
  · exact absurd ha HC.out
  have hb := alloc_below w5 (.cells #[.int .i64 C, .slice none 0 0] 44)
  replace D0 := hidden (D0.out.keep hb)
  replace B := hidden (keepB B.out hb)
  replace H := hidden (H.out.keep hb)
  replace H' := hidden (H'.out.keep hb)
  replace H3 := hidden (H3.out.keep hb)
  replace P1 := hidden (P1.out.keep hb)
  replace P2 := hidden (P2.out.keep hb)
  replace P4 := hidden (P4.out.keep hb)
  clear hb
  have R0 := hidden (Two.new w5 (.int .i64 C) (.slice none 0 0) 44)
  clear P1 P2 P4
  have d0 := D0.out.c0
  go_wp2_with fail
  have BSx := hidden B.out.size
  with_reducible refine (toSignature_src p n c N A _ H.out HK.out).mono ?_
  rintro e w6 ⟨gx, rfl, hgx, hs, hb⟩
  have L_D0_Q := hidden (Nat.lt_of_lt_of_le D0.out.blk hgx)
  have L_R0_Q := hidden (Nat.lt_of_lt_of_le R0.out.blk hgx)
  replace D0 := hidden (D0.out.keep hb)
  replace B := hidden (keepB B.out hb)
  replace H := hidden (H.out.keep hb)
  replace H' := hidden (H'.out.keep hb)
  replace H3 := hidden (H3.out.keep hb)
  replace R0 := hidden (R0.out.keep hb)
  have Q := hidden (hs)
  clear d0 hb
  have GX := hidden (Nat.le_trans BSx.out hgx)
  clear hs hgx BSx
  have L_Q_X := hidden (Nat.lt_of_lt_of_le Q.out.lt (Nat.le_refl _))
  have hb := alloc_below w6 (.cells #[.slice (some ⟨gx, 0, none⟩) n n] 30)
  replace D0 := hidden (D0.out.keep hb)
  replace B := hidden (keepB B.out hb)
  replace H := hidden (H.out.keep hb)
  replace H' := hidden (H'.out.keep hb)
  replace H3 := hidden (H3.out.keep hb)
  replace R0 := hidden (R0.out.keep hb)
  replace Q := hidden (Q.out.keep hb)
  clear hb
  have X := hidden (One.new w6 (.slice (some ⟨gx, 0, none⟩) n n) 30)
  have BSx := hidden B.out.size
  go_wp2_with fail
  with_reducible refine (toInts_src p' m c' L _ H'.out HM.out).mono ?_
  rintro e w7 ⟨gy, rfl, hgy, hs, hb⟩
  have L_D0_Q2 := hidden (Nat.lt_of_lt_of_le D0.out.blk hgy)
  have L_R0_Q2 := hidden (Nat.lt_of_lt_of_le R0.out.blk hgy)
  have L_Q_Q2 := hidden (Nat.lt_of_lt_of_le Q.out.lt hgy)
  have L_X_Q2 := hidden (Nat.lt_of_lt_of_le X.out.blk hgy)
  replace D0 := hidden (D0.out.keep hb)
  replace B := hidden (keepB B.out hb)
  replace H := hidden (H.out.keep hb)
  replace H' := hidden (H'.out.keep hb)
  replace H3 := hidden (H3.out.keep hb)
  replace R0 := hidden (R0.out.keep hb)
  replace Q := hidden (Q.out.keep hb)
  replace X := hidden (X.out.keep hb)
  have Q2 := hidden (hs)
  clear hb
  have GY := hidden (Nat.le_trans BSx.out hgy)
  clear hs hgy BSx
  have BSx := hidden B.out.size
  go_wp2_with fail
  with_reducible refine (toInts_src p3 m3 c3 M _ H3.out HM3.out).mono ?_
  rintro e w8 ⟨gu, rfl, hgu, hs, hb⟩
  have L_D0_Q4 := hidden (Nat.lt_of_lt_of_le D0.out.blk hgu)
  have L_R0_Q4 := hidden (Nat.lt_of_lt_of_le R0.out.blk hgu)
  have L_Q_Q4 := hidden (Nat.lt_of_lt_of_le Q.out.lt hgu)
  have L_X_Q4 := hidden (Nat.lt_of_lt_of_le X.out.blk hgu)
  have L_Q2_Q4 := hidden (Nat.lt_of_lt_of_le Q2.out.lt hgu)
  replace D0 := hidden (D0.out.keep hb)
  replace B := hidden (keepB B.out hb)
  replace H := hidden (H.out.keep hb)
  replace H' := hidden (H'.out.keep hb)
  replace H3 := hidden (H3.out.keep hb)
  replace R0 := hidden (R0.out.keep hb)
  replace Q := hidden (Q.out.keep hb)
  replace X := hidden (X.out.keep hb)
  replace Q2 := hidden (Q2.out.keep hb)
  have Q4 := hidden (hs)
  clear hb
  have GU := hidden (Nat.le_trans BSx.out hgu)
  clear hs hgu BSx
  have x0 := X.out.c0
  go_wp2_with fail
  have BSx := hidden B.out.size
  with_reducible refine (IM.out _ _ _ _ (Q.out.syms HK.out.big HK.out.fits) Q2.out.ints Q4.out.ints HK.out).mono ?_
  rintro e w9 ⟨ha, hb⟩
  replace D0 := hidden (D0.out.keep hb)
  replace B := hidden (keepB B.out hb)
  replace H := hidden (H.out.keep hb)
  replace H' := hidden (H'.out.keep hb)
  replace H3 := hidden (H3.out.keep hb)
  replace R0 := hidden (R0.out.keep hb)
  replace Q := hidden (Q.out.keep hb)
  replace X := hidden (X.out.keep hb)
  replace Q2 := hidden (Q2.out.keep hb)
  replace Q4 := hidden (Q4.out.keep hb)
  clear x0 hb
  rcases ha with ⟨-, rfl⟩ | ⟨ha, -⟩
  rotate_left
  · exact absurd ha HC.out
  have L_Q_R1 := hidden (Nat.lt_of_lt_of_le Q.out.lt (Nat.le_refl _))
  have L_Q2_R1 := hidden (Nat.lt_of_lt_of_le Q2.out.lt (Nat.le_refl _))
  have L_Q4_R1 := hidden (Nat.lt_of_lt_of_le Q4.out.lt (Nat.le_refl _))
  have hb := alloc_below w9 (.cells #[.int .i64 C, .slice none 0 0] 44)
  replace D0 := hidden (D0.out.keep hb)
  replace B := hidden (keepB B.out hb)
  replace H := hidden (H.out.keep hb)
  replace H' := hidden (H'.out.keep hb)
  replace H3 := hidden (H3.out.keep hb)
  replace R0 := hidden (R0.out.keep hb)
  replace Q := hidden (Q.out.keep hb)
  replace X := hidden (X.out.keep hb)
  replace Q2 := hidden (Q2.out.keep hb)
  replace Q4 := hidden (Q4.out.keep hb)
  clear hb
  have R1 := hidden (Two.new w9 (.int .i64 C) (.slice none 0 0) 44)
  have r0 := R0.out.c0
  have r1 := R0.out.c1
  have r2 := R1.out.c0
  have r3 := R1.out.c1
  go_wp2_with fail
  with_reducible refine (eqTerm_none _ _).mono ?_
  rintro e w10 ⟨rfl, hb⟩
  replace D0 := hidden (D0.out.keep hb)
  replace B := hidden (keepB B.out hb)
  replace H := hidden (H.out.keep hb)
  replace H' := hidden (H'.out.keep hb)
  replace H3 := hidden (H3.out.keep hb)
  replace R0 := hidden (R0.out.keep hb)
  replace Q := hidden (Q.out.keep hb)
  replace X := hidden (X.out.keep hb)
  replace Q2 := hidden (Q2.out.keep hb)
  replace Q4 := hidden (Q4.out.keep hb)
  replace R1 := hidden (R1.out.keep hb)
  clear r0 r1 r2 r3 hb
  have QS := hidden (Q.out.syms HK.out.big HK.out.fits)
  have S1 := hidden (show ∀ wc, Below w10.heap.size w10 wc → Calls Try.prog 14 #[.agg #[.slice p n c]] wc fun e w' => ∃ g, e = .returned (.agg #[.slice (some ⟨g, 0, none⟩) n n]) ∧ Below w10.heap.size w10 w' ∧ Syms w' g 0 n N A ∧ w'.cell? ⟨w6.heap.size, 0, none⟩ = some (.slice (some ⟨gx, 0, none⟩) n n) from fun wc hc => by
    refine (toSig_new p n c N A wc (H.out.keep hc) HK.out).mono ?_
    rintro e w' ⟨g, rfl, hg, hl, hs, hb⟩
    exact ⟨g, rfl, keepB hc hb, hs, (X.out.keep (keepB hc hb)).c0⟩)
  have S2 := hidden (show ∀ wc g, Below w10.heap.size w10 wc → Syms wc g 0 n N A → Calls Try.prog 17 #[.agg #[.slice (some ⟨gx, 0, none⟩) n n], .agg #[.slice (some ⟨g, 0, none⟩) n n]] wc fun e w' => e = .returned (.bool true) ∧ Below w10.heap.size w10 w' from fun wc g hc hm => by
    refine (eqSignature_eq gx 0 g 0 n n n N A wc (QS.out.keep hc) hm HK.out.most).mono ?_
    rintro e w' ⟨rfl, hb⟩
    exact ⟨rfl, keepB hc hb⟩)
  have x0 := X.out.c0
  have d0 := D0.out.c0
  go_wp2_with fail
  go_cut [57] (fun t wc => t = .bool false ∧ Below w10.heap.size w10 wc)
  case first =>
    go_region_with (first
      | (go_at_call 14; with_reducible refine (S1.out _ ?_).mono ?_; exact (Below.refl _ _).drew; rintro e v5 ⟨g5', rfl, b5', m5', d5'⟩)
      | (go_at_call 17; with_reducible refine (S2.out _ _ b5' m5').mono ?_; rintro e v6 ⟨rfl, b6'⟩))
    all_goals (go_wp2_with fail; go_meet)
    all_goals exact ⟨rfl, b6'⟩
  case rest =>
    rename World => w11
    obtain ⟨rfl, hb⟩ := hcut
    replace D0 := hidden (D0.out.keep hb)
    replace B := hidden (keepB B.out hb)
    replace H := hidden (H.out.keep hb)
    replace H' := hidden (H'.out.keep hb)
    replace H3 := hidden (H3.out.keep hb)
    replace R0 := hidden (R0.out.keep hb)
    replace Q := hidden (Q.out.keep hb)
    replace X := hidden (X.out.keep hb)
    replace Q2 := hidden (Q2.out.keep hb)
    replace Q4 := hidden (Q4.out.keep hb)
    replace R1 := hidden (R1.out.keep hb)
    replace QS := hidden (QS.out.keep hb)
    clear x0 d0 hb S1 S2
    clear QS
    go_wp2_with fail
    with_reducible refine (toInts_new p' m c' L _ H'.out HM.out).mono ?_
    rintro e w12 ⟨gq, rfl, hs, hb⟩
    replace D0 := hidden (D0.out.keep hb)
    replace B := hidden (keepB B.out hb)
    replace H := hidden (H.out.keep hb)
    replace H' := hidden (H'.out.keep hb)
    replace H3 := hidden (H3.out.keep hb)
    replace R0 := hidden (R0.out.keep hb)
    replace Q := hidden (Q.out.keep hb)
    replace X := hidden (X.out.keep hb)
    replace Q2 := hidden (Q2.out.keep hb)
    replace Q4 := hidden (Q4.out.keep hb)
    replace R1 := hidden (R1.out.keep hb)
    clear hb
    have Q3 := hidden (hs)
    clear hs
    go_wp2_with fail
    with_reducible refine (eqInt64S_eq _ _ _ _ _ _ _ L _ Q2.out.ints Q3.out HM.out).mono ?_
    rintro e w13 ⟨rfl, hb⟩
    replace D0 := hidden (D0.out.keep hb)
    replace B := hidden (keepB B.out hb)
    replace H := hidden (H.out.keep hb)
    replace H' := hidden (H'.out.keep hb)
    replace H3 := hidden (H3.out.keep hb)
    replace R0 := hidden (R0.out.keep hb)
    replace Q := hidden (Q.out.keep hb)
    replace X := hidden (X.out.keep hb)
    replace Q2 := hidden (Q2.out.keep hb)
    replace Q4 := hidden (Q4.out.keep hb)
    replace R1 := hidden (R1.out.keep hb)
    replace Q3 := hidden (Q3.out.keep hb)
    clear hb
    clear Q3
    go_wp2_with fail
    with_reducible refine (toInts_new p3 m3 c3 M _ H3.out HM3.out).mono ?_
    rintro e w14 ⟨gr, rfl, hs, hb⟩
    replace D0 := hidden (D0.out.keep hb)
    replace B := hidden (keepB B.out hb)
    replace H := hidden (H.out.keep hb)
    replace H' := hidden (H'.out.keep hb)
    replace H3 := hidden (H3.out.keep hb)
    replace R0 := hidden (R0.out.keep hb)
    replace Q := hidden (Q.out.keep hb)
    replace X := hidden (X.out.keep hb)
    replace Q2 := hidden (Q2.out.keep hb)
    replace Q4 := hidden (Q4.out.keep hb)
    replace R1 := hidden (R1.out.keep hb)
    clear hb
    have Q3 := hidden (hs)
    clear hs
    go_wp2_with fail
    with_reducible refine (eqInt64S_eq _ _ _ _ _ _ _ M _ Q4.out.ints Q3.out HM3.out).mono ?_
    rintro e w15 ⟨rfl, hb⟩
    replace D0 := hidden (D0.out.keep hb)
    replace B := hidden (keepB B.out hb)
    replace H := hidden (H.out.keep hb)
    replace H' := hidden (H'.out.keep hb)
    replace H3 := hidden (H3.out.keep hb)
    replace R0 := hidden (R0.out.keep hb)
    replace Q := hidden (Q.out.keep hb)
    replace X := hidden (X.out.keep hb)
    replace Q2 := hidden (Q2.out.keep hb)
    replace Q4 := hidden (Q4.out.keep hb)
    replace R1 := hidden (R1.out.keep hb)
    replace Q3 := hidden (Q3.out.keep hb)
    clear hb
    clear Q3
    have x0 := X.out.c0
    go_wp2_with fail
    with_reducible refine (markSignature_z _ gx n n 1 N A _ Q.out HK.out.most (by omega) (by omega)).mono ?_
    rintro e w16 ⟨rfl, -, hg⟩
    replace B := hidden (grownB B.out hg GX.out)
    replace D0 := hidden (D0.out.grown hg (Nat.ne_of_lt L_D0_Q.out))
    replace H := hidden (H0.out.keep B.out)
    replace H' := hidden (H1.out.keep B.out)
    replace H3 := hidden (H2.out.keep B.out)
    replace R0 := hidden (R0.out.grown hg (Nat.ne_of_lt L_R0_Q.out))
    replace X := hidden (X.out.grown hg (Nat.ne_of_gt L_Q_X.out))
    replace Q2 := hidden (Q2.out.grown hg (Nat.ne_of_gt L_Q_Q2.out))
    replace Q4 := hidden (Q4.out.grown hg (Nat.ne_of_gt L_Q_Q4.out))
    replace R1 := hidden (R1.out.grown hg (Nat.ne_of_gt L_Q_R1.out))
    clear Q
    clear x0 hg
    have HN1 := HK.out.most
    go_wp2_with fail
    with_reducible refine (markInt64S_z _ gy m m (1 + 2 * n) L _ Q2.out HM.out (by omega) (by omega)).mono ?_
    rintro e w17 ⟨rfl, -, hg⟩
    replace B := hidden (grownB B.out hg GY.out)
    replace D0 := hidden (D0.out.grown hg (Nat.ne_of_lt L_D0_Q2.out))
    replace H := hidden (H0.out.keep B.out)
    replace H' := hidden (H1.out.keep B.out)
    replace H3 := hidden (H2.out.keep B.out)
    replace R0 := hidden (R0.out.grown hg (Nat.ne_of_lt L_R0_Q2.out))
    replace X := hidden (X.out.grown hg (Nat.ne_of_lt L_X_Q2.out))
    replace Q4 := hidden (Q4.out.grown hg (Nat.ne_of_gt L_Q2_Q4.out))
    replace R1 := hidden (R1.out.grown hg (Nat.ne_of_gt L_Q2_R1.out))
    clear Q2
    clear hg
    go_wp2_with fail
    have HM3x := HM3.out
    with_reducible refine (markInt64S_z _ gu m3 m3 (1 + 2 * n + m) M _ Q4.out HM3.out (by omega) (by omega)).mono ?_
    rintro e w18 ⟨rfl, -, hg⟩
    replace B := hidden (grownB B.out hg GU.out)
    replace D0 := hidden (D0.out.grown hg (Nat.ne_of_lt L_D0_Q4.out))
    replace H := hidden (H0.out.keep B.out)
    replace H' := hidden (H1.out.keep B.out)
    replace H3 := hidden (H2.out.keep B.out)
    replace R0 := hidden (R0.out.grown hg (Nat.ne_of_lt L_R0_Q4.out))
    replace X := hidden (X.out.grown hg (Nat.ne_of_lt L_X_Q4.out))
    replace R1 := hidden (R1.out.grown hg (Nat.ne_of_gt L_Q4_R1.out))
    clear Q4
    clear hg
    have r0 := R0.out.c0
    have r1 := R0.out.c1
    have r2 := R1.out.c0
    have r3 := R1.out.c1
    have hkk : decide ((1 : Int) + 2 * n + m + m3 < 0) = false := by simp; omega
    go_wp2_with fail
    with_reducible refine (eqTerm_none _ _).mono ?_
    rintro e w19 ⟨rfl, hb⟩
    replace D0 := hidden (D0.out.keep hb)
    replace B := hidden (keepB B.out hb)
    replace H := hidden (H.out.keep hb)
    replace H' := hidden (H'.out.keep hb)
    replace H3 := hidden (H3.out.keep hb)
    replace R0 := hidden (R0.out.keep hb)
    replace X := hidden (X.out.keep hb)
    replace R1 := hidden (R1.out.keep hb)
    clear r0 r1 r2 r3 hb
    have r2 := R1.out.c0
    have r3 := R1.out.c1
    go_wp2_with fail
    with_reducible refine (markTerm_none1 _ _).mono ?_
    rintro e w20 ⟨rfl, hb⟩
    replace D0 := hidden (D0.out.keep hb)
    replace B := hidden (keepB B.out hb)
    replace H := hidden (H.out.keep hb)
    replace H' := hidden (H'.out.keep hb)
    replace H3 := hidden (H3.out.keep hb)
    replace R0 := hidden (R0.out.keep hb)
    replace X := hidden (X.out.keep hb)
    replace R1 := hidden (R1.out.keep hb)
    clear r2 r3 hb
    have r2 := R1.out.c0
    have r3 := R1.out.c1
    go_wp2_with fail
    with_reducible refine (heldTerm_none1 _ _).mono ?_
    rintro e w21 ⟨rfl, hb⟩
    replace D0 := hidden (D0.out.keep hb)
    replace B := hidden (keepB B.out hb)
    replace H := hidden (H.out.keep hb)
    replace H' := hidden (H'.out.keep hb)
    replace H3 := hidden (H3.out.keep hb)
    replace R0 := hidden (R0.out.keep hb)
    replace X := hidden (X.out.keep hb)
    replace R1 := hidden (R1.out.keep hb)
    clear r2 r3 hb
    have d0 := D0.out.c0
    go_wp2_with fail
    with_reducible refine (toSig_new p n c N A _ H.out HK.out).mono ?_
    rintro e w22 ⟨g22, rfl, hg, hl, hs, hb⟩
    replace D0 := hidden (D0.out.keep hb)
    replace B := hidden (keepB B.out hb)
    replace H := hidden (H.out.keep hb)
    replace H' := hidden (H'.out.keep hb)
    replace H3 := hidden (H3.out.keep hb)
    replace R0 := hidden (R0.out.keep hb)
    replace X := hidden (X.out.keep hb)
    replace R1 := hidden (R1.out.keep hb)
    clear d0 hb hg hl
    have P1 := hidden (hs)
    clear hs
    go_wp2_with fail
    with_reducible refine (toInts_new p' m c' L _ H'.out HM.out).mono ?_
    rintro e w23 ⟨g23, rfl, hs, hb⟩
    replace D0 := hidden (D0.out.keep hb)
    replace B := hidden (keepB B.out hb)
    replace H := hidden (H.out.keep hb)
    replace H' := hidden (H'.out.keep hb)
    replace H3 := hidden (H3.out.keep hb)
    replace R0 := hidden (R0.out.keep hb)
    replace X := hidden (X.out.keep hb)
    replace R1 := hidden (R1.out.keep hb)
    replace P1 := hidden (P1.out.keep hb)
    clear hb
    have P2 := hidden (hs)
    clear hs
    go_wp2_with fail
    with_reducible refine (toInts_new p3 m3 c3 M _ H3.out HM3.out).mono ?_
    rintro e w24 ⟨g24, rfl, hs, hb⟩
    replace D0 := hidden (D0.out.keep hb)
    replace B := hidden (keepB B.out hb)
    replace H := hidden (H.out.keep hb)
    replace H' := hidden (H'.out.keep hb)
    replace H3 := hidden (H3.out.keep hb)
    replace R0 := hidden (R0.out.keep hb)
    replace X := hidden (X.out.keep hb)
    replace R1 := hidden (R1.out.keep hb)
    replace P1 := hidden (P1.out.keep hb)
    replace P2 := hidden (P2.out.keep hb)
    clear hb
    have P4 := hidden (hs)
    clear hs
    go_wp2_with fail
    with_reducible refine (IM.out _ _ _ _ P1.out P2.out P4.out HK.out).mono ?_
    rintro e w25 ⟨ha, hb⟩
    replace D0 := hidden (D0.out.keep hb)
    replace B := hidden (keepB B.out hb)
    replace H := hidden (H.out.keep hb)
    replace H' := hidden (H'.out.keep hb)
    replace H3 := hidden (H3.out.keep hb)
    replace R0 := hidden (R0.out.keep hb)
    replace X := hidden (X.out.keep hb)
    replace R1 := hidden (R1.out.keep hb)
    replace P1 := hidden (P1.out.keep hb)
    replace P2 := hidden (P2.out.keep hb)
    replace P4 := hidden (P4.out.keep hb)
    clear hb
    rcases ha with ⟨-, rfl⟩ | ⟨ha, -⟩
    rotate_left
    · exact absurd ha HC.out
    have hb := alloc_below w25 (.cells #[.int .i64 C, .slice none 0 0] 44)
    replace D0 := hidden (D0.out.keep hb)
    replace B := hidden (keepB B.out hb)
    replace H := hidden (H.out.keep hb)
    replace H' := hidden (H'.out.keep hb)
    replace H3 := hidden (H3.out.keep hb)
    replace R0 := hidden (R0.out.keep hb)
    replace X := hidden (X.out.keep hb)
    replace R1 := hidden (R1.out.keep hb)
    replace P1 := hidden (P1.out.keep hb)
    replace P2 := hidden (P2.out.keep hb)
    replace P4 := hidden (P4.out.keep hb)
    clear hb
    have R2 := hidden (Two.new w25 (.int .i64 C) (.slice none 0 0) 44)
    clear P1 P2 P4
    have r0 := R0.out.c0
    have r1 := R0.out.c1
    have r2 := R2.out.c0
    have r3 := R2.out.c1
    go_wp2_with fail
    with_reducible refine (eqTerm_none _ _).mono ?_
    rintro e w26 ⟨rfl, hb⟩
    replace D0 := hidden (D0.out.keep hb)
    replace B := hidden (keepB B.out hb)
    replace H := hidden (H.out.keep hb)
    replace H' := hidden (H'.out.keep hb)
    replace H3 := hidden (H3.out.keep hb)
    replace R0 := hidden (R0.out.keep hb)
    replace X := hidden (X.out.keep hb)
    replace R1 := hidden (R1.out.keep hb)
    replace R2 := hidden (R2.out.keep hb)
    clear r0 r1 r2 r3 hb
    have r2 := R1.out.c0
    have r3 := R1.out.c1
    go_wp2_with fail
    with_reducible refine (heldTerm_none1 _ _).mono ?_
    rintro e w27 ⟨rfl, hb⟩
    replace D0 := hidden (D0.out.keep hb)
    replace B := hidden (keepB B.out hb)
    replace H := hidden (H.out.keep hb)
    replace H' := hidden (H'.out.keep hb)
    replace H3 := hidden (H3.out.keep hb)
    replace R0 := hidden (R0.out.keep hb)
    replace X := hidden (X.out.keep hb)
    replace R1 := hidden (R1.out.keep hb)
    replace R2 := hidden (R2.out.keep hb)
    clear r2 r3 hb
    go_wp2_with fail
    go_ret
    exact ⟨rfl, B.out⟩

set_option maxHeartbeats 400000 in
theorem law_repl_big1 (p : Option Addr) (n c : Nat) (p' : Option Addr) (m c' : Nat) (x : Int) (p3 : Option Addr) (m3 c3 : Nat) (w : World) (hm : ¬ m ≤ 1048576) :
    Calls Try.prog 8 #[.agg #[.slice p n c], .slice p' m c', .int .i64 x, .slice p3 m3 c3] w fun e w' => e = .returned (.bool true) ∧ Below w.heap.size w w' := by
  have h : (1048576 : Int) < m := by omega
  go_enter Try.func8, Try.ntmps8
  go_wp2
  go_ret
  exact ⟨rfl, alloc_below _ _⟩

set_option maxHeartbeats 400000 in
theorem law_repl_big2 (p : Option Addr) (n c : Nat) (p' : Option Addr) (m c' : Nat) (x : Int) (p3 : Option Addr) (m3 c3 : Nat) (w : World) (hm : m ≤ 1048576) (hm3 : ¬ m3 ≤ 1048576) :
    Calls Try.prog 8 #[.agg #[.slice p n c], .slice p' m c', .int .i64 x, .slice p3 m3 c3] w fun e w' => e = .returned (.bool true) ∧ Below w.heap.size w w' := by
  have h : (1048576 : Int) < m3 := by omega
  have h2 : ¬ (1048576 : Int) < m := by omega
  go_enter Try.func8, Try.ntmps8
  go_wp2
  go_ret
  exact ⟨rfl, alloc_below _ _⟩

theorem law_repl_all (p : Option Addr) (n c : Nat) (N : Nat → ByteArray) (A : Nat → Int) (p' : Option Addr) (m c' : Nat) (L : Nat → Int) (x : Int) (p3 : Option Addr) (m3 c3 : Nat) (M : Nat → Int) (w : World) (h : SrcS w p n N A) (h' : SrcI w p' m L) (h3 : SrcI w p3 m3 M) :
    Calls Try.prog 8 #[.agg #[.slice p n c], .slice p' m c', .int .i64 x, .slice p3 m3 c3] w fun e w' => e = .returned (.bool true) ∧ Below w.heap.size w w' := by
  by_cases hm : m ≤ 1048576
  · by_cases hm3 : m3 ≤ 1048576
    · have SP := hidden (fun b b' b3 w h h' h3 hk => specReplace_any b 0 n n b' 0 m m b3 0 m3 m3 N A L M x w h h' h3 hk hm hm3 (Nat.le_refl _))
      have IM := hidden (fun b b' b3 w h h' h3 hk => implReplace_any b 0 n n b' 0 m m b3 0 m3 m3 N A L M x w h h' h3 hk hm hm3 (Nat.le_refl _))
      by_cases hc : reC n N A m L x m3 M = 0
      · refine law_repl_ok p n c N A p' m c' L x p3 m3 c3 M _ _ _ w h h' hm h3 hm3 hc ?_ SP IM
        refine Classical.byContradiction fun ht => ?_
        unfold reC at hc
        split at hc
        · split at hc
          · rw [if_pos (by omega)] at hc; omega
          · contradiction
        · contradiction
      · exact law_repl_bad p n c N A p' m c' L x p3 m3 c3 M _ _ _ w h h' hm h3 hm3 hc SP IM
    · exact law_repl_big2 p n c p' m c' x p3 m3 c3 w hm hm3
  · exact law_repl_big1 p n c p' m c' x p3 m3 c3 w hm

end Go.Proofs.Ytjahldlcbgdllaa
