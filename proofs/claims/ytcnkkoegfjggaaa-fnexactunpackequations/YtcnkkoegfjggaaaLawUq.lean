/- Law FnExactUnpackEquations: at every signature and list of bytes the program's UnpackEquations answers as the model's; its answer owns its memory. -/
import Derived.Test.YtcnkkoegfjggaaaLaw5Kit
import Derived.Test.YtcnkkoegfjggaaaMEU
namespace Go.Proofs.Ytcnkkoegfjggaaa
open Go.RowKit

theorem sumF_le (n : Nat) (A : Nat → Int) (m : Nat) (l : Nat → Int) : ∀ k, sumM (fl2 (rdD n A m l)) k ≤ 24 * k
  | 0 => by simp [sumM]
  | k + 1 => by
    have ih := sumF_le n A m l k
    have h : (fl2 (rdD n A m l)).m k ≤ 24 := by
      simp only [fl2, rdD, kA, kB, rd2]
      split
      · exact (rd_le (n := n) (A := A) (m := _) (l := _)).2
      · exact (rd_le (n := n) (A := A) (m := _) (l := _)).2
    simp only [sumM]
    omega

set_option maxRecDepth 20000 in
set_option maxHeartbeats 12800000 in
theorem law_uq_ok (p : Option Addr) (n c : Nat) (N : Nat → ByteArray) (A : Nat → Int) (p1 : Option Addr) (m1 c1 : Nat) (l1 : List Int) (C : Int) (r : Nat) (D : EqL) (w : World) (h : SrcS w p n N A) (h1 : Byt.Src w p1 m1 l1) (hm1 : m1 ≤ 1048576) (hpos : C = 0 ∧ 0 < r) (hke : KeptE r D) (hsb : (1 : Int) + sumM (fl2 D) (r * 2) ≤ 1099511627776)
    (SP : Hid (∀ b b1 w, Syms w b 0 n N A → Byt.Row w b1 0 m1 l1 → Kept n N A → Calls Try.prog 29 #[.agg #[.slice (some ⟨b, 0, none⟩) n n], .slice (some ⟨b1, 0, none⟩) m1 m1] w fun e w' => EqsAns w C r D e w' ∧ Below w.heap.size w w'))
    (IM : Hid (∀ b b1 w, Syms w b 0 n N A → Byt.Row w b1 0 m1 l1 → Kept n N A → Calls Try.prog 30 #[.agg #[.slice (some ⟨b, 0, none⟩) n n], .slice (some ⟨b1, 0, none⟩) m1 m1] w fun e w' => EqsAns w C r D e w' ∧ Below w.heap.size w w')) :
    Calls Try.prog 6 #[.agg #[.slice p n c], .slice p1 m1 c1] w fun e w' => e = .returned (.bool true) ∧ Below w.heap.size w w' := by
  have Z := hidden h
  have Z1 := hidden h1
  have HBY1 := hidden (mem_getD h1.2.2.1)
  have HC0 := hidden hpos
  have HKE := hidden hke
  have HSB := hidden hsb
  clear hpos hke hsb
  have D0 := hidden (One.new w (.slice p n c) 24)
  have B := hidden (alloc_below w (.cells #[.slice p n c] 24))
  have H := hidden (Z.out.keep B.out)
  have H1 := hidden (Z1.out.keep B.out)
  have HM1 := hidden hm1
  clear h h1
  go_enter Try.func6, Try.ntmps6
  go_wp2_with fail
  with_reducible refine (szSignature_src p n c N A 1048576 _ H.out (by omega) (by omega)).mono ?_
  rintro e w1 ⟨⟨r1, rfl, hr⟩, hb⟩
  replace D0 := hidden (D0.out.keep hb)
  replace B := hidden (keepB B.out hb)
  replace H := hidden (H.out.keep hb)
  replace H1 := hidden (H1.out.keep hb)
  clear hb
  rcases hr with rfl | ⟨q0, q1, q2, q3⟩
  · go_wp2_with fail
    go_ret
    exact ⟨rfl, B.out⟩
  have HK := hidden (Kept.mk q2 q3 H.out.fits)
  clear q2 q3
  clear q1
  have d0 := D0.out.c0
  go_wp2_with fail
  with_reducible refine (toSig_new p n c N A _ H.out HK.out).mono ?_
  rintro e w2 ⟨g2, rfl, hg, hl, hs, hb⟩
  replace D0 := hidden (D0.out.keep hb)
  replace B := hidden (keepB B.out hb)
  replace H := hidden (H.out.keep hb)
  replace H1 := hidden (H1.out.keep hb)
  clear d0 hb hg hl
  have P := hidden (hs)
  clear hs
  go_wp2_with fail
  with_reducible refine (Byt.toByteS_new p1 m1 c1 l1 _ H1.out).mono ?_
  rintro e w3 ⟨g3, rfl, hg, hs, hb⟩
  replace D0 := hidden (D0.out.keep hb)
  replace B := hidden (keepB B.out hb)
  replace H := hidden (H.out.keep hb)
  replace H1 := hidden (H1.out.keep hb)
  replace P := hidden (P.out.keep hb)
  clear hb hg
  have P1 := hidden (hs)
  clear hs
  go_wp2_with fail
  with_reducible refine (SP.out _ _ _ P.out P1.out HK.out).mono ?_
  rintro e w4 ⟨ha, hb⟩
  rcases ha with ⟨ha, -⟩ | ⟨-, -, loa, ga, da, rfl, hlo, ho⟩
  · exact absurd HC0.out ha
  have L_D0_LW := hidden (Nat.lt_of_lt_of_le D0.out.blk hlo)
  replace D0 := hidden (D0.out.keep hb)
  replace B := hidden (keepB B.out hb)
  replace H := hidden (H.out.keep hb)
  replace H1 := hidden (H1.out.keep hb)
  replace P := hidden (P.out.keep hb)
  replace P1 := hidden (P1.out.keep hb)
  have LW := hidden (ho)
  clear hb ho hlo
  have L_LW_R0 := hidden (Nat.le_trans LW.out.top (Nat.le_refl _))
  have hb := alloc_below w4 (.cells #[.int .i64 0, .slice (some ⟨ga, 0, none⟩) r da] 55)
  replace D0 := hidden (D0.out.keep hb)
  replace B := hidden (keepB B.out hb)
  replace H := hidden (H.out.keep hb)
  replace H1 := hidden (H1.out.keep hb)
  replace P := hidden (P.out.keep hb)
  replace P1 := hidden (P1.out.keep hb)
  replace LW := hidden (LW.out.keep hb)
  clear hb
  have R0 := hidden (Two.new w4 (.int .i64 0) (.slice (some ⟨ga, 0, none⟩) r da) 55)
  clear P P1
  have d0 := D0.out.c0
  go_wp2_with fail
  have BSx := hidden B.out.size
  with_reducible refine (toSignature_src p n c N A _ H.out HK.out).mono ?_
  rintro e w5 ⟨gx, rfl, hgx, hs, hb⟩
  have L_D0_Q := hidden (Nat.lt_of_lt_of_le D0.out.blk hgx)
  have L_LW_Q := hidden (Nat.le_trans LW.out.top hgx)
  have L_R0_Q := hidden (Nat.lt_of_lt_of_le R0.out.blk hgx)
  replace D0 := hidden (D0.out.keep hb)
  replace B := hidden (keepB B.out hb)
  replace H := hidden (H.out.keep hb)
  replace H1 := hidden (H1.out.keep hb)
  replace LW := hidden (LW.out.keep hb)
  replace R0 := hidden (R0.out.keep hb)
  have Q := hidden (hs)
  clear d0 hb
  have GX := hidden (Nat.le_trans BSx.out hgx)
  clear hs hgx BSx
  have L_LW_X := hidden (Nat.le_trans LW.out.top (Nat.le_refl _))
  have L_Q_X := hidden (Nat.lt_of_lt_of_le Q.out.lt (Nat.le_refl _))
  have hb := alloc_below w5 (.cells #[.slice (some ⟨gx, 0, none⟩) n n] 32)
  replace D0 := hidden (D0.out.keep hb)
  replace B := hidden (keepB B.out hb)
  replace H := hidden (H.out.keep hb)
  replace H1 := hidden (H1.out.keep hb)
  replace LW := hidden (LW.out.keep hb)
  replace R0 := hidden (R0.out.keep hb)
  replace Q := hidden (Q.out.keep hb)
  clear hb
  have X := hidden (One.new w5 (.slice (some ⟨gx, 0, none⟩) n n) 32)
  have BSx := hidden B.out.size
  go_wp2_with fail
  with_reducible refine (toBy_own p1 m1 c1 l1 _ H1.out).mono ?_
  rintro e w6 ⟨gy1, rfl, hgy, hs, hb⟩
  have L_D0_Q1 := hidden (Nat.lt_of_lt_of_le D0.out.blk hgy)
  have L_LW_Q1 := hidden (Nat.le_trans LW.out.top hgy)
  have L_R0_Q1 := hidden (Nat.lt_of_lt_of_le R0.out.blk hgy)
  have L_Q_Q1 := hidden (Nat.lt_of_lt_of_le Q.out.lt hgy)
  have L_X_Q1 := hidden (Nat.lt_of_lt_of_le X.out.blk hgy)
  replace D0 := hidden (D0.out.keep hb)
  replace B := hidden (keepB B.out hb)
  replace H := hidden (H.out.keep hb)
  replace H1 := hidden (H1.out.keep hb)
  replace LW := hidden (LW.out.keep hb)
  replace R0 := hidden (R0.out.keep hb)
  replace Q := hidden (Q.out.keep hb)
  replace X := hidden (X.out.keep hb)
  have Q1 := hidden (hs)
  clear hb
  have GY1 := hidden (Nat.le_trans BSx.out hgy)
  clear hs hgy BSx
  have x0 := X.out.c0
  go_wp2_with fail
  have BSx := hidden B.out.size
  with_reducible refine (IM.out _ _ _ (Q.out.syms HK.out.big HK.out.fits) (Q1.out.row HM1.out HBY1.out) HK.out).mono ?_
  rintro e w7 ⟨ha, hb⟩
  rcases ha with ⟨ha, -⟩ | ⟨-, -, lob, gb, db, rfl, hlo, ho⟩
  · exact absurd HC0.out ha
  have L_D0_LG := hidden (Nat.lt_of_lt_of_le D0.out.blk hlo)
  have L_LW_LG := hidden (Nat.le_trans LW.out.top hlo)
  have L_R0_LG := hidden (Nat.lt_of_lt_of_le R0.out.blk hlo)
  have L_Q_LG := hidden (Nat.lt_of_lt_of_le Q.out.lt hlo)
  have L_X_LG := hidden (Nat.lt_of_lt_of_le X.out.blk hlo)
  have L_Q1_LG := hidden (Nat.lt_of_lt_of_le Q1.out.lt hlo)
  have GBx := hidden hlo
  replace D0 := hidden (D0.out.keep hb)
  replace B := hidden (keepB B.out hb)
  replace H := hidden (H.out.keep hb)
  replace H1 := hidden (H1.out.keep hb)
  replace LW := hidden (LW.out.keep hb)
  replace R0 := hidden (R0.out.keep hb)
  replace Q := hidden (Q.out.keep hb)
  replace X := hidden (X.out.keep hb)
  replace Q1 := hidden (Q1.out.keep hb)
  have LG := hidden (ho)
  clear x0 hb ho hlo
  have L_LW_R1 := hidden (Nat.le_trans LW.out.top (Nat.le_refl _))
  have L_Q_R1 := hidden (Nat.lt_of_lt_of_le Q.out.lt (Nat.le_refl _))
  have L_Q1_R1 := hidden (Nat.lt_of_lt_of_le Q1.out.lt (Nat.le_refl _))
  have L_LG_R1 := hidden (Nat.le_trans LG.out.top (Nat.le_refl _))
  have hb := alloc_below w7 (.cells #[.int .i64 0, .slice (some ⟨gb, 0, none⟩) r db] 55)
  replace D0 := hidden (D0.out.keep hb)
  replace B := hidden (keepB B.out hb)
  replace H := hidden (H.out.keep hb)
  replace H1 := hidden (H1.out.keep hb)
  replace LW := hidden (LW.out.keep hb)
  replace R0 := hidden (R0.out.keep hb)
  replace Q := hidden (Q.out.keep hb)
  replace X := hidden (X.out.keep hb)
  replace Q1 := hidden (Q1.out.keep hb)
  replace LG := hidden (LG.out.keep hb)
  clear hb
  have R1 := hidden (Two.new w7 (.int .i64 0) (.slice (some ⟨gb, 0, none⟩) r db) 55)
  have r00 := R0.out.c0
  have r01 := R0.out.c1
  have r10 := R1.out.c0
  have r11 := R1.out.c1
  go_wp2_with fail
  with_reducible refine (eqEqsR_eq _ _ _ _ _ _ D _ LG.out.eqs LW.out.eqs HKE.out).mono ?_
  rintro e w8 ⟨rfl, hb⟩
  replace D0 := hidden (D0.out.keep hb)
  replace B := hidden (keepB B.out hb)
  replace H := hidden (H.out.keep hb)
  replace H1 := hidden (H1.out.keep hb)
  replace LW := hidden (LW.out.keep hb)
  replace R0 := hidden (R0.out.keep hb)
  replace Q := hidden (Q.out.keep hb)
  replace X := hidden (X.out.keep hb)
  replace Q1 := hidden (Q1.out.keep hb)
  replace LG := hidden (LG.out.keep hb)
  replace R1 := hidden (R1.out.keep hb)
  clear r00 r01 r10 r11 hb
  have QS := hidden (Q.out.syms HK.out.big HK.out.fits)
  have S1 := hidden (show ∀ wc, Below w8.heap.size w8 wc → Calls Try.prog 9 #[.agg #[.slice p n c]] wc fun e w' => ∃ g, e = .returned (.agg #[.slice (some ⟨g, 0, none⟩) n n]) ∧ Below w8.heap.size w8 w' ∧ Syms w' g 0 n N A ∧ w'.cell? ⟨w5.heap.size, 0, none⟩ = some (.slice (some ⟨gx, 0, none⟩) n n) from fun wc hc => by
    refine (toSig_new p n c N A wc (H.out.keep hc) HK.out).mono ?_
    rintro e w' ⟨g, rfl, hg, hl, hs, hb⟩
    exact ⟨g, rfl, keepB hc hb, hs, (X.out.keep (keepB hc hb)).c0⟩)
  have S2 := hidden (show ∀ wc g, Below w8.heap.size w8 wc → Syms wc g 0 n N A → Calls Try.prog 13 #[.agg #[.slice (some ⟨gx, 0, none⟩) n n], .agg #[.slice (some ⟨g, 0, none⟩) n n]] wc fun e w' => e = .returned (.bool true) ∧ Below w8.heap.size w8 w' from fun wc g hc hm => by
    refine (eqSignature_eq gx 0 g 0 n n n N A wc (QS.out.keep hc) hm HK.out.most).mono ?_
    rintro e w' ⟨rfl, hb⟩
    exact ⟨rfl, keepB hc hb⟩)
  have x0 := X.out.c0
  have d0 := D0.out.c0
  go_wp2_with fail
  go_cut [42] (fun t wc => t = .bool false ∧ Below w8.heap.size w8 wc)
  case first =>
    go_region_with (first
      | (go_at_call 9; with_reducible refine (S1.out _ ?_).mono ?_; exact (Below.refl _ _).drew; rintro e v5 ⟨g5', rfl, b5', m5', d5'⟩)
      | (go_at_call 13; with_reducible refine (S2.out _ _ b5' m5').mono ?_; rintro e v6 ⟨rfl, b6'⟩))
    all_goals (go_wp2_with fail; go_meet)
    all_goals exact ⟨rfl, b6'⟩
  case rest =>
    rename World => w9
    obtain ⟨rfl, hb⟩ := hcut
    replace D0 := hidden (D0.out.keep hb)
    replace B := hidden (keepB B.out hb)
    replace H := hidden (H.out.keep hb)
    replace H1 := hidden (H1.out.keep hb)
    replace LW := hidden (LW.out.keep hb)
    replace R0 := hidden (R0.out.keep hb)
    replace Q := hidden (Q.out.keep hb)
    replace X := hidden (X.out.keep hb)
    replace Q1 := hidden (Q1.out.keep hb)
    replace LG := hidden (LG.out.keep hb)
    replace R1 := hidden (R1.out.keep hb)
    replace QS := hidden (QS.out.keep hb)
    clear x0 d0 hb S1 S2
    clear QS
    go_wp2_with fail
    with_reducible refine (Byt.toByteS_new p1 m1 c1 l1 _ H1.out).mono ?_
    rintro e w10 ⟨g10, rfl, hg, hs, hb⟩
    replace D0 := hidden (D0.out.keep hb)
    replace B := hidden (keepB B.out hb)
    replace H := hidden (H.out.keep hb)
    replace H1 := hidden (H1.out.keep hb)
    replace LW := hidden (LW.out.keep hb)
    replace R0 := hidden (R0.out.keep hb)
    replace Q := hidden (Q.out.keep hb)
    replace X := hidden (X.out.keep hb)
    replace Q1 := hidden (Q1.out.keep hb)
    replace LG := hidden (LG.out.keep hb)
    replace R1 := hidden (R1.out.keep hb)
    clear hb hg
    have Q9 := hidden (hs)
    clear hs
    go_wp2_with fail
    with_reducible refine (Byt.eqByteS_eq gy1 0 _ 0 m1 m1 m1 l1 _ (Q1.out.row HM1.out HBY1.out) Q9.out).mono ?_
    rintro e w11 ⟨rfl, hb⟩
    replace D0 := hidden (D0.out.keep hb)
    replace B := hidden (keepB B.out hb)
    replace H := hidden (H.out.keep hb)
    replace H1 := hidden (H1.out.keep hb)
    replace LW := hidden (LW.out.keep hb)
    replace R0 := hidden (R0.out.keep hb)
    replace Q := hidden (Q.out.keep hb)
    replace X := hidden (X.out.keep hb)
    replace Q1 := hidden (Q1.out.keep hb)
    replace LG := hidden (LG.out.keep hb)
    replace R1 := hidden (R1.out.keep hb)
    replace Q9 := hidden (Q9.out.keep hb)
    clear hb
    clear Q9
    have x0 := X.out.c0
    go_wp2_with fail
    with_reducible refine (markSignature_z _ gx n n 1 N A _ Q.out HK.out.most (by omega) (by omega)).mono ?_
    rintro e w12 ⟨rfl, -, hg⟩
    replace B := hidden (grownB B.out hg GX.out)
    replace D0 := hidden (D0.out.grown hg (Nat.ne_of_lt L_D0_Q.out))
    replace H := hidden (Z.out.keep B.out)
    replace H1 := hidden (Z1.out.keep B.out)
    replace LW := hidden (LW.out.grown hg (Or.inr L_LW_Q.out))
    replace R0 := hidden (R0.out.grown hg (Nat.ne_of_lt L_R0_Q.out))
    replace X := hidden (X.out.grown hg (Nat.ne_of_gt L_Q_X.out))
    replace Q1 := hidden (Q1.out.grown hg (Nat.ne_of_gt L_Q_Q1.out))
    replace LG := hidden (LG.out.grown hg (Or.inl L_Q_LG.out))
    replace R1 := hidden (R1.out.grown hg (Nat.ne_of_gt L_Q_R1.out))
    clear Q
    clear x0 hg
    have HN1 := HK.out.most
    go_wp2_with fail
    have HMx1 := HM1.out
    with_reducible refine (markByteS_z _ gy1 m1 m1 (1 + 2 * n) _ _ Q1.out HM1.out (by omega) (by omega)).mono ?_
    rintro e w13 ⟨rfl, -, hg⟩
    replace B := hidden (grownB B.out hg GY1.out)
    replace D0 := hidden (D0.out.grown hg (Nat.ne_of_lt L_D0_Q1.out))
    replace H := hidden (Z.out.keep B.out)
    replace H1 := hidden (Z1.out.keep B.out)
    replace LW := hidden (LW.out.grown hg (Or.inr L_LW_Q1.out))
    replace R0 := hidden (R0.out.grown hg (Nat.ne_of_lt L_R0_Q1.out))
    replace X := hidden (X.out.grown hg (Nat.ne_of_lt L_X_Q1.out))
    replace LG := hidden (LG.out.grown hg (Or.inl L_Q1_LG.out))
    replace R1 := hidden (R1.out.grown hg (Nat.ne_of_gt L_Q1_R1.out))
    clear Q1
    clear hg
    have r00 := R0.out.c0
    have r01 := R0.out.c1
    have r10 := R1.out.c0
    have r11 := R1.out.c1
    have hkk : decide (((1 : Int) + 2 * n + m1) < 0) = false := by simp; omega
    go_wp2_with fail
    with_reducible refine (eqEqsR_eq _ _ _ _ _ _ D _ LG.out.eqs LW.out.eqs HKE.out).mono ?_
    rintro e w14 ⟨rfl, hb⟩
    replace D0 := hidden (D0.out.keep hb)
    replace B := hidden (keepB B.out hb)
    replace H := hidden (H.out.keep hb)
    replace H1 := hidden (H1.out.keep hb)
    replace LW := hidden (LW.out.keep hb)
    replace R0 := hidden (R0.out.keep hb)
    replace X := hidden (X.out.keep hb)
    replace LG := hidden (LG.out.keep hb)
    replace R1 := hidden (R1.out.keep hb)
    clear r00 r01 r10 r11 hb
    have r00 := R1.out.c0
    have r01 := R1.out.c1
    go_wp2_with fail
    have GB := hidden (show w.heap.size ≤ lob from Nat.le_trans BSx.out GBx.out)
    with_reducible refine (markEqsR_any _ _ _ gb r db D _ LG.out HKE.out HSB.out).mono ?_
    rintro e w15 ⟨rfl, ho, hr⟩
    replace B := hidden (Rng.below B.out hr GB.out)
    replace D0 := hidden (D0.out.rng hr (Or.inl L_D0_LG.out))
    replace H := hidden (Z.out.keep B.out)
    replace H1 := hidden (Z1.out.keep B.out)
    replace LW := hidden (LW.out.rng hr (Or.inl L_LW_LG.out))
    replace R0 := hidden (R0.out.rng hr (Or.inl L_R0_LG.out))
    replace X := hidden (X.out.rng hr (Or.inl L_X_LG.out))
    replace R1 := hidden (R1.out.rng hr (Or.inr L_LG_R1.out))
    replace LG := hidden (ho)
    clear r00 r01 hr ho
    have hq : ¬ (1 : Int) + (sumM (fl2 D) (r * 2) : Nat) < 0 := by omega
    have r00 := R1.out.c0
    have r01 := R1.out.c1
    go_wp2_with fail
    with_reducible refine (heldEqsR_any _ _ _ gb r db D _ LG.out HKE.out (by have := HSB.out; omega)).mono ?_
    rintro e w16 ⟨rfl, hb⟩
    replace D0 := hidden (D0.out.keep hb)
    replace B := hidden (keepB B.out hb)
    replace H := hidden (H.out.keep hb)
    replace H1 := hidden (H1.out.keep hb)
    replace LW := hidden (LW.out.keep hb)
    replace R0 := hidden (R0.out.keep hb)
    replace X := hidden (X.out.keep hb)
    replace LG := hidden (LG.out.keep hb)
    replace R1 := hidden (R1.out.keep hb)
    clear r00 r01 hb
    have d0 := D0.out.c0
    go_wp2_with fail
    with_reducible refine (toSig_new p n c N A _ H.out HK.out).mono ?_
    rintro e w17 ⟨g17, rfl, hg, hl, hs, hb⟩
    replace D0 := hidden (D0.out.keep hb)
    replace B := hidden (keepB B.out hb)
    replace H := hidden (H.out.keep hb)
    replace H1 := hidden (H1.out.keep hb)
    replace LW := hidden (LW.out.keep hb)
    replace R0 := hidden (R0.out.keep hb)
    replace X := hidden (X.out.keep hb)
    replace LG := hidden (LG.out.keep hb)
    replace R1 := hidden (R1.out.keep hb)
    clear d0 hb hg hl
    have P := hidden (hs)
    clear hs
    go_wp2_with fail
    with_reducible refine (Byt.toByteS_new p1 m1 c1 l1 _ H1.out).mono ?_
    rintro e w18 ⟨g18, rfl, hg, hs, hb⟩
    replace D0 := hidden (D0.out.keep hb)
    replace B := hidden (keepB B.out hb)
    replace H := hidden (H.out.keep hb)
    replace H1 := hidden (H1.out.keep hb)
    replace LW := hidden (LW.out.keep hb)
    replace R0 := hidden (R0.out.keep hb)
    replace X := hidden (X.out.keep hb)
    replace LG := hidden (LG.out.keep hb)
    replace R1 := hidden (R1.out.keep hb)
    replace P := hidden (P.out.keep hb)
    clear hb hg
    have P1 := hidden (hs)
    clear hs
    go_wp2_with fail
    with_reducible refine (IM.out _ _ _ P.out P1.out HK.out).mono ?_
    rintro e w19 ⟨ha, hb⟩
    rcases ha with ⟨ha, -⟩ | ⟨-, -, loc, gc, dc, rfl, hlo, ho⟩
    · exact absurd HC0.out ha
    have L_D0_LH := hidden (Nat.lt_of_lt_of_le D0.out.blk hlo)
    have L_LW_LH := hidden (Nat.le_trans LW.out.top hlo)
    have L_R0_LH := hidden (Nat.lt_of_lt_of_le R0.out.blk hlo)
    have L_X_LH := hidden (Nat.lt_of_lt_of_le X.out.blk hlo)
    have L_LG_LH := hidden (Nat.le_trans LG.out.top hlo)
    have L_R1_LH := hidden (Nat.lt_of_lt_of_le R1.out.blk hlo)
    replace D0 := hidden (D0.out.keep hb)
    replace B := hidden (keepB B.out hb)
    replace H := hidden (H.out.keep hb)
    replace H1 := hidden (H1.out.keep hb)
    replace LW := hidden (LW.out.keep hb)
    replace R0 := hidden (R0.out.keep hb)
    replace X := hidden (X.out.keep hb)
    replace LG := hidden (LG.out.keep hb)
    replace R1 := hidden (R1.out.keep hb)
    replace P := hidden (P.out.keep hb)
    replace P1 := hidden (P1.out.keep hb)
    have LH := hidden (ho)
    clear hb ho hlo
    have L_LW_R2 := hidden (Nat.le_trans LW.out.top (Nat.le_refl _))
    have L_LG_R2 := hidden (Nat.le_trans LG.out.top (Nat.le_refl _))
    have L_LH_R2 := hidden (Nat.le_trans LH.out.top (Nat.le_refl _))
    have hb := alloc_below w19 (.cells #[.int .i64 0, .slice (some ⟨gc, 0, none⟩) r dc] 55)
    replace D0 := hidden (D0.out.keep hb)
    replace B := hidden (keepB B.out hb)
    replace H := hidden (H.out.keep hb)
    replace H1 := hidden (H1.out.keep hb)
    replace LW := hidden (LW.out.keep hb)
    replace R0 := hidden (R0.out.keep hb)
    replace X := hidden (X.out.keep hb)
    replace LG := hidden (LG.out.keep hb)
    replace R1 := hidden (R1.out.keep hb)
    replace P := hidden (P.out.keep hb)
    replace P1 := hidden (P1.out.keep hb)
    replace LH := hidden (LH.out.keep hb)
    clear hb
    have R2 := hidden (Two.new w19 (.int .i64 0) (.slice (some ⟨gc, 0, none⟩) r dc) 55)
    clear P P1
    have r00 := R0.out.c0
    have r01 := R0.out.c1
    have r10 := R2.out.c0
    have r11 := R2.out.c1
    go_wp2_with fail
    with_reducible refine (eqEqsR_eq _ _ _ _ _ _ D _ LH.out.eqs LW.out.eqs HKE.out).mono ?_
    rintro e w20 ⟨rfl, hb⟩
    replace D0 := hidden (D0.out.keep hb)
    replace B := hidden (keepB B.out hb)
    replace H := hidden (H.out.keep hb)
    replace H1 := hidden (H1.out.keep hb)
    replace LW := hidden (LW.out.keep hb)
    replace R0 := hidden (R0.out.keep hb)
    replace X := hidden (X.out.keep hb)
    replace LG := hidden (LG.out.keep hb)
    replace R1 := hidden (R1.out.keep hb)
    replace LH := hidden (LH.out.keep hb)
    replace R2 := hidden (R2.out.keep hb)
    clear r00 r01 r10 r11 hb
    have r00 := R1.out.c0
    have r01 := R1.out.c1
    go_wp2_with fail
    with_reducible refine (heldEqsR_any _ _ _ gb r db D _ LG.out HKE.out (by have := HSB.out; omega)).mono ?_
    rintro e w21 ⟨rfl, hb⟩
    replace D0 := hidden (D0.out.keep hb)
    replace B := hidden (keepB B.out hb)
    replace H := hidden (H.out.keep hb)
    replace H1 := hidden (H1.out.keep hb)
    replace LW := hidden (LW.out.keep hb)
    replace R0 := hidden (R0.out.keep hb)
    replace X := hidden (X.out.keep hb)
    replace LG := hidden (LG.out.keep hb)
    replace R1 := hidden (R1.out.keep hb)
    replace LH := hidden (LH.out.keep hb)
    replace R2 := hidden (R2.out.keep hb)
    clear r00 r01 hb
    go_wp2_with fail
    go_ret
    exact ⟨rfl, B.out⟩

set_option maxRecDepth 20000 in
set_option maxHeartbeats 12800000 in
theorem law_uq_bad (p : Option Addr) (n c : Nat) (N : Nat → ByteArray) (A : Nat → Int) (p1 : Option Addr) (m1 c1 : Nat) (l1 : List Int) (C : Int) (r : Nat) (D : EqL) (w : World) (h : SrcS w p n N A) (h1 : Byt.Src w p1 m1 l1) (hm1 : m1 ≤ 1048576) (hc : ¬ (C = 0 ∧ 0 < r))
    (SP : Hid (∀ b b1 w, Syms w b 0 n N A → Byt.Row w b1 0 m1 l1 → Kept n N A → Calls Try.prog 29 #[.agg #[.slice (some ⟨b, 0, none⟩) n n], .slice (some ⟨b1, 0, none⟩) m1 m1] w fun e w' => EqsAns w C r D e w' ∧ Below w.heap.size w w'))
    (IM : Hid (∀ b b1 w, Syms w b 0 n N A → Byt.Row w b1 0 m1 l1 → Kept n N A → Calls Try.prog 30 #[.agg #[.slice (some ⟨b, 0, none⟩) n n], .slice (some ⟨b1, 0, none⟩) m1 m1] w fun e w' => EqsAns w C r D e w' ∧ Below w.heap.size w w')) :
    Calls Try.prog 6 #[.agg #[.slice p n c], .slice p1 m1 c1] w fun e w' => e = .returned (.bool true) ∧ Below w.heap.size w w' := by
  have Z := hidden h
  have Z1 := hidden h1
  have HBY1 := hidden (mem_getD h1.2.2.1)
  have HC0 := hidden hc
  clear hc
  have D0 := hidden (One.new w (.slice p n c) 24)
  have B := hidden (alloc_below w (.cells #[.slice p n c] 24))
  have H := hidden (Z.out.keep B.out)
  have H1 := hidden (Z1.out.keep B.out)
  have HM1 := hidden hm1
  clear h h1
  go_enter Try.func6, Try.ntmps6
  go_wp2_with fail
  with_reducible refine (szSignature_src p n c N A 1048576 _ H.out (by omega) (by omega)).mono ?_
  rintro e w1 ⟨⟨r1, rfl, hr⟩, hb⟩
  replace D0 := hidden (D0.out.keep hb)
  replace B := hidden (keepB B.out hb)
  replace H := hidden (H.out.keep hb)
  replace H1 := hidden (H1.out.keep hb)
  clear hb
  rcases hr with rfl | ⟨q0, q1, q2, q3⟩
  · go_wp2_with fail
    go_ret
    exact ⟨rfl, B.out⟩
  have HK := hidden (Kept.mk q2 q3 H.out.fits)
  clear q2 q3
  clear q1
  have d0 := D0.out.c0
  go_wp2_with fail
  with_reducible refine (toSig_new p n c N A _ H.out HK.out).mono ?_
  rintro e w2 ⟨g2, rfl, hg, hl, hs, hb⟩
  replace D0 := hidden (D0.out.keep hb)
  replace B := hidden (keepB B.out hb)
  replace H := hidden (H.out.keep hb)
  replace H1 := hidden (H1.out.keep hb)
  clear d0 hb hg hl
  have P := hidden (hs)
  clear hs
  go_wp2_with fail
  with_reducible refine (Byt.toByteS_new p1 m1 c1 l1 _ H1.out).mono ?_
  rintro e w3 ⟨g3, rfl, hg, hs, hb⟩
  replace D0 := hidden (D0.out.keep hb)
  replace B := hidden (keepB B.out hb)
  replace H := hidden (H.out.keep hb)
  replace H1 := hidden (H1.out.keep hb)
  replace P := hidden (P.out.keep hb)
  clear hb hg
  have P1 := hidden (hs)
  clear hs
  go_wp2_with fail
  with_reducible refine (SP.out _ _ _ P.out P1.out HK.out).mono ?_
  rintro e w4 ⟨ha, hb⟩
  replace D0 := hidden (D0.out.keep hb)
  replace B := hidden (keepB B.out hb)
  replace H := hidden (H.out.keep hb)
  replace H1 := hidden (H1.out.keep hb)
  replace P := hidden (P.out.keep hb)
  replace P1 := hidden (P1.out.keep hb)
  clear hb
  rcases ha with ⟨-, qa, da, rfl⟩ | ⟨h1, h2, -⟩
  rotate_left
  · exact absurd ⟨h1, h2⟩ HC0.out
  have hb := alloc_below w4 (.cells #[.int .i64 C, .slice qa 0 da] 55)
  replace D0 := hidden (D0.out.keep hb)
  replace B := hidden (keepB B.out hb)
  replace H := hidden (H.out.keep hb)
  replace H1 := hidden (H1.out.keep hb)
  replace P := hidden (P.out.keep hb)
  replace P1 := hidden (P1.out.keep hb)
  clear hb
  have R0 := hidden (Two.new w4 (.int .i64 C) (.slice qa 0 da) 55)
  clear P P1
  have d0 := D0.out.c0
  go_wp2_with fail
  have BSx := hidden B.out.size
  with_reducible refine (toSignature_src p n c N A _ H.out HK.out).mono ?_
  rintro e w5 ⟨gx, rfl, hgx, hs, hb⟩
  have L_D0_Q := hidden (Nat.lt_of_lt_of_le D0.out.blk hgx)
  have L_R0_Q := hidden (Nat.lt_of_lt_of_le R0.out.blk hgx)
  replace D0 := hidden (D0.out.keep hb)
  replace B := hidden (keepB B.out hb)
  replace H := hidden (H.out.keep hb)
  replace H1 := hidden (H1.out.keep hb)
  replace R0 := hidden (R0.out.keep hb)
  have Q := hidden (hs)
  clear d0 hb
  have GX := hidden (Nat.le_trans BSx.out hgx)
  clear hs hgx BSx
  have L_Q_X := hidden (Nat.lt_of_lt_of_le Q.out.lt (Nat.le_refl _))
  have hb := alloc_below w5 (.cells #[.slice (some ⟨gx, 0, none⟩) n n] 32)
  replace D0 := hidden (D0.out.keep hb)
  replace B := hidden (keepB B.out hb)
  replace H := hidden (H.out.keep hb)
  replace H1 := hidden (H1.out.keep hb)
  replace R0 := hidden (R0.out.keep hb)
  replace Q := hidden (Q.out.keep hb)
  clear hb
  have X := hidden (One.new w5 (.slice (some ⟨gx, 0, none⟩) n n) 32)
  have BSx := hidden B.out.size
  go_wp2_with fail
  with_reducible refine (toBy_own p1 m1 c1 l1 _ H1.out).mono ?_
  rintro e w6 ⟨gy1, rfl, hgy, hs, hb⟩
  have L_D0_Q1 := hidden (Nat.lt_of_lt_of_le D0.out.blk hgy)
  have L_R0_Q1 := hidden (Nat.lt_of_lt_of_le R0.out.blk hgy)
  have L_Q_Q1 := hidden (Nat.lt_of_lt_of_le Q.out.lt hgy)
  have L_X_Q1 := hidden (Nat.lt_of_lt_of_le X.out.blk hgy)
  replace D0 := hidden (D0.out.keep hb)
  replace B := hidden (keepB B.out hb)
  replace H := hidden (H.out.keep hb)
  replace H1 := hidden (H1.out.keep hb)
  replace R0 := hidden (R0.out.keep hb)
  replace Q := hidden (Q.out.keep hb)
  replace X := hidden (X.out.keep hb)
  have Q1 := hidden (hs)
  clear hb
  have GY1 := hidden (Nat.le_trans BSx.out hgy)
  clear hs hgy BSx
  have x0 := X.out.c0
  go_wp2_with fail
  have BSx := hidden B.out.size
  with_reducible refine (IM.out _ _ _ (Q.out.syms HK.out.big HK.out.fits) (Q1.out.row HM1.out HBY1.out) HK.out).mono ?_
  rintro e w7 ⟨ha, hb⟩
  replace D0 := hidden (D0.out.keep hb)
  replace B := hidden (keepB B.out hb)
  replace H := hidden (H.out.keep hb)
  replace H1 := hidden (H1.out.keep hb)
  replace R0 := hidden (R0.out.keep hb)
  replace Q := hidden (Q.out.keep hb)
  replace X := hidden (X.out.keep hb)
  replace Q1 := hidden (Q1.out.keep hb)
  clear x0 hb
  rcases ha with ⟨-, qb, db, rfl⟩ | ⟨h1, h2, -⟩
  rotate_left
  · exact absurd ⟨h1, h2⟩ HC0.out
  have L_Q_R1 := hidden (Nat.lt_of_lt_of_le Q.out.lt (Nat.le_refl _))
  have L_Q1_R1 := hidden (Nat.lt_of_lt_of_le Q1.out.lt (Nat.le_refl _))
  have hb := alloc_below w7 (.cells #[.int .i64 C, .slice qb 0 db] 55)
  replace D0 := hidden (D0.out.keep hb)
  replace B := hidden (keepB B.out hb)
  replace H := hidden (H.out.keep hb)
  replace H1 := hidden (H1.out.keep hb)
  replace R0 := hidden (R0.out.keep hb)
  replace Q := hidden (Q.out.keep hb)
  replace X := hidden (X.out.keep hb)
  replace Q1 := hidden (Q1.out.keep hb)
  clear hb
  have R1 := hidden (Two.new w7 (.int .i64 C) (.slice qb 0 db) 55)
  have r00 := R0.out.c0
  have r01 := R0.out.c1
  have r10 := R1.out.c0
  have r11 := R1.out.c1
  go_wp2_with fail
  with_reducible refine (eqEqsR_none _ _ _ _ _ _).mono ?_
  rintro e w8 ⟨rfl, hb⟩
  replace D0 := hidden (D0.out.keep hb)
  replace B := hidden (keepB B.out hb)
  replace H := hidden (H.out.keep hb)
  replace H1 := hidden (H1.out.keep hb)
  replace R0 := hidden (R0.out.keep hb)
  replace Q := hidden (Q.out.keep hb)
  replace X := hidden (X.out.keep hb)
  replace Q1 := hidden (Q1.out.keep hb)
  replace R1 := hidden (R1.out.keep hb)
  clear r00 r01 r10 r11 hb
  have QS := hidden (Q.out.syms HK.out.big HK.out.fits)
  have S1 := hidden (show ∀ wc, Below w8.heap.size w8 wc → Calls Try.prog 9 #[.agg #[.slice p n c]] wc fun e w' => ∃ g, e = .returned (.agg #[.slice (some ⟨g, 0, none⟩) n n]) ∧ Below w8.heap.size w8 w' ∧ Syms w' g 0 n N A ∧ w'.cell? ⟨w5.heap.size, 0, none⟩ = some (.slice (some ⟨gx, 0, none⟩) n n) from fun wc hc => by
    refine (toSig_new p n c N A wc (H.out.keep hc) HK.out).mono ?_
    rintro e w' ⟨g, rfl, hg, hl, hs, hb⟩
    exact ⟨g, rfl, keepB hc hb, hs, (X.out.keep (keepB hc hb)).c0⟩)
  have S2 := hidden (show ∀ wc g, Below w8.heap.size w8 wc → Syms wc g 0 n N A → Calls Try.prog 13 #[.agg #[.slice (some ⟨gx, 0, none⟩) n n], .agg #[.slice (some ⟨g, 0, none⟩) n n]] wc fun e w' => e = .returned (.bool true) ∧ Below w8.heap.size w8 w' from fun wc g hc hm => by
    refine (eqSignature_eq gx 0 g 0 n n n N A wc (QS.out.keep hc) hm HK.out.most).mono ?_
    rintro e w' ⟨rfl, hb⟩
    exact ⟨rfl, keepB hc hb⟩)
  have x0 := X.out.c0
  have d0 := D0.out.c0
  go_wp2_with fail
  go_cut [42] (fun t wc => t = .bool false ∧ Below w8.heap.size w8 wc)
  case first =>
    go_region_with (first
      | (go_at_call 9; with_reducible refine (S1.out _ ?_).mono ?_; exact (Below.refl _ _).drew; rintro e v5 ⟨g5', rfl, b5', m5', d5'⟩)
      | (go_at_call 13; with_reducible refine (S2.out _ _ b5' m5').mono ?_; rintro e v6 ⟨rfl, b6'⟩))
    all_goals (go_wp2_with fail; go_meet)
    all_goals exact ⟨rfl, b6'⟩
  case rest =>
    rename World => w9
    obtain ⟨rfl, hb⟩ := hcut
    replace D0 := hidden (D0.out.keep hb)
    replace B := hidden (keepB B.out hb)
    replace H := hidden (H.out.keep hb)
    replace H1 := hidden (H1.out.keep hb)
    replace R0 := hidden (R0.out.keep hb)
    replace Q := hidden (Q.out.keep hb)
    replace X := hidden (X.out.keep hb)
    replace Q1 := hidden (Q1.out.keep hb)
    replace R1 := hidden (R1.out.keep hb)
    replace QS := hidden (QS.out.keep hb)
    clear x0 d0 hb S1 S2
    clear QS
    go_wp2_with fail
    with_reducible refine (Byt.toByteS_new p1 m1 c1 l1 _ H1.out).mono ?_
    rintro e w10 ⟨g10, rfl, hg, hs, hb⟩
    replace D0 := hidden (D0.out.keep hb)
    replace B := hidden (keepB B.out hb)
    replace H := hidden (H.out.keep hb)
    replace H1 := hidden (H1.out.keep hb)
    replace R0 := hidden (R0.out.keep hb)
    replace Q := hidden (Q.out.keep hb)
    replace X := hidden (X.out.keep hb)
    replace Q1 := hidden (Q1.out.keep hb)
    replace R1 := hidden (R1.out.keep hb)
    clear hb hg
    have Q9 := hidden (hs)
    clear hs
    go_wp2_with fail
    with_reducible refine (Byt.eqByteS_eq gy1 0 _ 0 m1 m1 m1 l1 _ (Q1.out.row HM1.out HBY1.out) Q9.out).mono ?_
    rintro e w11 ⟨rfl, hb⟩
    replace D0 := hidden (D0.out.keep hb)
    replace B := hidden (keepB B.out hb)
    replace H := hidden (H.out.keep hb)
    replace H1 := hidden (H1.out.keep hb)
    replace R0 := hidden (R0.out.keep hb)
    replace Q := hidden (Q.out.keep hb)
    replace X := hidden (X.out.keep hb)
    replace Q1 := hidden (Q1.out.keep hb)
    replace R1 := hidden (R1.out.keep hb)
    replace Q9 := hidden (Q9.out.keep hb)
    clear hb
    clear Q9
    have x0 := X.out.c0
    go_wp2_with fail
    with_reducible refine (markSignature_z _ gx n n 1 N A _ Q.out HK.out.most (by omega) (by omega)).mono ?_
    rintro e w12 ⟨rfl, -, hg⟩
    replace B := hidden (grownB B.out hg GX.out)
    replace D0 := hidden (D0.out.grown hg (Nat.ne_of_lt L_D0_Q.out))
    replace H := hidden (Z.out.keep B.out)
    replace H1 := hidden (Z1.out.keep B.out)
    replace R0 := hidden (R0.out.grown hg (Nat.ne_of_lt L_R0_Q.out))
    replace X := hidden (X.out.grown hg (Nat.ne_of_gt L_Q_X.out))
    replace Q1 := hidden (Q1.out.grown hg (Nat.ne_of_gt L_Q_Q1.out))
    replace R1 := hidden (R1.out.grown hg (Nat.ne_of_gt L_Q_R1.out))
    clear Q
    clear x0 hg
    have HN1 := HK.out.most
    go_wp2_with fail
    have HMx1 := HM1.out
    with_reducible refine (markByteS_z _ gy1 m1 m1 (1 + 2 * n) _ _ Q1.out HM1.out (by omega) (by omega)).mono ?_
    rintro e w13 ⟨rfl, -, hg⟩
    replace B := hidden (grownB B.out hg GY1.out)
    replace D0 := hidden (D0.out.grown hg (Nat.ne_of_lt L_D0_Q1.out))
    replace H := hidden (Z.out.keep B.out)
    replace H1 := hidden (Z1.out.keep B.out)
    replace R0 := hidden (R0.out.grown hg (Nat.ne_of_lt L_R0_Q1.out))
    replace X := hidden (X.out.grown hg (Nat.ne_of_lt L_X_Q1.out))
    replace R1 := hidden (R1.out.grown hg (Nat.ne_of_gt L_Q1_R1.out))
    clear Q1
    clear hg
    have r00 := R0.out.c0
    have r01 := R0.out.c1
    have r10 := R1.out.c0
    have r11 := R1.out.c1
    have hkk : decide (((1 : Int) + 2 * n + m1) < 0) = false := by simp; omega
    go_wp2_with fail
    with_reducible refine (eqEqsR_none _ _ _ _ _ _).mono ?_
    rintro e w14 ⟨rfl, hb⟩
    replace D0 := hidden (D0.out.keep hb)
    replace B := hidden (keepB B.out hb)
    replace H := hidden (H.out.keep hb)
    replace H1 := hidden (H1.out.keep hb)
    replace R0 := hidden (R0.out.keep hb)
    replace X := hidden (X.out.keep hb)
    replace R1 := hidden (R1.out.keep hb)
    clear r00 r01 r10 r11 hb
    have r00 := R1.out.c0
    have r01 := R1.out.c1
    go_wp2_with fail
    with_reducible refine (markEqsR_none _ _ _ _).mono ?_
    rintro e w15 ⟨rfl, hb⟩
    replace D0 := hidden (D0.out.keep hb)
    replace B := hidden (keepB B.out hb)
    replace H := hidden (H.out.keep hb)
    replace H1 := hidden (H1.out.keep hb)
    replace R0 := hidden (R0.out.keep hb)
    replace X := hidden (X.out.keep hb)
    replace R1 := hidden (R1.out.keep hb)
    clear r00 r01 hb
    have r00 := R1.out.c0
    have r01 := R1.out.c1
    go_wp2_with fail
    with_reducible refine (heldEqsR_none _ _ _ _).mono ?_
    rintro e w16 ⟨rfl, hb⟩
    replace D0 := hidden (D0.out.keep hb)
    replace B := hidden (keepB B.out hb)
    replace H := hidden (H.out.keep hb)
    replace H1 := hidden (H1.out.keep hb)
    replace R0 := hidden (R0.out.keep hb)
    replace X := hidden (X.out.keep hb)
    replace R1 := hidden (R1.out.keep hb)
    clear r00 r01 hb
    have d0 := D0.out.c0
    go_wp2_with fail
    with_reducible refine (toSig_new p n c N A _ H.out HK.out).mono ?_
    rintro e w17 ⟨g17, rfl, hg, hl, hs, hb⟩
    replace D0 := hidden (D0.out.keep hb)
    replace B := hidden (keepB B.out hb)
    replace H := hidden (H.out.keep hb)
    replace H1 := hidden (H1.out.keep hb)
    replace R0 := hidden (R0.out.keep hb)
    replace X := hidden (X.out.keep hb)
    replace R1 := hidden (R1.out.keep hb)
    clear d0 hb hg hl
    have P := hidden (hs)
    clear hs
    go_wp2_with fail
    with_reducible refine (Byt.toByteS_new p1 m1 c1 l1 _ H1.out).mono ?_
    rintro e w18 ⟨g18, rfl, hg, hs, hb⟩
    replace D0 := hidden (D0.out.keep hb)
    replace B := hidden (keepB B.out hb)
    replace H := hidden (H.out.keep hb)
    replace H1 := hidden (H1.out.keep hb)
    replace R0 := hidden (R0.out.keep hb)
    replace X := hidden (X.out.keep hb)
    replace R1 := hidden (R1.out.keep hb)
    replace P := hidden (P.out.keep hb)
    clear hb hg
    have P1 := hidden (hs)
    clear hs
    go_wp2_with fail
    with_reducible refine (IM.out _ _ _ P.out P1.out HK.out).mono ?_
    rintro e w19 ⟨ha, hb⟩
    replace D0 := hidden (D0.out.keep hb)
    replace B := hidden (keepB B.out hb)
    replace H := hidden (H.out.keep hb)
    replace H1 := hidden (H1.out.keep hb)
    replace R0 := hidden (R0.out.keep hb)
    replace X := hidden (X.out.keep hb)
    replace R1 := hidden (R1.out.keep hb)
    replace P := hidden (P.out.keep hb)
    replace P1 := hidden (P1.out.keep hb)
    clear hb
    rcases ha with ⟨-, qc, dc, rfl⟩ | ⟨h1, h2, -⟩
    rotate_left
    · exact absurd ⟨h1, h2⟩ HC0.out
    have hb := alloc_below w19 (.cells #[.int .i64 C, .slice qc 0 dc] 55)
    replace D0 := hidden (D0.out.keep hb)
    replace B := hidden (keepB B.out hb)
    replace H := hidden (H.out.keep hb)
    replace H1 := hidden (H1.out.keep hb)
    replace R0 := hidden (R0.out.keep hb)
    replace X := hidden (X.out.keep hb)
    replace R1 := hidden (R1.out.keep hb)
    replace P := hidden (P.out.keep hb)
    replace P1 := hidden (P1.out.keep hb)
    clear hb
    have R2 := hidden (Two.new w19 (.int .i64 C) (.slice qc 0 dc) 55)
    clear P P1
    have r00 := R0.out.c0
    have r01 := R0.out.c1
    have r10 := R2.out.c0
    have r11 := R2.out.c1
    go_wp2_with fail
    with_reducible refine (eqEqsR_none _ _ _ _ _ _).mono ?_
    rintro e w20 ⟨rfl, hb⟩
    replace D0 := hidden (D0.out.keep hb)
    replace B := hidden (keepB B.out hb)
    replace H := hidden (H.out.keep hb)
    replace H1 := hidden (H1.out.keep hb)
    replace R0 := hidden (R0.out.keep hb)
    replace X := hidden (X.out.keep hb)
    replace R1 := hidden (R1.out.keep hb)
    replace R2 := hidden (R2.out.keep hb)
    clear r00 r01 r10 r11 hb
    have r00 := R1.out.c0
    have r01 := R1.out.c1
    go_wp2_with fail
    with_reducible refine (heldEqsR_none _ _ _ _).mono ?_
    rintro e w21 ⟨rfl, hb⟩
    replace D0 := hidden (D0.out.keep hb)
    replace B := hidden (keepB B.out hb)
    replace H := hidden (H.out.keep hb)
    replace H1 := hidden (H1.out.keep hb)
    replace R0 := hidden (R0.out.keep hb)
    replace X := hidden (X.out.keep hb)
    replace R1 := hidden (R1.out.keep hb)
    replace R2 := hidden (R2.out.keep hb)
    clear r00 r01 hb
    go_wp2_with fail
    go_ret
    exact ⟨rfl, B.out⟩

set_option maxRecDepth 20000 in
set_option maxHeartbeats 400000 in
theorem law_uq_big1 (p : Option Addr) (n c : Nat) (p1 : Option Addr) (m1 c1 : Nat) (w : World) (hm : ¬ m1 ≤ 1048576) :
    Calls Try.prog 6 #[.agg #[.slice p n c], .slice p1 m1 c1] w fun e w' => e = .returned (.bool true) ∧ Below w.heap.size w w' := by
  have h : (1048576 : Int) < m1 := by omega
  go_enter Try.func6, Try.ntmps6
  go_wp2
  go_ret
  exact ⟨rfl, alloc_below _ _⟩

theorem law_uq_all (p : Option Addr) (n c : Nat) (N : Nat → ByteArray) (A : Nat → Int) (p1 : Option Addr) (m1 c1 : Nat) (l1 : List Int) (w : World) (h : SrcS w p n N A) (h1 : m1 ≤ 1048576 → Byt.Src w p1 m1 l1) :
    Calls Try.prog 6 #[.agg #[.slice p n c], .slice p1 m1 c1] w fun e w' => e = .returned (.bool true) ∧ Below w.heap.size w w' := by
  by_cases hm : m1 ≤ 1048576
  · replace h1 := h1 hm
    have SP := hidden (fun b b1 w h (h1 : Byt.Row w b1 0 m1 l1) hk => specUnpackEqs_any b 0 n n b1 0 m1 m1 N A (fun i => l1.getD i 0) w h h1.byts h1.blk hk hm (Nat.le_refl _))
    have IM := hidden (fun b b1 w h (h1 : Byt.Row w b1 0 m1 l1) hk => implUnpackEqs_any b 0 n n b1 0 m1 m1 N A (fun i => l1.getD i 0) w h h1.byts h1.blk hk hm (Nat.le_refl _))
    by_cases hc : uqC n N A m1 (fun i => l1.getD i 0) = 0 ∧ 0 < ((fun i => l1.getD i 0) 0).toNat
    · have h12 := (uq_right hc.1).2.2.1
      refine law_uq_ok p n c N A p1 m1 c1 l1 _ _ _ w h h1 hm hc (rdD_kept (Nat.le_trans h12 (by omega))) ?_ SP IM
      have := sumF_le n A m1 (fun i => l1.getD i 0) (((fun i => l1.getD i 0) 0).toNat * 2)
      omega
    · exact law_uq_bad p n c N A p1 m1 c1 l1 _ _ _ w h h1 hm hc SP IM
  · exact law_uq_big1 p n c p1 m1 c1 w hm

end Go.Proofs.Ytcnkkoegfjggaaa
