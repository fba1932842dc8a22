/- Law FnExactPackSignature: at every signature the program's PackSignature answers as the model's; its answer owns its memory. -/
import Derived.Test.YtfoknnnoaeplaabBytesRes
namespace Go.Proofs.Ytfoknnnoaeplaab
open Go.RowKit

set_option maxRecDepth 20000 in
set_option maxHeartbeats 12800000 in
theorem law_pack_ok (p : Option Addr) (n c : Nat) (N : Nat → ByteArray) (A : Nat → Int) (w : World) (h : SrcS w p n N A) (hc : faultF n N A = 0) :
    Calls Try.prog 3 #[.agg #[.slice p n c]] w fun e w' => e = .returned (.bool true) ∧ Below w.heap.size w w' := by
  have H0 := hidden h
  have HC := hidden hc
  have hln := packV_len (fault_right hc) n (Nat.le_refl _)
  have h6 := (fault_right hc).most
  have HB := hidden (packL_byt (fault_right hc) n (Nat.le_refl _))
  have HV := hidden (packV_map N A n n)
  have HM := hidden (show (packV N A n n).length ≤ 1048576 by omega)
  clear hc
  have D0 := hidden (One.new w (.slice p n c) 24)
  have B := hidden (alloc_below w (.cells #[.slice p n c] 24))
  have H := hidden (H0.out.keep B.out)
  clear h
  go_enter Try.func3, Try.ntmps3
  go_wp2_with fail
  with_reducible refine (szSignature_src p n c N A 1048576 _ H.out (by omega) (by omega)).mono ?_
  rintro e w1 ⟨⟨r1, rfl, hr⟩, hb⟩
  replace D0 := hidden (D0.out.keep hb)
  replace B := hidden (keepB B.out hb)
  replace H := hidden (H.out.keep hb)
  clear hb
  rcases hr with rfl | ⟨q0, q1, q2, q3⟩
  · go_wp2_with fail
    go_ret
    exact ⟨rfl, B.out⟩
  have HK := hidden (Kept.mk q2 q3 H.out.fits)
  clear q2 q3
  clear q1
  have d0 := D0.out.c0
  go_wp2_with fail
  with_reducible refine (toSig_new p n c N A _ H.out HK.out).mono ?_
  rintro e w2 ⟨g2, rfl, hg, hl, hs, hb⟩
  replace D0 := hidden (D0.out.keep hb)
  replace B := hidden (keepB B.out hb)
  replace H := hidden (H.out.keep hb)
  clear d0 hb hg hl
  have P1 := hidden (hs)
  clear hs
  go_wp2_with fail
  with_reducible refine (specPack_any _ _ _ _ N A _ P1.out HK.out).mono ?_
  rintro e w3 ⟨ha, hb⟩
  rcases ha with ⟨ha, -⟩ | ⟨-, ga, da, rfl, ho⟩
  · exact absurd HC.out ha
  have hg := ho.base
  replace D0 := hidden (D0.out.keep hb)
  replace B := hidden (keepB B.out hb)
  replace H := hidden (H.out.keep hb)
  replace P1 := hidden (P1.out.keep hb)
  have LW := hidden (ho.ownR)
  clear hb ho hg
  have hb := alloc_below w3 (.cells #[.int .i64 0, .slice (some ⟨ga, 0, none⟩) (packV N A n n).length da] 28)
  replace D0 := hidden (D0.out.keep hb)
  replace B := hidden (keepB B.out hb)
  replace H := hidden (H.out.keep hb)
  replace P1 := hidden (P1.out.keep hb)
  replace LW := hidden (LW.out.keep hb)
  clear hb
  have R0 := hidden (Two.new w3 (.int .i64 0) (.slice (some ⟨ga, 0, none⟩) (packV N A n n).length da) 28)
  clear P1
  have d0 := D0.out.c0
  go_wp2_with fail
  have BSx := hidden B.out.size
  with_reducible refine (toSignature_src p n c N A _ H.out HK.out).mono ?_
  rintro e w4 ⟨gx, rfl, hgx, hs, hb⟩
  have L_D0_Q := hidden (Nat.lt_of_lt_of_le D0.out.blk hgx)
  have L_LW_Q := hidden (Nat.lt_of_lt_of_le LW.out.lt hgx)
  have L_R0_Q := hidden (Nat.lt_of_lt_of_le R0.out.blk hgx)
  replace D0 := hidden (D0.out.keep hb)
  replace B := hidden (keepB B.out hb)
  replace H := hidden (H.out.keep hb)
  replace LW := hidden (LW.out.keep hb)
  replace R0 := hidden (R0.out.keep hb)
  have Q := hidden (hs)
  clear d0 hb
  have GX := hidden (Nat.le_trans BSx.out hgx)
  clear hs hgx BSx
  have L_Q_X := hidden (Nat.lt_of_lt_of_le Q.out.lt (Nat.le_refl _))
  have hb := alloc_below w4 (.cells #[.slice (some ⟨gx, 0, none⟩) n n] 32)
  replace D0 := hidden (D0.out.keep hb)
  replace B := hidden (keepB B.out hb)
  replace H := hidden (H.out.keep hb)
  replace LW := hidden (LW.out.keep hb)
  replace R0 := hidden (R0.out.keep hb)
  replace Q := hidden (Q.out.keep hb)
  clear hb
  have X := hidden (One.new w4 (.slice (some ⟨gx, 0, none⟩) n n) 32)
  have x0 := X.out.c0
  go_wp2_with fail
  have BSx := hidden B.out.size
  with_reducible refine (implPack_any _ _ _ _ N A _ (Q.out.syms HK.out.big HK.out.fits) HK.out).mono ?_
  rintro e w5 ⟨ha, hb⟩
  rcases ha with ⟨ha, -⟩ | ⟨-, gb, db, rfl, ho⟩
  · exact absurd HC.out ha
  have hg := ho.base
  have L_D0_LG := hidden (Nat.lt_of_lt_of_le D0.out.blk hg)
  have L_LW_LG := hidden (Nat.lt_of_lt_of_le LW.out.lt hg)
  have L_R0_LG := hidden (Nat.lt_of_lt_of_le R0.out.blk hg)
  have L_Q_LG := hidden (Nat.lt_of_lt_of_le Q.out.lt hg)
  have L_X_LG := hidden (Nat.lt_of_lt_of_le X.out.blk hg)
  have GBx := hidden hg
  replace D0 := hidden (D0.out.keep hb)
  replace B := hidden (keepB B.out hb)
  replace H := hidden (H.out.keep hb)
  replace LW := hidden (LW.out.keep hb)
  replace R0 := hidden (R0.out.keep hb)
  replace Q := hidden (Q.out.keep hb)
  replace X := hidden (X.out.keep hb)
  have LG := hidden (ho.ownR)
  clear x0 hb ho hg
  have L_Q_R1 := hidden (Nat.lt_of_lt_of_le Q.out.lt (Nat.le_refl _))
  have L_LG_R1 := hidden (Nat.lt_of_lt_of_le LG.out.lt (Nat.le_refl _))
  have hb := alloc_below w5 (.cells #[.int .i64 0, .slice (some ⟨gb, 0, none⟩) (packV N A n n).length db] 28)
  replace D0 := hidden (D0.out.keep hb)
  replace B := hidden (keepB B.out hb)
  replace H := hidden (H.out.keep hb)
  replace LW := hidden (LW.out.keep hb)
  replace R0 := hidden (R0.out.keep hb)
  replace Q := hidden (Q.out.keep hb)
  replace X := hidden (X.out.keep hb)
  replace LG := hidden (LG.out.keep hb)
  clear hb
  have R1 := hidden (Two.new w5 (.int .i64 0) (.slice (some ⟨gb, 0, none⟩) (packV N A n n).length db) 28)
  have r0 := R0.out.c0
  have r1 := R0.out.c1
  have r2 := R1.out.c0
  have r3 := R1.out.c1
  go_wp2_with fail
  with_reducible refine (eqBy_eq _ _ _ _ _ _ _ _ _ _ HV.out _ LG.out LW.out HM.out HB.out).mono ?_
  rintro e w6 ⟨rfl, hb⟩
  replace D0 := hidden (D0.out.keep hb)
  replace B := hidden (keepB B.out hb)
  replace H := hidden (H.out.keep hb)
  replace LW := hidden (LW.out.keep hb)
  replace R0 := hidden (R0.out.keep hb)
  replace Q := hidden (Q.out.keep hb)
  replace X := hidden (X.out.keep hb)
  replace LG := hidden (LG.out.keep hb)
  replace R1 := hidden (R1.out.keep hb)
  clear r0 r1 r2 r3 hb
  have QS := hidden (Q.out.syms HK.out.big HK.out.fits)
  have S1 := hidden (show ∀ wc, Below w6.heap.size w6 wc → Calls Try.prog 10 #[.agg #[.slice p n c]] wc fun e w' => ∃ g, e = .returned (.agg #[.slice (some ⟨g, 0, none⟩) n n]) ∧ Below w6.heap.size w6 w' ∧ Syms w' g 0 n N A ∧ w'.cell? ⟨w4.heap.size, 0, none⟩ = some (.slice (some ⟨gx, 0, none⟩) n n) from fun wc hc => by
    refine (toSig_new p n c N A wc (H.out.keep hc) HK.out).mono ?_
    rintro e w' ⟨g, rfl, hg, hl, hs, hb⟩
    exact ⟨g, rfl, keepB hc hb, hs, (X.out.keep (keepB hc hb)).c0⟩)
  have S2 := hidden (show ∀ wc g, Below w6.heap.size w6 wc → Syms wc g 0 n N A → Calls Try.prog 13 #[.agg #[.slice (some ⟨gx, 0, none⟩) n n], .agg #[.slice (some ⟨g, 0, none⟩) n n]] wc fun e w' => e = .returned (.bool true) ∧ Below w6.heap.size w6 w' from fun wc g hc hm => by
    refine (eqSignature_eq gx 0 g 0 n n n N A wc (QS.out.keep hc) hm HK.out.most).mono ?_
    rintro e w' ⟨rfl, hb⟩
    exact ⟨rfl, keepB hc hb⟩)
  have x0 := X.out.c0
  have d0 := D0.out.c0
  go_wp2_with fail
  go_cut [31] (fun t wc => t = .bool false ∧ Below w6.heap.size w6 wc)
  case first =>
    go_region_with (first
      | (go_at_call 10; with_reducible refine (S1.out _ ?_).mono ?_; exact (Below.refl _ _).drew; rintro e v5 ⟨g5', rfl, b5', m5', d5'⟩)
      | (go_at_call 13; with_reducible refine (S2.out _ _ b5' m5').mono ?_; rintro e v6 ⟨rfl, b6'⟩))
    all_goals (go_wp2_with fail; go_meet)
    all_goals exact ⟨rfl, b6'⟩
  case rest =>
    rename World => w7
    obtain ⟨rfl, hb⟩ := hcut
    replace D0 := hidden (D0.out.keep hb)
    replace B := hidden (keepB B.out hb)
    replace H := hidden (H.out.keep hb)
    replace LW := hidden (LW.out.keep hb)
    replace R0 := hidden (R0.out.keep hb)
    replace Q := hidden (Q.out.keep hb)
    replace X := hidden (X.out.keep hb)
    replace LG := hidden (LG.out.keep hb)
    replace R1 := hidden (R1.out.keep hb)
    replace QS := hidden (QS.out.keep hb)
    clear x0 d0 hb S1 S2
    clear QS
    have x0 := X.out.c0
    go_wp2_with fail
    with_reducible refine (markSignature_z _ gx n n 1 N A _ Q.out HK.out.most (by omega) (by omega)).mono ?_
    rintro e w8 ⟨rfl, -, hg⟩
    replace B := hidden (grownB B.out hg GX.out)
    replace D0 := hidden (D0.out.grown hg (Nat.ne_of_lt L_D0_Q.out))
    replace H := hidden (H0.out.keep B.out)
    replace LW := hidden (LW.out.grown hg (Nat.ne_of_lt L_LW_Q.out))
    replace R0 := hidden (R0.out.grown hg (Nat.ne_of_lt L_R0_Q.out))
    replace X := hidden (X.out.grown hg (Nat.ne_of_gt L_Q_X.out))
    replace LG := hidden (LG.out.grown hg (Nat.ne_of_gt L_Q_LG.out))
    replace R1 := hidden (R1.out.grown hg (Nat.ne_of_gt L_Q_R1.out))
    clear Q
    clear x0 hg
    have r0 := R0.out.c0
    have r1 := R0.out.c1
    have r2 := R1.out.c0
    have r3 := R1.out.c1
    have HN1 := HK.out.most
    have hkk : decide ((1 : Int) + 2 * n < 0) = false := by simp; omega
    go_wp2_with fail
    with_reducible refine (eqBy_eq _ _ _ _ _ _ _ _ _ _ HV.out _ LG.out LW.out HM.out HB.out).mono ?_
    rintro e w9 ⟨rfl, hb⟩
    replace D0 := hidden (D0.out.keep hb)
    replace B := hidden (keepB B.out hb)
    replace H := hidden (H.out.keep hb)
    replace LW := hidden (LW.out.keep hb)
    replace R0 := hidden (R0.out.keep hb)
    replace X := hidden (X.out.keep hb)
    replace LG := hidden (LG.out.keep hb)
    replace R1 := hidden (R1.out.keep hb)
    clear r0 r1 r2 r3 hb
    have r2 := R1.out.c0
    have r3 := R1.out.c1
    go_wp2_with fail
    have GB := hidden (show w.heap.size ≤ gb from Nat.le_trans BSx.out GBx.out)
    with_reducible refine (markBy_any _ _ gb _ db _ _ LG.out HM.out).mono ?_
    rintro e w10 ⟨rfl, ho, hg⟩
    replace B := hidden (grownB B.out hg GB.out)
    replace D0 := hidden (D0.out.grown hg (Nat.ne_of_lt L_D0_LG.out))
    replace H := hidden (H0.out.keep B.out)
    replace LW := hidden (LW.out.grown hg (Nat.ne_of_lt L_LW_LG.out))
    replace R0 := hidden (R0.out.grown hg (Nat.ne_of_lt L_R0_LG.out))
    replace X := hidden (X.out.grown hg (Nat.ne_of_lt L_X_LG.out))
    replace R1 := hidden (R1.out.grown hg (Nat.ne_of_gt L_LG_R1.out))
    replace LG := hidden (ho)
    clear r2 r3 hg ho
    have hq : ¬ (1 : Int) + ((packV N A n n).length : Nat) < 0 := by omega
    have r2 := R1.out.c0
    have r3 := R1.out.c1
    go_wp2_with fail
    with_reducible refine (heldBy_any _ _ gb _ db _ LG.out HM.out).mono ?_
    rintro e w11 ⟨rfl, hb⟩
    replace D0 := hidden (D0.out.keep hb)
    replace B := hidden (keepB B.out hb)
    replace H := hidden (H.out.keep hb)
    replace LW := hidden (LW.out.keep hb)
    replace R0 := hidden (R0.out.keep hb)
    replace X := hidden (X.out.keep hb)
    replace LG := hidden (LG.out.keep hb)
    replace R1 := hidden (R1.out.keep hb)
    clear r2 r3 hb
    have d0 := D0.out.c0
    go_wp2_with fail
    with_reducible refine (toSig_new p n c N A _ H.out HK.out).mono ?_
    rintro e w12 ⟨g12, rfl, hg, hl, hs, hb⟩
    replace D0 := hidden (D0.out.keep hb)
    replace B := hidden (keepB B.out hb)
    replace H := hidden (H.out.keep hb)
    replace LW := hidden (LW.out.keep hb)
    replace R0 := hidden (R0.out.keep hb)
    replace X := hidden (X.out.keep hb)
    replace LG := hidden (LG.out.keep hb)
    replace R1 := hidden (R1.out.keep hb)
    clear d0 hb hg hl
    have P1 := hidden (hs)
    clear hs
    go_wp2_with fail
    with_reducible refine (implPack_any _ _ _ _ N A _ P1.out HK.out).mono ?_
    rintro e w13 ⟨ha, hb⟩
    rcases ha with ⟨ha, -⟩ | ⟨-, gc, dc, rfl, ho⟩
    · exact absurd HC.out ha
    have hg := ho.base
    have L_LG_LH := hidden (Nat.lt_of_lt_of_le LG.out.lt hg)
    replace D0 := hidden (D0.out.keep hb)
    replace B := hidden (keepB B.out hb)
    replace H := hidden (H.out.keep hb)
    replace LW := hidden (LW.out.keep hb)
    replace R0 := hidden (R0.out.keep hb)
    replace X := hidden (X.out.keep hb)
    replace LG := hidden (LG.out.keep hb)
    replace R1 := hidden (R1.out.keep hb)
    replace P1 := hidden (P1.out.keep hb)
    have LH := hidden (ho.ownR)
    clear hb ho hg
    have L_LG_R2 := hidden (Nat.lt_of_lt_of_le LG.out.lt (Nat.le_refl _))
    have hb := alloc_below w13 (.cells #[.int .i64 0, .slice (some ⟨gc, 0, none⟩) (packV N A n n).length dc] 28)
    replace D0 := hidden (D0.out.keep hb)
    replace B := hidden (keepB B.out hb)
    replace H := hidden (H.out.keep hb)
    replace LW := hidden (LW.out.keep hb)
    replace R0 := hidden (R0.out.keep hb)
    replace X := hidden (X.out.keep hb)
    replace LG := hidden (LG.out.keep hb)
    replace R1 := hidden (R1.out.keep hb)
    replace P1 := hidden (P1.out.keep hb)
    replace LH := hidden (LH.out.keep hb)
    clear hb
    have R2 := hidden (Two.new w13 (.int .i64 0) (.slice (some ⟨gc, 0, none⟩) (packV N A n n).length dc) 28)
    clear P1
    have r0 := R0.out.c0
    have r1 := R0.out.c1
    have r2 := R2.out.c0
    have r3 := R2.out.c1
    go_wp2_with fail
    with_reducible refine (eqBy_eq _ _ _ _ _ _ _ _ _ _ HV.out _ LH.out LW.out HM.out HB.out).mono ?_
    rintro e w14 ⟨rfl, hb⟩
    replace D0 := hidden (D0.out.keep hb)
    replace B := hidden (keepB B.out hb)
    replace H := hidden (H.out.keep hb)
    replace LW := hidden (LW.out.keep hb)
    replace R0 := hidden (R0.out.keep hb)
    replace X := hidden (X.out.keep hb)
    replace LG := hidden (LG.out.keep hb)
    replace R1 := hidden (R1.out.keep hb)
    replace LH := hidden (LH.out.keep hb)
    replace R2 := hidden (R2.out.keep hb)
    clear r0 r1 r2 r3 hb
    have r2 := R1.out.c0
    have r3 := R1.out.c1
    go_wp2_with fail
    with_reducible refine (heldBy_any _ _ gb _ db _ LG.out HM.out).mono ?_
    rintro e w15 ⟨rfl, hb⟩
    replace D0 := hidden (D0.out.keep hb)
    replace B := hidden (keepB B.out hb)
    replace H := hidden (H.out.keep hb)
    replace LW := hidden (LW.out.keep hb)
    replace R0 := hidden (R0.out.keep hb)
    replace X := hidden (X.out.keep hb)
    replace LG := hidden (LG.out.keep hb)
    replace R1 := hidden (R1.out.keep hb)
    replace LH := hidden (LH.out.keep hb)
    replace R2 := hidden (R2.out.keep hb)
    clear r2 r3 hb
    go_wp2_with fail
    go_ret
    exact ⟨rfl, B.out⟩

set_option maxRecDepth 20000 in
set_option maxHeartbeats 12800000 in
theorem law_pack_bad (p : Option Addr) (n c : Nat) (N : Nat → ByteArray) (A : Nat → Int) (w : World) (h : SrcS w p n N A) (hc : faultF n N A ≠ 0) :
    Calls Try.prog 3 #[.agg #[.slice p n c]] w fun e w' => e = .returned (.bool true) ∧ Below w.heap.size w w' := by
  have H0 := hidden h
  have HC := hidden hc
  clear hc
  generalize hz : faultF n N A = z at HC
  have HZ := hidden hz
  clear hz
  have D0 := hidden (One.new w (.slice p n c) 24)
  have B := hidden (alloc_below w (.cells #[.slice p n c] 24))
  have H := hidden (H0.out.keep B.out)
  clear h
  go_enter Try.func3, Try.ntmps3
  go_wp2_with fail
  with_reducible refine (szSignature_src p n c N A 1048576 _ H.out (by omega) (by omega)).mono ?_
  rintro e w1 ⟨⟨r1, rfl, hr⟩, hb⟩
  replace D0 := hidden (D0.out.keep hb)
  replace B := hidden (keepB B.out hb)
  replace H := hidden (H.out.keep hb)
  clear hb
  rcases hr with rfl | ⟨q0, q1, q2, q3⟩
  · go_wp2_with fail
    go_ret
    exact ⟨rfl, B.out⟩
  have HK := hidden (Kept.mk q2 q3 H.out.fits)
  clear q2 q3
  clear q1
  have d0 := D0.out.c0
  go_wp2_with fail
  with_reducible refine (toSig_new p n c N A _ H.out HK.out).mono ?_
  rintro e w2 ⟨g2, rfl, hg, hl, hs, hb⟩
  replace D0 := hidden (D0.out.keep hb)
  replace B := hidden (keepB B.out hb)
  replace H := hidden (H.out.keep hb)
  clear d0 hb hg hl
  have P1 := hidden (hs)
  clear hs
  go_wp2_with fail
  with_reducible refine (specPack_any _ _ _ _ N A _ P1.out HK.out).mono ?_
  rintro e w3 ⟨ha, hb⟩
  replace D0 := hidden (D0.out.keep hb)
  replace B := hidden (keepB B.out hb)
  replace H := hidden (H.out.keep hb)
  replace P1 := hidden (P1.out.keep hb)
  clear hb
  rcases ha with ⟨-, rfl⟩ | ⟨ha, -⟩
  rotate_left
  · exact absurd (HZ.out.symm.trans ha) HC.out
  rw [HZ.out]
  have hb := alloc_below w3 (.cells #[.int .i64 z, .slice none 0 0] 28)
  replace D0 := hidden (D0.out.keep hb)
  replace B := hidden (keepB B.out hb)
  replace H := hidden (H.out.keep hb)
  replace P1 := hidden (P1.out.keep hb)
  clear hb
  have R0 := hidden (Two.new w3 (.int .i64 z) (.slice none 0 0) 28)
  clear P1
  have d0 := D0.out.c0
  go_wp2_with fail
  have BSx := hidden B.out.size
  with_reducible refine (toSignature_src p n c N A _ H.out HK.out).mono ?_
  rintro e w4 ⟨gx, rfl, hgx, hs, hb⟩
  have L_D0_Q := hidden (Nat.lt_of_lt_of_le D0.out.blk hgx)
  have L_R0_Q := hidden (Nat.lt_of_lt_of_le R0.out.blk hgx)
  replace D0 := hidden (D0.out.keep hb)
  replace B := hidden (keepB B.out hb)
  replace H := hidden (H.out.keep hb)
  replace R0 := hidden (R0.out.keep hb)
  have Q := hidden (hs)
  clear d0 hb
  have GX := hidden (Nat.le_trans BSx.out hgx)
  clear hs hgx BSx
  have L_Q_X := hidden (Nat.lt_of_lt_of_le Q.out.lt (Nat.le_refl _))
  have hb := alloc_below w4 (.cells #[.slice (some ⟨gx, 0, none⟩) n n] 32)
  replace D0 := hidden (D0.out.keep hb)
  replace B := hidden (keepB B.out hb)
  replace H := hidden (H.out.keep hb)
  replace R0 := hidden (R0.out.keep hb)
  replace Q := hidden (Q.out.keep hb)
  clear hb
  have X := hidden (One.new w4 (.slice (some ⟨gx, 0, none⟩) n n) 32)
  have x0 := X.out.c0
  go_wp2_with fail
  have BSx := hidden B.out.size
  with_reducible refine (implPack_any _ _ _ _ N A _ (Q.out.syms HK.out.big HK.out.fits) HK.out).mono ?_
  rintro e w5 ⟨ha, hb⟩
  replace D0 := hidden (D0.out.keep hb)
  replace B := hidden (keepB B.out hb)
  replace H := hidden (H.out.keep hb)
  replace R0 := hidden (R0.out.keep hb)
  replace Q := hidden (Q.out.keep hb)
  replace X := hidden (X.out.keep hb)
  clear x0 hb
  rcases ha with ⟨-, rfl⟩ | ⟨ha, -⟩
  rotate_left
  · exact absurd (HZ.out.symm.trans ha) HC.out
  rw [HZ.out]
  have L_Q_R1 := hidden (Nat.lt_of_lt_of_le Q.out.lt (Nat.le_refl _))
  have hb := alloc_below w5 (.cells #[.int .i64 z, .slice none 0 0] 28)
  replace D0 := hidden (D0.out.keep hb)
  replace B := hidden (keepB B.out hb)
  replace H := hidden (H.out.keep hb)
  replace R0 := hidden (R0.out.keep hb)
  replace Q := hidden (Q.out.keep hb)
  replace X := hidden (X.out.keep hb)
  clear hb
  have R1 := hidden (Two.new w5 (.int .i64 z) (.slice none 0 0) 28)
  have r0 := R0.out.c0
  have r1 := R0.out.c1
  have r2 := R1.out.c0
  have r3 := R1.out.c1
  go_wp2_with fail
  with_reducible refine (Byt.eqBytes_none _ _).mono ?_
  rintro e w6 ⟨rfl, hb⟩
  replace D0 := hidden (D0.out.keep hb)
  replace B := hidden (keepB B.out hb)
  replace H := hidden (H.out.keep hb)
  replace R0 := hidden (R0.out.keep hb)
  replace Q := hidden (Q.out.keep hb)
  replace X := hidden (X.out.keep hb)
  replace R1 := hidden (R1.out.keep hb)
  clear r0 r1 r2 r3 hb
  have QS := hidden (Q.out.syms HK.out.big HK.out.fits)
  have S1 := hidden (show ∀ wc, Below w6.heap.size w6 wc → Calls Try.prog 10 #[.agg #[.slice p n c]] wc fun e w' => ∃ g, e = .returned (.agg #[.slice (some ⟨g, 0, none⟩) n n]) ∧ Below w6.heap.size w6 w' ∧ Syms w' g 0 n N A ∧ w'.cell? ⟨w4.heap.size, 0, none⟩ = some (.slice (some ⟨gx, 0, none⟩) n n) from fun wc hc => by
    refine (toSig_new p n c N A wc (H.out.keep hc) HK.out).mono ?_
    rintro e w' ⟨g, rfl, hg, hl, hs, hb⟩
    exact ⟨g, rfl, keepB hc hb, hs, (X.out.keep (keepB hc hb)).c0⟩)
  have S2 := hidden (show ∀ wc g, Below w6.heap.size w6 wc → Syms wc g 0 n N A → Calls Try.prog 13 #[.agg #[.slice (some ⟨gx, 0, none⟩) n n], .agg #[.slice (some ⟨g, 0, none⟩) n n]] wc fun e w' => e = .returned (.bool true) ∧ Below w6.heap.size w6 w' from fun wc g hc hm => by
    refine (eqSignature_eq gx 0 g 0 n n n N A wc (QS.out.keep hc) hm HK.out.most).mono ?_
    rintro e w' ⟨rfl, hb⟩
    exact ⟨rfl, keepB hc hb⟩)
  have x0 := X.out.c0
  have d0 := D0.out.c0
  go_wp2_with fail
  go_cut [31] (fun t wc => t = .bool false ∧ Below w6.heap.size w6 wc)
  case first =>
    go_region_with (first
      | (go_at_call 10; with_reducible refine (S1.out _ ?_).mono ?_; exact (Below.refl _ _).drew; rintro e v5 ⟨g5', rfl, b5', m5', d5'⟩)
      | (go_at_call 13; with_reducible refine (S2.out _ _ b5' m5').mono ?_; rintro e v6 ⟨rfl, b6'⟩))
    all_goals (go_wp2_with fail; go_meet)
    all_goals exact ⟨rfl, b6'⟩
  case rest =>
    rename World => w7
    obtain ⟨rfl, hb⟩ := hcut
    replace D0 := hidden (D0.out.keep hb)
    replace B := hidden (keepB B.out hb)
    replace H := hidden (H.out.keep hb)
    replace R0 := hidden (R0.out.keep hb)
    replace Q := hidden (Q.out.keep hb)
    replace X := hidden (X.out.keep hb)
    replace R1 := hidden (R1.out.keep hb)
    replace QS := hidden (QS.out.keep hb)
    clear x0 d0 hb S1 S2
    clear QS
    have x0 := X.out.c0
    go_wp2_with fail
    with_reducible refine (markSignature_z _ gx n n 1 N A _ Q.out HK.out.most (by omega) (by omega)).mono ?_
    rintro e w8 ⟨rfl, -, hg⟩
    replace B := hidden (grownB B.out hg GX.out)
    replace D0 := hidden (D0.out.grown hg (Nat.ne_of_lt L_D0_Q.out))
    replace H := hidden (H0.out.keep B.out)
    replace R0 := hidden (R0.out.grown hg (Nat.ne_of_lt L_R0_Q.out))
    replace X := hidden (X.out.grown hg (Nat.ne_of_gt L_Q_X.out))
    replace R1 := hidden (R1.out.grown hg (Nat.ne_of_gt L_Q_R1.out))
    clear Q
    clear x0 hg
    have r0 := R0.out.c0
    have r1 := R0.out.c1
    have r2 := R1.out.c0
    have r3 := R1.out.c1
    have HN1 := HK.out.most
    have hkk : decide ((1 : Int) + 2 * n < 0) = false := by simp; omega
    go_wp2_with fail
    with_reducible refine (Byt.eqBytes_none _ _).mono ?_
    rintro e w9 ⟨rfl, hb⟩
    replace D0 := hidden (D0.out.keep hb)
    replace B := hidden (keepB B.out hb)
    replace H := hidden (H.out.keep hb)
    replace R0 := hidden (R0.out.keep hb)
    replace X := hidden (X.out.keep hb)
    replace R1 := hidden (R1.out.keep hb)
    clear r0 r1 r2 r3 hb
    have r2 := R1.out.c0
    have r3 := R1.out.c1
    go_wp2_with fail
    with_reducible refine (Byt.markBytes_none _ 1 _).mono ?_
    rintro e w10 ⟨rfl, hb⟩
    replace D0 := hidden (D0.out.keep hb)
    replace B := hidden (keepB B.out hb)
    replace H := hidden (H.out.keep hb)
    replace R0 := hidden (R0.out.keep hb)
    replace X := hidden (X.out.keep hb)
    replace R1 := hidden (R1.out.keep hb)
    clear r2 r3 hb
    have r2 := R1.out.c0
    have r3 := R1.out.c1
    go_wp2_with fail
    with_reducible refine (Byt.heldBytes_none _ 1 (by omega) _).mono ?_
    rintro e w11 ⟨rfl, hb⟩
    replace D0 := hidden (D0.out.keep hb)
    replace B := hidden (keepB B.out hb)
    replace H := hidden (H.out.keep hb)
    replace R0 := hidden (R0.out.keep hb)
    replace X := hidden (X.out.keep hb)
    replace R1 := hidden (R1.out.keep hb)
    clear r2 r3 hb
    have d0 := D0.out.c0
    go_wp2_with fail
    with_reducible refine (toSig_new p n c N A _ H.out HK.out).mono ?_
    rintro e w12 ⟨g12, rfl, hg, hl, hs, hb⟩
    replace D0 := hidden (D0.out.keep hb)
    replace B := hidden (keepB B.out hb)
    replace H := hidden (H.out.keep hb)
    replace R0 := hidden (R0.out.keep hb)
    replace X := hidden (X.out.keep hb)
    replace R1 := hidden (R1.out.keep hb)
    clear d0 hb hg hl
    have P1 := hidden (hs)
    clear hs
    go_wp2_with fail
    with_reducible refine (implPack_any _ _ _ _ N A _ P1.out HK.out).mono ?_
    rintro e w13 ⟨ha, hb⟩
    replace D0 := hidden (D0.out.keep hb)
    replace B := hidden (keepB B.out hb)
    replace H := hidden (H.out.keep hb)
    replace R0 := hidden (R0.out.keep hb)
    replace X := hidden (X.out.keep hb)
    replace R1 := hidden (R1.out.keep hb)
    replace P1 := hidden (P1.out.keep hb)
    clear hb
    rcases ha with ⟨-, rfl⟩ | ⟨ha, -⟩
    rotate_left
    · exact absurd (HZ.out.symm.trans ha) HC.out
    rw [HZ.out]
    have hb := alloc_below w13 (.cells #[.int .i64 z, .slice none 0 0] 28)
    replace D0 := hidden (D0.out.keep hb)
    replace B := hidden (keepB B.out hb)
    replace H := hidden (H.out.keep hb)
    replace R0 := hidden (R0.out.keep hb)
    replace X := hidden (X.out.keep hb)
    replace R1 := hidden (R1.out.keep hb)
    replace P1 := hidden (P1.out.keep hb)
    clear hb
    have R2 := hidden (Two.new w13 (.int .i64 z) (.slice none 0 0) 28)
    clear P1
    have r0 := R0.out.c0
    have r1 := R0.out.c1
    have r2 := R2.out.c0
    have r3 := R2.out.c1
    go_wp2_with fail
    with_reducible refine (Byt.eqBytes_none _ _).mono ?_
    rintro e w14 ⟨rfl, hb⟩
    replace D0 := hidden (D0.out.keep hb)
    replace B := hidden (keepB B.out hb)
    replace H := hidden (H.out.keep hb)
    replace R0 := hidden (R0.out.keep hb)
    replace X := hidden (X.out.keep hb)
    replace R1 := hidden (R1.out.keep hb)
    replace R2 := hidden (R2.out.keep hb)
    clear r0 r1 r2 r3 hb
    have r2 := R1.out.c0
    have r3 := R1.out.c1
    go_wp2_with fail
    with_reducible refine (Byt.heldBytes_none _ 1 (by omega) _).mono ?_
    rintro e w15 ⟨rfl, hb⟩
    replace D0 := hidden (D0.out.keep hb)
    replace B := hidden (keepB B.out hb)
    replace H := hidden (H.out.keep hb)
    replace R0 := hidden (R0.out.keep hb)
    replace X := hidden (X.out.keep hb)
    replace R1 := hidden (R1.out.keep hb)
    replace R2 := hidden (R2.out.keep hb)
    clear r2 r3 hb
    go_wp2_with fail
    go_ret
    exact ⟨rfl, B.out⟩

theorem law_pack_all (p : Option Addr) (n c : Nat) (N : Nat → ByteArray) (A : Nat → Int) (w : World) (h : SrcS w p n N A) :
    Calls Try.prog 3 #[.agg #[.slice p n c]] w fun e w' => e = .returned (.bool true) ∧ Below w.heap.size w w' := by
  by_cases hc : faultF n N A = 0
  · exact law_pack_ok p n c N A w h hc
  · exact law_pack_bad p n c N A w h hc

end Go.Proofs.Ytfoknnnoaeplaab
