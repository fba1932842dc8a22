/- Law FnExactAlgebraOf: at every signature, size and seed the program's AlgebraOf answers as the model's; its answer owns its memory. -/
import Derived.Test.YtdcngfdklpdpkaaAlO
namespace Go.Proofs.Ytdcngfdklpdpkaa
open Go.RowKit

set_option maxRecDepth 20000 in
set_option maxHeartbeats 12800000 in
theorem law_ao_ok (p : Option Addr) (n c : Nat) (N : Nat → ByteArray) (A : Nat → Int) (y1 : Int) (y2 : Int) (C : Int) (D : LsL) (w : World) (h : SrcS w p n N A) (hpos : C = 0) (hke : KeptM n D) (hsb : (1 : Int) + sumM D n ≤ 1099511627776)
    (SP : Hid (∀ b  w, Syms w b 0 n N A → Kept n N A → Calls Try.prog 16 #[.agg #[.slice (some ⟨b, 0, none⟩) n n], .int .i64 y1, .int .i64 y2] w fun e w' => AlAns w C y1 n D e w' ∧ Below w.heap.size w w'))
    (IM : Hid (∀ b  w, Syms w b 0 n N A → Kept n N A → Calls Try.prog 17 #[.agg #[.slice (some ⟨b, 0, none⟩) n n], .int .i64 y1, .int .i64 y2] w fun e w' => AlAns w C y1 n D e w' ∧ Below w.heap.size w w')) :
    Calls Try.prog 4 #[.agg #[.slice p n c], .int .i64 y1, .int .i64 y2] w fun e w' => e = .returned (.bool true) ∧ Below w.heap.size w w' := by
  have Z := hidden h
  have HC0 := hidden hpos
  have HKE := hidden hke
  have HSB := hidden hsb
  clear hpos hke hsb
  have D0 := hidden (One.new w (.slice p n c) 24)
  have B := hidden (alloc_below w (.cells #[.slice p n c] 24))
  have H := hidden (Z.out.keep B.out)
  clear h 
  go_enter Try.func4, Try.ntmps4
  go_wp2_with fail
  with_reducible refine (szSignature_src p n c N A 1048576 _ H.out (by omega) (by omega)).mono ?_
  rintro e w1 ⟨⟨r1, rfl, hr⟩, hb⟩
  replace D0 := hidden (D0.out.keep hb)
  replace B := hidden (keepB B.out hb)
  replace H := hidden (H.out.keep hb)
  clear hb
  rcases hr with rfl | ⟨q0, q1, q2, q3⟩
  · go_wp2_with fail
    go_ret
    exact ⟨rfl, B.out⟩
  have HK := hidden (Kept.mk q2 q3 H.out.fits)
  clear q2 q3
  clear q1
  have d0 := D0.out.c0
  go_wp2_with fail
  with_reducible refine (toSig_new p n c N A _ H.out HK.out).mono ?_
  rintro e w2 ⟨g2, rfl, hg, hl, hs, hb⟩
  replace D0 := hidden (D0.out.keep hb)
  replace B := hidden (keepB B.out hb)
  replace H := hidden (H.out.keep hb)
  clear d0 hb hg hl
  have P := hidden (hs)
  clear hs
  go_wp2_with fail
  with_reducible refine (SP.out _  _ P.out  HK.out).mono ?_
  rintro e w3 ⟨ha, hb⟩
  rcases ha with ⟨ha, -⟩ | ⟨-, loa, hia, ga, da, rfl, hlo, ho⟩
  · exact absurd HC0.out ha
  have L_D0_LW := hidden (Nat.lt_of_lt_of_le D0.out.blk hlo)
  replace D0 := hidden (D0.out.keep hb)
  replace B := hidden (keepB B.out hb)
  replace H := hidden (H.out.keep hb)
  replace P := hidden (P.out.keep hb)
  have LW := hidden (ho)
  clear hb ho hlo
  have L_LW_R0 := hidden (Nat.le_trans LW.out.top (Nat.le_refl _))
  have hb := alloc_below w3 (.cells #[.int .i64 0, .int .i64 y1, .slice (some ⟨ga, 0, none⟩) n da] 41)
  replace D0 := hidden (D0.out.keep hb)
  replace B := hidden (keepB B.out hb)
  replace H := hidden (H.out.keep hb)
  replace P := hidden (P.out.keep hb)
  replace LW := hidden (LW.out.keep hb)
  clear hb
  have R0 := hidden (Tr3.new w3 (.int .i64 0) (.int .i64 y1) (.slice (some ⟨ga, 0, none⟩) n da) 41)
  clear P
  have d0 := D0.out.c0
  go_wp2_with fail
  have BSx := hidden B.out.size
  with_reducible refine (toSignature_src p n c N A _ H.out HK.out).mono ?_
  rintro e w4 ⟨gx, rfl, hgx, hs, hb⟩
  have L_D0_Q := hidden (Nat.lt_of_lt_of_le D0.out.blk hgx)
  have L_LW_Q := hidden (Nat.le_trans LW.out.top hgx)
  have L_R0_Q := hidden (Nat.lt_of_lt_of_le R0.out.blk hgx)
  replace D0 := hidden (D0.out.keep hb)
  replace B := hidden (keepB B.out hb)
  replace H := hidden (H.out.keep hb)
  replace LW := hidden (LW.out.keep hb)
  replace R0 := hidden (R0.out.keep hb)
  have Q := hidden (hs)
  clear d0 hb
  have GX := hidden (Nat.le_trans BSx.out hgx)
  clear hs hgx BSx
  have L_LW_X := hidden (Nat.le_trans LW.out.top (Nat.le_refl _))
  have L_Q_X := hidden (Nat.lt_of_lt_of_le Q.out.lt (Nat.le_refl _))
  have hb := alloc_below w4 (.cells #[.slice (some ⟨gx, 0, none⟩) n n] 33)
  replace D0 := hidden (D0.out.keep hb)
  replace B := hidden (keepB B.out hb)
  replace H := hidden (H.out.keep hb)
  replace LW := hidden (LW.out.keep hb)
  replace R0 := hidden (R0.out.keep hb)
  replace Q := hidden (Q.out.keep hb)
  clear hb
  have X := hidden (One.new w4 (.slice (some ⟨gx, 0, none⟩) n n) 33)
  have x0 := X.out.c0
  go_wp2_with fail
  have BSx := hidden B.out.size
  with_reducible refine (IM.out _  _ (Q.out.syms HK.out.big HK.out.fits)  HK.out).mono ?_
  rintro e w5 ⟨ha, hb⟩
  rcases ha with ⟨ha, -⟩ | ⟨-, lob, hib, gb, db, rfl, hlo, ho⟩
  · exact absurd HC0.out ha
  have L_D0_LG := hidden (Nat.lt_of_lt_of_le D0.out.blk hlo)
  have L_LW_LG := hidden (Nat.le_trans LW.out.top hlo)
  have L_R0_LG := hidden (Nat.lt_of_lt_of_le R0.out.blk hlo)
  have L_Q_LG := hidden (Nat.lt_of_lt_of_le Q.out.lt hlo)
  have L_X_LG := hidden (Nat.lt_of_lt_of_le X.out.blk hlo)
  have GBx := hidden hlo
  replace D0 := hidden (D0.out.keep hb)
  replace B := hidden (keepB B.out hb)
  replace H := hidden (H.out.keep hb)
  replace LW := hidden (LW.out.keep hb)
  replace R0 := hidden (R0.out.keep hb)
  replace Q := hidden (Q.out.keep hb)
  replace X := hidden (X.out.keep hb)
  have LG := hidden (ho)
  clear x0 hb ho hlo
  have L_LW_R1 := hidden (Nat.le_trans LW.out.top (Nat.le_refl _))
  have L_Q_R1 := hidden (Nat.lt_of_lt_of_le Q.out.lt (Nat.le_refl _))
  have L_LG_R1 := hidden (Nat.le_trans LG.out.top (Nat.le_refl _))
  have hb := alloc_below w5 (.cells #[.int .i64 0, .int .i64 y1, .slice (some ⟨gb, 0, none⟩) n db] 41)
  replace D0 := hidden (D0.out.keep hb)
  replace B := hidden (keepB B.out hb)
  replace H := hidden (H.out.keep hb)
  replace LW := hidden (LW.out.keep hb)
  replace R0 := hidden (R0.out.keep hb)
  replace Q := hidden (Q.out.keep hb)
  replace X := hidden (X.out.keep hb)
  replace LG := hidden (LG.out.keep hb)
  clear hb
  have R1 := hidden (Tr3.new w5 (.int .i64 0) (.int .i64 y1) (.slice (some ⟨gb, 0, none⟩) n db) 41)
  have r00 := R0.out.c0
  have r01 := R0.out.c1
  have r02 := R0.out.c2
  have r10 := R1.out.c0
  have r11 := R1.out.c1
  have r12 := R1.out.c2
  go_wp2_with fail
  with_reducible refine (eqAlR_eq _ _ _ _ _ _ _ D _ LG.out.mats LW.out.mats HKE.out).mono ?_
  rintro e w6 ⟨rfl, hb⟩
  replace D0 := hidden (D0.out.keep hb)
  replace B := hidden (keepB B.out hb)
  replace H := hidden (H.out.keep hb)
  replace LW := hidden (LW.out.keep hb)
  replace R0 := hidden (R0.out.keep hb)
  replace Q := hidden (Q.out.keep hb)
  replace X := hidden (X.out.keep hb)
  replace LG := hidden (LG.out.keep hb)
  replace R1 := hidden (R1.out.keep hb)
  clear r00 r01 r02 r10 r11 r12 hb
  have QS := hidden (Q.out.syms HK.out.big HK.out.fits)
  have S1 := hidden (show ∀ wc, Below w6.heap.size w6 wc → Calls Try.prog 11 #[.agg #[.slice p n c]] wc fun e w' => ∃ g, e = .returned (.agg #[.slice (some ⟨g, 0, none⟩) n n]) ∧ Below w6.heap.size w6 w' ∧ Syms w' g 0 n N A ∧ w'.cell? ⟨w4.heap.size, 0, none⟩ = some (.slice (some ⟨gx, 0, none⟩) n n) from fun wc hc => by
    refine (toSig_new p n c N A wc (H.out.keep hc) HK.out).mono ?_
    rintro e w' ⟨g, rfl, hg, hl, hs, hb⟩
    exact ⟨g, rfl, keepB hc hb, hs, (X.out.keep (keepB hc hb)).c0⟩)
  have S2 := hidden (show ∀ wc g, Below w6.heap.size w6 wc → Syms wc g 0 n N A → Calls Try.prog 14 #[.agg #[.slice (some ⟨gx, 0, none⟩) n n], .agg #[.slice (some ⟨g, 0, none⟩) n n]] wc fun e w' => e = .returned (.bool true) ∧ Below w6.heap.size w6 w' from fun wc g hc hm => by
    refine (eqSignature_eq gx 0 g 0 n n n N A wc (QS.out.keep hc) hm HK.out.most).mono ?_
    rintro e w' ⟨rfl, hb⟩
    exact ⟨rfl, keepB hc hb⟩)
  have x0 := X.out.c0
  have d0 := D0.out.c0
  go_wp2_with fail
  go_cut [39] (fun t wc => t = .bool false ∧ Below w6.heap.size w6 wc)
  case first =>
    go_region_with (first
      | (go_at_call 11; with_reducible refine (S1.out _ ?_).mono ?_; exact (Below.refl _ _).drew; rintro e v5 ⟨g5', rfl, b5', m5', d5'⟩)
      | (go_at_call 14; with_reducible refine (S2.out _ _ b5' m5').mono ?_; rintro e v6 ⟨rfl, b6'⟩))
    all_goals (go_wp2_with fail; go_meet)
    all_goals exact ⟨rfl, b6'⟩
  case rest =>
    rename World => w7
    obtain ⟨rfl, hb⟩ := hcut
    replace D0 := hidden (D0.out.keep hb)
    replace B := hidden (keepB B.out hb)
    replace H := hidden (H.out.keep hb)
    replace LW := hidden (LW.out.keep hb)
    replace R0 := hidden (R0.out.keep hb)
    replace Q := hidden (Q.out.keep hb)
    replace X := hidden (X.out.keep hb)
    replace LG := hidden (LG.out.keep hb)
    replace R1 := hidden (R1.out.keep hb)
    replace QS := hidden (QS.out.keep hb)
    clear x0 d0 hb S1 S2
    clear QS
    have x0 := X.out.c0
    go_wp2_with fail
    with_reducible refine (markSignature_z _ gx n n 1 N A _ Q.out HK.out.most (by omega) (by omega)).mono ?_
    rintro e w8 ⟨rfl, -, hg⟩
    replace B := hidden (grownB B.out hg GX.out)
    replace D0 := hidden (D0.out.grown hg (Nat.ne_of_lt L_D0_Q.out))
    replace H := hidden (Z.out.keep B.out)
    replace LW := hidden (LW.out.grown hg (Or.inr L_LW_Q.out))
    replace R0 := hidden (R0.out.grown hg (Nat.ne_of_lt L_R0_Q.out))
    replace X := hidden (X.out.grown hg (Nat.ne_of_gt L_Q_X.out))
    replace LG := hidden (LG.out.grown hg (Or.inl L_Q_LG.out))
    replace R1 := hidden (R1.out.grown hg (Nat.ne_of_gt L_Q_R1.out))
    clear Q
    clear x0 hg
    have HN1 := HK.out.most
    have r00 := R0.out.c0
    have r01 := R0.out.c1
    have r02 := R0.out.c2
    have r10 := R1.out.c0
    have r11 := R1.out.c1
    have r12 := R1.out.c2
    have hkk : decide (((1 : Int) + 2 * n) < 0) = false := by simp; omega
    go_wp2_with fail
    with_reducible refine (eqAlR_eq _ _ _ _ _ _ _ D _ LG.out.mats LW.out.mats HKE.out).mono ?_
    rintro e w9 ⟨rfl, hb⟩
    replace D0 := hidden (D0.out.keep hb)
    replace B := hidden (keepB B.out hb)
    replace H := hidden (H.out.keep hb)
    replace LW := hidden (LW.out.keep hb)
    replace R0 := hidden (R0.out.keep hb)
    replace X := hidden (X.out.keep hb)
    replace LG := hidden (LG.out.keep hb)
    replace R1 := hidden (R1.out.keep hb)
    clear r00 r01 r02 r10 r11 r12 hb
    have r00 := R1.out.c0
    have r01 := R1.out.c1
    have r02 := R1.out.c2
    go_wp2_with fail
    have GB := hidden (show w.heap.size ≤ lob from Nat.le_trans BSx.out GBx.out)
    with_reducible refine (markAlR_any _ _ _ _ gb n db D _ LG.out HKE.out HSB.out).mono ?_
    rintro e w10 ⟨rfl, ho, hr⟩
    replace B := hidden (Rng.below B.out hr GB.out)
    replace D0 := hidden (D0.out.rng hr (Or.inl L_D0_LG.out))
    replace H := hidden (Z.out.keep B.out)
    replace LW := hidden (LW.out.rng hr (Or.inl L_LW_LG.out))
    replace R0 := hidden (R0.out.rng hr (Or.inl L_R0_LG.out))
    replace X := hidden (X.out.rng hr (Or.inl L_X_LG.out))
    replace R1 := hidden (R1.out.rng hr (Or.inr L_LG_R1.out))
    replace LG := hidden (ho)
    clear r00 r01 r02 hr ho
    have hq : ¬ (1 : Int) + (sumM D n : Nat) < 0 := by omega
    have r00 := R1.out.c0
    have r01 := R1.out.c1
    have r02 := R1.out.c2
    go_wp2_with fail
    with_reducible refine (heldAlR_any _ _ _ _ gb n db D _ LG.out HKE.out (by have := HSB.out; omega)).mono ?_
    rintro e w11 ⟨rfl, hb⟩
    replace D0 := hidden (D0.out.keep hb)
    replace B := hidden (keepB B.out hb)
    replace H := hidden (H.out.keep hb)
    replace LW := hidden (LW.out.keep hb)
    replace R0 := hidden (R0.out.keep hb)
    replace X := hidden (X.out.keep hb)
    replace LG := hidden (LG.out.keep hb)
    replace R1 := hidden (R1.out.keep hb)
    clear r00 r01 r02 hb
    have d0 := D0.out.c0
    go_wp2_with fail
    with_reducible refine (toSig_new p n c N A _ H.out HK.out).mono ?_
    rintro e w12 ⟨g12, rfl, hg, hl, hs, hb⟩
    replace D0 := hidden (D0.out.keep hb)
    replace B := hidden (keepB B.out hb)
    replace H := hidden (H.out.keep hb)
    replace LW := hidden (LW.out.keep hb)
    replace R0 := hidden (R0.out.keep hb)
    replace X := hidden (X.out.keep hb)
    replace LG := hidden (LG.out.keep hb)
    replace R1 := hidden (R1.out.keep hb)
    clear d0 hb hg hl
    have P := hidden (hs)
    clear hs
    go_wp2_with fail
    with_reducible refine (IM.out _  _ P.out  HK.out).mono ?_
    rintro e w13 ⟨ha, hb⟩
    rcases ha with ⟨ha, -⟩ | ⟨-, loc, hic, gc, dc, rfl, hlo, ho⟩
    · exact absurd HC0.out ha
    have L_D0_LH := hidden (Nat.lt_of_lt_of_le D0.out.blk hlo)
    have L_LW_LH := hidden (Nat.le_trans LW.out.top hlo)
    have L_R0_LH := hidden (Nat.lt_of_lt_of_le R0.out.blk hlo)
    have L_X_LH := hidden (Nat.lt_of_lt_of_le X.out.blk hlo)
    have L_LG_LH := hidden (Nat.le_trans LG.out.top hlo)
    have L_R1_LH := hidden (Nat.lt_of_lt_of_le R1.out.blk hlo)
    replace D0 := hidden (D0.out.keep hb)
    replace B := hidden (keepB B.out hb)
    replace H := hidden (H.out.keep hb)
    replace LW := hidden (LW.out.keep hb)
    replace R0 := hidden (R0.out.keep hb)
    replace X := hidden (X.out.keep hb)
    replace LG := hidden (LG.out.keep hb)
    replace R1 := hidden (R1.out.keep hb)
    replace P := hidden (P.out.keep hb)
    have LH := hidden (ho)
    clear hb ho hlo
    have L_LW_R2 := hidden (Nat.le_trans LW.out.top (Nat.le_refl _))
    have L_LG_R2 := hidden (Nat.le_trans LG.out.top (Nat.le_refl _))
    have L_LH_R2 := hidden (Nat.le_trans LH.out.top (Nat.le_refl _))
    have hb := alloc_below w13 (.cells #[.int .i64 0, .int .i64 y1, .slice (some ⟨gc, 0, none⟩) n dc] 41)
    replace D0 := hidden (D0.out.keep hb)
    replace B := hidden (keepB B.out hb)
    replace H := hidden (H.out.keep hb)
    replace LW := hidden (LW.out.keep hb)
    replace R0 := hidden (R0.out.keep hb)
    replace X := hidden (X.out.keep hb)
    replace LG := hidden (LG.out.keep hb)
    replace R1 := hidden (R1.out.keep hb)
    replace P := hidden (P.out.keep hb)
    replace LH := hidden (LH.out.keep hb)
    clear hb
    have R2 := hidden (Tr3.new w13 (.int .i64 0) (.int .i64 y1) (.slice (some ⟨gc, 0, none⟩) n dc) 41)
    clear P
    have r00 := R0.out.c0
    have r01 := R0.out.c1
    have r02 := R0.out.c2
    have r10 := R2.out.c0
    have r11 := R2.out.c1
    have r12 := R2.out.c2
    go_wp2_with fail
    with_reducible refine (eqAlR_eq _ _ _ _ _ _ _ D _ LH.out.mats LW.out.mats HKE.out).mono ?_
    rintro e w14 ⟨rfl, hb⟩
    replace D0 := hidden (D0.out.keep hb)
    replace B := hidden (keepB B.out hb)
    replace H := hidden (H.out.keep hb)
    replace LW := hidden (LW.out.keep hb)
    replace R0 := hidden (R0.out.keep hb)
    replace X := hidden (X.out.keep hb)
    replace LG := hidden (LG.out.keep hb)
    replace R1 := hidden (R1.out.keep hb)
    replace LH := hidden (LH.out.keep hb)
    replace R2 := hidden (R2.out.keep hb)
    clear r00 r01 r02 r10 r11 r12 hb
    have r00 := R1.out.c0
    have r01 := R1.out.c1
    have r02 := R1.out.c2
    go_wp2_with fail
    with_reducible refine (heldAlR_any _ _ _ _ gb n db D _ LG.out HKE.out (by have := HSB.out; omega)).mono ?_
    rintro e w15 ⟨rfl, hb⟩
    replace D0 := hidden (D0.out.keep hb)
    replace B := hidden (keepB B.out hb)
    replace H := hidden (H.out.keep hb)
    replace LW := hidden (LW.out.keep hb)
    replace R0 := hidden (R0.out.keep hb)
    replace X := hidden (X.out.keep hb)
    replace LG := hidden (LG.out.keep hb)
    replace R1 := hidden (R1.out.keep hb)
    replace LH := hidden (LH.out.keep hb)
    replace R2 := hidden (R2.out.keep hb)
    clear r00 r01 r02 hb
    go_wp2_with fail
    go_ret
    exact ⟨rfl, B.out⟩

set_option maxRecDepth 20000 in
set_option maxHeartbeats 12800000 in
theorem law_ao_bad (p : Option Addr) (n c : Nat) (N : Nat → ByteArray) (A : Nat → Int) (y1 : Int) (y2 : Int) (C : Int) (D : LsL) (w : World) (h : SrcS w p n N A) (hc : ¬ C = 0)
    (SP : Hid (∀ b  w, Syms w b 0 n N A → Kept n N A → Calls Try.prog 16 #[.agg #[.slice (some ⟨b, 0, none⟩) n n], .int .i64 y1, .int .i64 y2] w fun e w' => AlAns w C y1 n D e w' ∧ Below w.heap.size w w'))
    (IM : Hid (∀ b  w, Syms w b 0 n N A → Kept n N A → Calls Try.prog 17 #[.agg #[.slice (some ⟨b, 0, none⟩) n n], .int .i64 y1, .int .i64 y2] w fun e w' => AlAns w C y1 n D e w' ∧ Below w.heap.size w w')) :
    Calls Try.prog 4 #[.agg #[.slice p n c], .int .i64 y1, .int .i64 y2] w fun e w' => e = .returned (.bool true) ∧ Below w.heap.size w w' := by
  have Z := hidden h
  have HC0 := hidden hc
  clear hc
  have D0 := hidden (One.new w (.slice p n c) 24)
  have B := hidden (alloc_below w (.cells #[.slice p n c] 24))
  have H := hidden (Z.out.keep B.out)
  clear h 
  go_enter Try.func4, Try.ntmps4
  go_wp2_with fail
  with_reducible refine (szSignature_src p n c N A 1048576 _ H.out (by omega) (by omega)).mono ?_
  rintro e w1 ⟨⟨r1, rfl, hr⟩, hb⟩
  replace D0 := hidden (D0.out.keep hb)
  replace B := hidden (keepB B.out hb)
  replace H := hidden (H.out.keep hb)
  clear hb
  rcases hr with rfl | ⟨q0, q1, q2, q3⟩
  · go_wp2_with fail
    go_ret
    exact ⟨rfl, B.out⟩
  have HK := hidden (Kept.mk q2 q3 H.out.fits)
  clear q2 q3
  clear q1
  have d0 := D0.out.c0
  go_wp2_with fail
  with_reducible refine (toSig_new p n c N A _ H.out HK.out).mono ?_
  rintro e w2 ⟨g2, rfl, hg, hl, hs, hb⟩
  replace D0 := hidden (D0.out.keep hb)
  replace B := hidden (keepB B.out hb)
  replace H := hidden (H.out.keep hb)
  clear d0 hb hg hl
  have P := hidden (hs)
  clear hs
  go_wp2_with fail
  with_reducible refine (SP.out _  _ P.out  HK.out).mono ?_
  rintro e w3 ⟨ha, hb⟩
  replace D0 := hidden (D0.out.keep hb)
  replace B := hidden (keepB B.out hb)
  replace H := hidden (H.out.keep hb)
  replace P := hidden (P.out.keep hb)
  clear hb
  rcases ha with ⟨-, rfl⟩ | ⟨h1, -⟩
  rotate_left
  · exact absurd h1 HC0.out
  have hb := alloc_below w3 (.cells #[.int .i64 C, .int .i64 0, .slice none 0 0] 41)
  replace D0 := hidden (D0.out.keep hb)
  replace B := hidden (keepB B.out hb)
  replace H := hidden (H.out.keep hb)
  replace P := hidden (P.out.keep hb)
  clear hb
  have R0 := hidden (Tr3.new w3 (.int .i64 C) (.int .i64 0) (.slice none 0 0) 41)
  clear P
  have d0 := D0.out.c0
  go_wp2_with fail
  have BSx := hidden B.out.size
  with_reducible refine (toSignature_src p n c N A _ H.out HK.out).mono ?_
  rintro e w4 ⟨gx, rfl, hgx, hs, hb⟩
  have L_D0_Q := hidden (Nat.lt_of_lt_of_le D0.out.blk hgx)
  have L_R0_Q := hidden (Nat.lt_of_lt_of_le R0.out.blk hgx)
  replace D0 := hidden (D0.out.keep hb)
  replace B := hidden (keepB B.out hb)
  replace H := hidden (H.out.keep hb)
  replace R0 := hidden (R0.out.keep hb)
  have Q := hidden (hs)
  clear d0 hb
  have GX := hidden (Nat.le_trans BSx.out hgx)
  clear hs hgx BSx
  have L_Q_X := hidden (Nat.lt_of_lt_of_le Q.out.lt (Nat.le_refl _))
  have hb := alloc_below w4 (.cells #[.slice (some ⟨gx, 0, none⟩) n n] 33)
  replace D0 := hidden (D0.out.keep hb)
  replace B := hidden (keepB B.out hb)
  replace H := hidden (H.out.keep hb)
  replace R0 := hidden (R0.out.keep hb)
  replace Q := hidden (Q.out.keep hb)
  clear hb
  have X := hidden (One.new w4 (.slice (some ⟨gx, 0, none⟩) n n) 33)
  have x0 := X.out.c0
  go_wp2_with fail
  have BSx := hidden B.out.size
  with_reducible refine (IM.out _  _ (Q.out.syms HK.out.big HK.out.fits)  HK.out).mono ?_
  rintro e w5 ⟨ha, hb⟩
  replace D0 := hidden (D0.out.keep hb)
  replace B := hidden (keepB B.out hb)
  replace H := hidden (H.out.keep hb)
  replace R0 := hidden (R0.out.keep hb)
  replace Q := hidden (Q.out.keep hb)
  replace X := hidden (X.out.keep hb)
  clear x0 hb
  rcases ha with ⟨-, rfl⟩ | ⟨h1, -⟩
  rotate_left
  · exact absurd h1 HC0.out
  have L_Q_R1 := hidden (Nat.lt_of_lt_of_le Q.out.lt (Nat.le_refl _))
  have hb := alloc_below w5 (.cells #[.int .i64 C, .int .i64 0, .slice none 0 0] 41)
  replace D0 := hidden (D0.out.keep hb)
  replace B := hidden (keepB B.out hb)
  replace H := hidden (H.out.keep hb)
  replace R0 := hidden (R0.out.keep hb)
  replace Q := hidden (Q.out.keep hb)
  replace X := hidden (X.out.keep hb)
  clear hb
  have R1 := hidden (Tr3.new w5 (.int .i64 C) (.int .i64 0) (.slice none 0 0) 41)
  have r00 := R0.out.c0
  have r01 := R0.out.c1
  have r02 := R0.out.c2
  have r10 := R1.out.c0
  have r11 := R1.out.c1
  have r12 := R1.out.c2
  go_wp2_with fail
  with_reducible refine (eqAlR_none _ _ _ _ _ _ _).mono ?_
  rintro e w6 ⟨rfl, hb⟩
  replace D0 := hidden (D0.out.keep hb)
  replace B := hidden (keepB B.out hb)
  replace H := hidden (H.out.keep hb)
  replace R0 := hidden (R0.out.keep hb)
  replace Q := hidden (Q.out.keep hb)
  replace X := hidden (X.out.keep hb)
  replace R1 := hidden (R1.out.keep hb)
  clear r00 r01 r02 r10 r11 r12 hb
  have QS := hidden (Q.out.syms HK.out.big HK.out.fits)
  have S1 := hidden (show ∀ wc, Below w6.heap.size w6 wc → Calls Try.prog 11 #[.agg #[.slice p n c]] wc fun e w' => ∃ g, e = .returned (.agg #[.slice (some ⟨g, 0, none⟩) n n]) ∧ Below w6.heap.size w6 w' ∧ Syms w' g 0 n N A ∧ w'.cell? ⟨w4.heap.size, 0, none⟩ = some (.slice (some ⟨gx, 0, none⟩) n n) from fun wc hc => by
    refine (toSig_new p n c N A wc (H.out.keep hc) HK.out).mono ?_
    rintro e w' ⟨g, rfl, hg, hl, hs, hb⟩
    exact ⟨g, rfl, keepB hc hb, hs, (X.out.keep (keepB hc hb)).c0⟩)
  have S2 := hidden (show ∀ wc g, Below w6.heap.size w6 wc → Syms wc g 0 n N A → Calls Try.prog 14 #[.agg #[.slice (some ⟨gx, 0, none⟩) n n], .agg #[.slice (some ⟨g, 0, none⟩) n n]] wc fun e w' => e = .returned (.bool true) ∧ Below w6.heap.size w6 w' from fun wc g hc hm => by
    refine (eqSignature_eq gx 0 g 0 n n n N A wc (QS.out.keep hc) hm HK.out.most).mono ?_
    rintro e w' ⟨rfl, hb⟩
    exact ⟨rfl, keepB hc hb⟩)
  have x0 := X.out.c0
  have d0 := D0.out.c0
  go_wp2_with fail
  go_cut [39] (fun t wc => t = .bool false ∧ Below w6.heap.size w6 wc)
  case first =>
    go_region_with (first
      | (go_at_call 11; with_reducible refine (S1.out _ ?_).mono ?_; exact (Below.refl _ _).drew; rintro e v5 ⟨g5', rfl, b5', m5', d5'⟩)
      | (go_at_call 14; with_reducible refine (S2.out _ _ b5' m5').mono ?_; rintro e v6 ⟨rfl, b6'⟩))
    all_goals (go_wp2_with fail; go_meet)
    all_goals exact ⟨rfl, b6'⟩
  case rest =>
    rename World => w7
    obtain ⟨rfl, hb⟩ := hcut
    replace D0 := hidden (D0.out.keep hb)
    replace B := hidden (keepB B.out hb)
    replace H := hidden (H.out.keep hb)
    replace R0 := hidden (R0.out.keep hb)
    replace Q := hidden (Q.out.keep hb)
    replace X := hidden (X.out.keep hb)
    replace R1 := hidden (R1.out.keep hb)
    replace QS := hidden (QS.out.keep hb)
    clear x0 d0 hb S1 S2
    clear QS
    have x0 := X.out.c0
    go_wp2_with fail
    with_reducible refine (markSignature_z _ gx n n 1 N A _ Q.out HK.out.most (by omega) (by omega)).mono ?_
    rintro e w8 ⟨rfl, -, hg⟩
    replace B := hidden (grownB B.out hg GX.out)
    replace D0 := hidden (D0.out.grown hg (Nat.ne_of_lt L_D0_Q.out))
    replace H := hidden (Z.out.keep B.out)
    replace R0 := hidden (R0.out.grown hg (Nat.ne_of_lt L_R0_Q.out))
    replace X := hidden (X.out.grown hg (Nat.ne_of_gt L_Q_X.out))
    replace R1 := hidden (R1.out.grown hg (Nat.ne_of_gt L_Q_R1.out))
    clear Q
    clear x0 hg
    have HN1 := HK.out.most
    have r00 := R0.out.c0
    have r01 := R0.out.c1
    have r02 := R0.out.c2
    have r10 := R1.out.c0
    have r11 := R1.out.c1
    have r12 := R1.out.c2
    have hkk : decide (((1 : Int) + 2 * n) < 0) = false := by simp; omega
    go_wp2_with fail
    with_reducible refine (eqAlR_none _ _ _ _ _ _ _).mono ?_
    rintro e w9 ⟨rfl, hb⟩
    replace D0 := hidden (D0.out.keep hb)
    replace B := hidden (keepB B.out hb)
    replace H := hidden (H.out.keep hb)
    replace R0 := hidden (R0.out.keep hb)
    replace X := hidden (X.out.keep hb)
    replace R1 := hidden (R1.out.keep hb)
    clear r00 r01 r02 r10 r11 r12 hb
    have r00 := R1.out.c0
    have r01 := R1.out.c1
    have r02 := R1.out.c2
    go_wp2_with fail
    with_reducible refine (markAlR_none _ _ _ _ _).mono ?_
    rintro e w10 ⟨rfl, hb⟩
    replace D0 := hidden (D0.out.keep hb)
    replace B := hidden (keepB B.out hb)
    replace H := hidden (H.out.keep hb)
    replace R0 := hidden (R0.out.keep hb)
    replace X := hidden (X.out.keep hb)
    replace R1 := hidden (R1.out.keep hb)
    clear r00 r01 r02 hb
    have r00 := R1.out.c0
    have r01 := R1.out.c1
    have r02 := R1.out.c2
    go_wp2_with fail
    with_reducible refine (heldAlR_none _ _ _ _ _).mono ?_
    rintro e w11 ⟨rfl, hb⟩
    replace D0 := hidden (D0.out.keep hb)
    replace B := hidden (keepB B.out hb)
    replace H := hidden (H.out.keep hb)
    replace R0 := hidden (R0.out.keep hb)
    replace X := hidden (X.out.keep hb)
    replace R1 := hidden (R1.out.keep hb)
    clear r00 r01 r02 hb
    have d0 := D0.out.c0
    go_wp2_with fail
    with_reducible refine (toSig_new p n c N A _ H.out HK.out).mono ?_
    rintro e w12 ⟨g12, rfl, hg, hl, hs, hb⟩
    replace D0 := hidden (D0.out.keep hb)
    replace B := hidden (keepB B.out hb)
    replace H := hidden (H.out.keep hb)
    replace R0 := hidden (R0.out.keep hb)
    replace X := hidden (X.out.keep hb)
    replace R1 := hidden (R1.out.keep hb)
    clear d0 hb hg hl
    have P := hidden (hs)
    clear hs
    go_wp2_with fail
    with_reducible refine (IM.out _  _ P.out  HK.out).mono ?_
    rintro e w13 ⟨ha, hb⟩
    replace D0 := hidden (D0.out.keep hb)
    replace B := hidden (keepB B.out hb)
    replace H := hidden (H.out.keep hb)
    replace R0 := hidden (R0.out.keep hb)
    replace X := hidden (X.out.keep hb)
    replace R1 := hidden (R1.out.keep hb)
    replace P := hidden (P.out.keep hb)
    clear hb
    rcases ha with ⟨-, rfl⟩ | ⟨h1, -⟩
    rotate_left
    · exact absurd h1 HC0.out
    have hb := alloc_below w13 (.cells #[.int .i64 C, .int .i64 0, .slice none 0 0] 41)
    replace D0 := hidden (D0.out.keep hb)
    replace B := hidden (keepB B.out hb)
    replace H := hidden (H.out.keep hb)
    replace R0 := hidden (R0.out.keep hb)
    replace X := hidden (X.out.keep hb)
    replace R1 := hidden (R1.out.keep hb)
    replace P := hidden (P.out.keep hb)
    clear hb
    have R2 := hidden (Tr3.new w13 (.int .i64 C) (.int .i64 0) (.slice none 0 0) 41)
    clear P
    have r00 := R0.out.c0
    have r01 := R0.out.c1
    have r02 := R0.out.c2
    have r10 := R2.out.c0
    have r11 := R2.out.c1
    have r12 := R2.out.c2
    go_wp2_with fail
    with_reducible refine (eqAlR_none _ _ _ _ _ _ _).mono ?_
    rintro e w14 ⟨rfl, hb⟩
    replace D0 := hidden (D0.out.keep hb)
    replace B := hidden (keepB B.out hb)
    replace H := hidden (H.out.keep hb)
    replace R0 := hidden (R0.out.keep hb)
    replace X := hidden (X.out.keep hb)
    replace R1 := hidden (R1.out.keep hb)
    replace R2 := hidden (R2.out.keep hb)
    clear r00 r01 r02 r10 r11 r12 hb
    have r00 := R1.out.c0
    have r01 := R1.out.c1
    have r02 := R1.out.c2
    go_wp2_with fail
    with_reducible refine (heldAlR_none _ _ _ _ _).mono ?_
    rintro e w15 ⟨rfl, hb⟩
    replace D0 := hidden (D0.out.keep hb)
    replace B := hidden (keepB B.out hb)
    replace H := hidden (H.out.keep hb)
    replace R0 := hidden (R0.out.keep hb)
    replace X := hidden (X.out.keep hb)
    replace R1 := hidden (R1.out.keep hb)
    replace R2 := hidden (R2.out.keep hb)
    clear r00 r01 r02 hb
    go_wp2_with fail
    go_ret
    exact ⟨rfl, B.out⟩

theorem law_ao_all (p : Option Addr) (n c : Nat) (N : Nat → ByteArray) (A : Nat → Int) (y1 y2 : Int) (w : World) (h : SrcS w p n N A) :
    Calls Try.prog 4 #[.agg #[.slice p n c], .int .i64 y1, .int .i64 y2] w fun e w' => e = .returned (.bool true) ∧ Below w.heap.size w w' := by
  have SP := hidden (fun b w h hk => specAlgOf_any b 0 n n N A y1 y2 w h hk)
  have IM := hidden (fun b w h hk => implAlgOf_any b 0 n n N A y1 y2 w h hk)
  by_cases hc : aoC n N A y1 y2 = 0
  · have hf : faultF n N A = 0 := by
      by_cases hf : faultF n N A = 0
      · exact hf
      · rw [aoC, if_pos hf] at hc; exact hc
    have hzz : 1 ≤ y1 ∧ y1 ≤ 3 := by
      by_cases hz : (1 ≤ y1 ∧ y1 ≤ 3) ∧ (0 ≤ y2 ∧ y2 ≤ 65520)
      · exact hz.1
      · rw [aoC, if_neg (by simp [hf]), if_neg hz] at hc; omega
    have hs := algD_sum (s := y2) hzz (fault_sound hf) n (Nat.le_refl _)
    have hn := (fault_sound hf).most
    exact law_ao_ok p n c N A y1 y2 _ _ w h hc (algD_kept hzz (fault_sound hf)) (by omega) SP IM
  · exact law_ao_bad p n c N A y1 y2 _ _ w h hc SP IM

end Go.Proofs.Ytdcngfdklpdpkaa
