/- Law FnExactReadSignature: at every list of bytes the program's ReadSignature answers as the model's; its answer owns its memory. -/
import Derived.Test.YtfoknnnoaeplaabSigRes
import Derived.Test.YtfoknnnoaeplaabBytesRes
namespace Go.Proofs.Ytfoknnnoaeplaab
open Go.RowKit

set_option maxRecDepth 20000 in
set_option maxHeartbeats 12800000 in
theorem law_read_ok (p : Option Addr) (n c : Nat) (l : List Int) (w : World) (h : Byt.Src w p n l) (hn : n ≤ 1048576) (hc : whole l) :
    Calls Try.prog 4 #[.slice p n c] w fun e w' => e = .returned (.bool true) ∧ Below w.heap.size w w' := by
  have H0 := hidden h
  have HC := hidden hc
  have HBY := hidden (mem_getD h.2.2.1)
  obtain ⟨q, hq⟩ : ∃ q : Nat, (l.getD 0 0).toNat = q := ⟨_, rfl⟩
  have hq255 : q ≤ 255 := by have := h.2.2.1 0; omega
  have HQ := hidden hq
  have HK := hidden (kept_of h.2.2.1 q (by omega))
  have B := hidden (Below.refl w.heap.size w)
  have H := hidden (H0.out)
  clear h hc hq
  go_enter Try.func4, Try.ntmps4
  go_wp2_with fail
  with_reducible refine (Byt.toByteS_new p n c l _ H.out).mono ?_
  rintro e w1 ⟨g1, rfl, hg, hs, hb⟩
  replace B := hidden (keepB B.out hb)
  replace H := hidden (H.out.keep hb)
  clear hb hg
  have P1 := hidden (hs)
  clear hs
  go_wp2_with fail
  with_reducible refine (specRead_ok _ n l q _ P1.out hn HC.out HQ.out).mono ?_
  rintro e w2 ⟨ga, da, rfl, hg, ho, hb⟩
  replace B := hidden (keepB B.out hb)
  replace H := hidden (H.out.keep hb)
  replace P1 := hidden (P1.out.keep hb)
  have LW := hidden (ho)
  clear hb ho hg
  have hb := alloc_below w2 (.cells #[.int .i64 0, .slice (some ⟨ga, 0, none⟩) q da] 40)
  replace B := hidden (keepB B.out hb)
  replace H := hidden (H.out.keep hb)
  replace P1 := hidden (P1.out.keep hb)
  replace LW := hidden (LW.out.keep hb)
  clear hb
  have R0 := hidden (Two.new w2 (.int .i64 0) (.slice (some ⟨ga, 0, none⟩) q da) 40)
  clear P1
  go_wp2_with fail
  have BSx := hidden B.out.size
  with_reducible refine (toBy_own p n c l _ H.out).mono ?_
  rintro e w3 ⟨gx, rfl, hgx, hs, hb⟩
  have L_LW_Q := hidden (Nat.lt_of_lt_of_le LW.out.lt hgx)
  have L_R0_Q := hidden (Nat.lt_of_lt_of_le R0.out.blk hgx)
  replace B := hidden (keepB B.out hb)
  replace H := hidden (H.out.keep hb)
  replace LW := hidden (LW.out.keep hb)
  replace R0 := hidden (R0.out.keep hb)
  have Q := hidden (hs)
  clear hb
  have GX := hidden (Nat.le_trans BSx.out hgx)
  clear hs hgx BSx
  go_wp2_with fail
  have BSx := hidden B.out.size
  with_reducible refine (implRead_ok _ n l q _ (Q.out.row hn HBY.out) hn HC.out HQ.out).mono ?_
  rintro e w4 ⟨gb, db, rfl, hg, ho, hb⟩
  have L_LW_LG := hidden (Nat.lt_of_lt_of_le LW.out.lt hg)
  have L_R0_LG := hidden (Nat.lt_of_lt_of_le R0.out.blk hg)
  have L_Q_LG := hidden (Nat.lt_of_lt_of_le Q.out.lt hg)
  have GBx := hidden hg
  replace B := hidden (keepB B.out hb)
  replace H := hidden (H.out.keep hb)
  replace LW := hidden (LW.out.keep hb)
  replace R0 := hidden (R0.out.keep hb)
  replace Q := hidden (Q.out.keep hb)
  have LG := hidden (ho)
  clear hb ho hg
  have L_Q_R1 := hidden (Nat.lt_of_lt_of_le Q.out.lt (Nat.le_refl _))
  have L_LG_R1 := hidden (Nat.lt_of_lt_of_le LG.out.lt (Nat.le_refl _))
  have hb := alloc_below w4 (.cells #[.int .i64 0, .slice (some ⟨gb, 0, none⟩) q db] 40)
  replace B := hidden (keepB B.out hb)
  replace H := hidden (H.out.keep hb)
  replace LW := hidden (LW.out.keep hb)
  replace R0 := hidden (R0.out.keep hb)
  replace Q := hidden (Q.out.keep hb)
  replace LG := hidden (LG.out.keep hb)
  clear hb
  have R1 := hidden (Two.new w4 (.int .i64 0) (.slice (some ⟨gb, 0, none⟩) q db) 40)
  have r0 := R0.out.c0
  have r1 := R0.out.c1
  have r2 := R1.out.c0
  have r3 := R1.out.c1
  go_wp2_with fail
  with_reducible refine (eqSig_eq _ _ _ _ _ _ _ _ (nmOf l) (arOf l) _ LG.out LW.out HK.out).mono ?_
  rintro e w5 ⟨rfl, hb⟩
  replace B := hidden (keepB B.out hb)
  replace H := hidden (H.out.keep hb)
  replace LW := hidden (LW.out.keep hb)
  replace R0 := hidden (R0.out.keep hb)
  replace Q := hidden (Q.out.keep hb)
  replace LG := hidden (LG.out.keep hb)
  replace R1 := hidden (R1.out.keep hb)
  clear r0 r1 r2 r3 hb
  go_wp2_with fail
  with_reducible refine (Byt.toByteS_new p n c l _ H.out).mono ?_
  rintro e w6 ⟨g6, rfl, hg, hs, hb⟩
  replace B := hidden (keepB B.out hb)
  replace H := hidden (H.out.keep hb)
  replace LW := hidden (LW.out.keep hb)
  replace R0 := hidden (R0.out.keep hb)
  replace Q := hidden (Q.out.keep hb)
  replace LG := hidden (LG.out.keep hb)
  replace R1 := hidden (R1.out.keep hb)
  clear hb hg
  have P1 := hidden (hs)
  clear hs
  go_wp2_with fail
  with_reducible refine (Byt.eqByteS_eq gx 0 _ 0 n n n l _ (Q.out.row hn HBY.out) P1.out).mono ?_
  rintro e w7 ⟨rfl, hb⟩
  replace B := hidden (keepB B.out hb)
  replace H := hidden (H.out.keep hb)
  replace LW := hidden (LW.out.keep hb)
  replace R0 := hidden (R0.out.keep hb)
  replace Q := hidden (Q.out.keep hb)
  replace LG := hidden (LG.out.keep hb)
  replace R1 := hidden (R1.out.keep hb)
  replace P1 := hidden (P1.out.keep hb)
  clear hb
  clear P1
  go_wp2_with fail
  with_reducible refine (markRow_z _ gx n n _ _ Q.out hn).mono ?_
  rintro e w8 ⟨rfl, -, hg⟩
  replace B := hidden (grownB B.out hg GX.out)
  replace H := hidden (H0.out.keep B.out)
  replace LW := hidden (LW.out.grown hg (Nat.ne_of_lt L_LW_Q.out))
  replace R0 := hidden (R0.out.grown hg (Nat.ne_of_lt L_R0_Q.out))
  replace LG := hidden (LG.out.grown hg (Nat.ne_of_gt L_Q_LG.out))
  replace R1 := hidden (R1.out.grown hg (Nat.ne_of_gt L_Q_R1.out))
  clear Q
  clear hg
  have r0 := R0.out.c0
  have r1 := R0.out.c1
  have r2 := R1.out.c0
  have r3 := R1.out.c1
  have hkk : decide ((1 : Int) + n < 0) = false := by simp; omega
  go_wp2_with fail
  with_reducible refine (eqSig_eq _ _ _ _ _ _ _ _ (nmOf l) (arOf l) _ LG.out LW.out HK.out).mono ?_
  rintro e w9 ⟨rfl, hb⟩
  replace B := hidden (keepB B.out hb)
  replace H := hidden (H.out.keep hb)
  replace LW := hidden (LW.out.keep hb)
  replace R0 := hidden (R0.out.keep hb)
  replace LG := hidden (LG.out.keep hb)
  replace R1 := hidden (R1.out.keep hb)
  clear r0 r1 r2 r3 hb
  have r2 := R1.out.c0
  have r3 := R1.out.c1
  go_wp2_with fail
  have GB := hidden (show w.heap.size ≤ gb from Nat.le_trans BSx.out GBx.out)
  with_reducible refine (markSig_z _ _ gb q db (nmOf l) (arOf l) _ LG.out HK.out.most).mono ?_
  rintro e w10 ⟨rfl, ho, hg⟩
  replace B := hidden (grownB B.out hg GB.out)
  replace H := hidden (H0.out.keep B.out)
  replace LW := hidden (LW.out.grown hg (Nat.ne_of_lt L_LW_LG.out))
  replace R0 := hidden (R0.out.grown hg (Nat.ne_of_lt L_R0_LG.out))
  replace R1 := hidden (R1.out.grown hg (Nat.ne_of_gt L_LG_R1.out))
  replace LG := hidden (ho)
  clear r2 r3 hg ho
  have hq : ¬ (1 : Int) + 2 * (q : Nat) < 0 := by omega
  have r2 := R1.out.c0
  have r3 := R1.out.c1
  go_wp2_with fail
  with_reducible refine (heldSig_z _ _ gb q db _ LG.out HK.out.most).mono ?_
  rintro e w11 ⟨rfl, hb⟩
  replace B := hidden (keepB B.out hb)
  replace H := hidden (H.out.keep hb)
  replace LW := hidden (LW.out.keep hb)
  replace R0 := hidden (R0.out.keep hb)
  replace LG := hidden (LG.out.keep hb)
  replace R1 := hidden (R1.out.keep hb)
  clear r2 r3 hb
  go_wp2_with fail
  with_reducible refine (Byt.toByteS_new p n c l _ H.out).mono ?_
  rintro e w12 ⟨g12, rfl, hg, hs, hb⟩
  replace B := hidden (keepB B.out hb)
  replace H := hidden (H.out.keep hb)
  replace LW := hidden (LW.out.keep hb)
  replace R0 := hidden (R0.out.keep hb)
  replace LG := hidden (LG.out.keep hb)
  replace R1 := hidden (R1.out.keep hb)
  clear hb hg
  have P1 := hidden (hs)
  clear hs
  go_wp2_with fail
  with_reducible refine (implRead_ok _ n l q _ P1.out hn HC.out HQ.out).mono ?_
  rintro e w13 ⟨gc, dc, rfl, hg, ho, hb⟩
  have L_LG_LH := hidden (Nat.lt_of_lt_of_le LG.out.lt hg)
  replace B := hidden (keepB B.out hb)
  replace H := hidden (H.out.keep hb)
  replace LW := hidden (LW.out.keep hb)
  replace R0 := hidden (R0.out.keep hb)
  replace LG := hidden (LG.out.keep hb)
  replace R1 := hidden (R1.out.keep hb)
  replace P1 := hidden (P1.out.keep hb)
  have LH := hidden (ho)
  clear hb ho hg
  have L_LG_R2 := hidden (Nat.lt_of_lt_of_le LG.out.lt (Nat.le_refl _))
  have hb := alloc_below w13 (.cells #[.int .i64 0, .slice (some ⟨gc, 0, none⟩) q dc] 40)
  replace B := hidden (keepB B.out hb)
  replace H := hidden (H.out.keep hb)
  replace LW := hidden (LW.out.keep hb)
  replace R0 := hidden (R0.out.keep hb)
  replace LG := hidden (LG.out.keep hb)
  replace R1 := hidden (R1.out.keep hb)
  replace P1 := hidden (P1.out.keep hb)
  replace LH := hidden (LH.out.keep hb)
  clear hb
  have R2 := hidden (Two.new w13 (.int .i64 0) (.slice (some ⟨gc, 0, none⟩) q dc) 40)
  clear P1
  have r0 := R0.out.c0
  have r1 := R0.out.c1
  have r2 := R2.out.c0
  have r3 := R2.out.c1
  go_wp2_with fail
  with_reducible refine (eqSig_eq _ _ _ _ _ _ _ _ (nmOf l) (arOf l) _ LH.out LW.out HK.out).mono ?_
  rintro e w14 ⟨rfl, hb⟩
  replace B := hidden (keepB B.out hb)
  replace H := hidden (H.out.keep hb)
  replace LW := hidden (LW.out.keep hb)
  replace R0 := hidden (R0.out.keep hb)
  replace LG := hidden (LG.out.keep hb)
  replace R1 := hidden (R1.out.keep hb)
  replace LH := hidden (LH.out.keep hb)
  replace R2 := hidden (R2.out.keep hb)
  clear r0 r1 r2 r3 hb
  have r2 := R1.out.c0
  have r3 := R1.out.c1
  go_wp2_with fail
  with_reducible refine (heldSig_z _ _ gb q db _ LG.out HK.out.most).mono ?_
  rintro e w15 ⟨rfl, hb⟩
  replace B := hidden (keepB B.out hb)
  replace H := hidden (H.out.keep hb)
  replace LW := hidden (LW.out.keep hb)
  replace R0 := hidden (R0.out.keep hb)
  replace LG := hidden (LG.out.keep hb)
  replace R1 := hidden (R1.out.keep hb)
  replace LH := hidden (LH.out.keep hb)
  replace R2 := hidden (R2.out.keep hb)
  clear r2 r3 hb
  go_wp2_with fail
  go_ret
  exact ⟨rfl, B.out⟩

set_option maxRecDepth 20000 in
set_option maxHeartbeats 12800000 in
theorem law_read_bad (p : Option Addr) (n c : Nat) (l : List Int) (w : World) (h : Byt.Src w p n l) (hn : n ≤ 1048576) (hc : ¬ whole l) :
    Calls Try.prog 4 #[.slice p n c] w fun e w' => e = .returned (.bool true) ∧ Below w.heap.size w w' := by
  have H0 := hidden h
  have HC := hidden hc
  have HBY := hidden (mem_getD h.2.2.1)
  have B := hidden (Below.refl w.heap.size w)
  have H := hidden (H0.out)
  clear h hc
  go_enter Try.func4, Try.ntmps4
  go_wp2_with fail
  with_reducible refine (Byt.toByteS_new p n c l _ H.out).mono ?_
  rintro e w1 ⟨g1, rfl, hg, hs, hb⟩
  replace B := hidden (keepB B.out hb)
  replace H := hidden (H.out.keep hb)
  clear hb hg
  have P1 := hidden (hs)
  clear hs
  go_wp2_with fail
  with_reducible refine (specRead_bad _ n l _ P1.out hn HC.out).mono ?_
  rintro e w2 ⟨rfl, hb⟩
  replace B := hidden (keepB B.out hb)
  replace H := hidden (H.out.keep hb)
  replace P1 := hidden (P1.out.keep hb)
  clear hb
  have hb := alloc_below w2 (.cells #[.int .i64 5, .slice none 0 0] 40)
  replace B := hidden (keepB B.out hb)
  replace H := hidden (H.out.keep hb)
  replace P1 := hidden (P1.out.keep hb)
  clear hb
  have R0 := hidden (Two.new w2 (.int .i64 5) (.slice none 0 0) 40)
  clear P1
  go_wp2_with fail
  have BSx := hidden B.out.size
  with_reducible refine (toBy_own p n c l _ H.out).mono ?_
  rintro e w3 ⟨gx, rfl, hgx, hs, hb⟩
  have L_R0_Q := hidden (Nat.lt_of_lt_of_le R0.out.blk hgx)
  replace B := hidden (keepB B.out hb)
  replace H := hidden (H.out.keep hb)
  replace R0 := hidden (R0.out.keep hb)
  have Q := hidden (hs)
  clear hb
  have GX := hidden (Nat.le_trans BSx.out hgx)
  clear hs hgx BSx
  go_wp2_with fail
  have BSx := hidden B.out.size
  with_reducible refine (implRead_bad _ n l _ (Q.out.row hn HBY.out) hn HC.out).mono ?_
  rintro e w4 ⟨rfl, hb⟩
  replace B := hidden (keepB B.out hb)
  replace H := hidden (H.out.keep hb)
  replace R0 := hidden (R0.out.keep hb)
  replace Q := hidden (Q.out.keep hb)
  clear hb
  have L_Q_R1 := hidden (Nat.lt_of_lt_of_le Q.out.lt (Nat.le_refl _))
  have hb := alloc_below w4 (.cells #[.int .i64 5, .slice none 0 0] 40)
  replace B := hidden (keepB B.out hb)
  replace H := hidden (H.out.keep hb)
  replace R0 := hidden (R0.out.keep hb)
  replace Q := hidden (Q.out.keep hb)
  clear hb
  have R1 := hidden (Two.new w4 (.int .i64 5) (.slice none 0 0) 40)
  have r0 := R0.out.c0
  have r1 := R0.out.c1
  have r2 := R1.out.c0
  have r3 := R1.out.c1
  go_wp2_with fail
  with_reducible refine (eqSig_none _ _).mono ?_
  rintro e w5 ⟨rfl, hb⟩
  replace B := hidden (keepB B.out hb)
  replace H := hidden (H.out.keep hb)
  replace R0 := hidden (R0.out.keep hb)
  replace Q := hidden (Q.out.keep hb)
  replace R1 := hidden (R1.out.keep hb)
  clear r0 r1 r2 r3 hb
  go_wp2_with fail
  with_reducible refine (Byt.toByteS_new p n c l _ H.out).mono ?_
  rintro e w6 ⟨g6, rfl, hg, hs, hb⟩
  replace B := hidden (keepB B.out hb)
  replace H := hidden (H.out.keep hb)
  replace R0 := hidden (R0.out.keep hb)
  replace Q := hidden (Q.out.keep hb)
  replace R1 := hidden (R1.out.keep hb)
  clear hb hg
  have P1 := hidden (hs)
  clear hs
  go_wp2_with fail
  with_reducible refine (Byt.eqByteS_eq gx 0 _ 0 n n n l _ (Q.out.row hn HBY.out) P1.out).mono ?_
  rintro e w7 ⟨rfl, hb⟩
  replace B := hidden (keepB B.out hb)
  replace H := hidden (H.out.keep hb)
  replace R0 := hidden (R0.out.keep hb)
  replace Q := hidden (Q.out.keep hb)
  replace R1 := hidden (R1.out.keep hb)
  replace P1 := hidden (P1.out.keep hb)
  clear hb
  clear P1
  go_wp2_with fail
  with_reducible refine (markRow_z _ gx n n _ _ Q.out hn).mono ?_
  rintro e w8 ⟨rfl, -, hg⟩
  replace B := hidden (grownB B.out hg GX.out)
  replace H := hidden (H0.out.keep B.out)
  replace R0 := hidden (R0.out.grown hg (Nat.ne_of_lt L_R0_Q.out))
  replace R1 := hidden (R1.out.grown hg (Nat.ne_of_gt L_Q_R1.out))
  clear Q
  clear hg
  have r0 := R0.out.c0
  have r1 := R0.out.c1
  have r2 := R1.out.c0
  have r3 := R1.out.c1
  have hkk : decide ((1 : Int) + n < 0) = false := by simp; omega
  go_wp2_with fail
  with_reducible refine (eqSig_none _ _).mono ?_
  rintro e w9 ⟨rfl, hb⟩
  replace B := hidden (keepB B.out hb)
  replace H := hidden (H.out.keep hb)
  replace R0 := hidden (R0.out.keep hb)
  replace R1 := hidden (R1.out.keep hb)
  clear r0 r1 r2 r3 hb
  have r2 := R1.out.c0
  have r3 := R1.out.c1
  go_wp2_with fail
  with_reducible refine (markSig_none _ _).mono ?_
  rintro e w10 ⟨rfl, hb⟩
  replace B := hidden (keepB B.out hb)
  replace H := hidden (H.out.keep hb)
  replace R0 := hidden (R0.out.keep hb)
  replace R1 := hidden (R1.out.keep hb)
  clear r2 r3 hb
  have r2 := R1.out.c0
  have r3 := R1.out.c1
  go_wp2_with fail
  with_reducible refine (heldSig_none _ _).mono ?_
  rintro e w11 ⟨rfl, hb⟩
  replace B := hidden (keepB B.out hb)
  replace H := hidden (H.out.keep hb)
  replace R0 := hidden (R0.out.keep hb)
  replace R1 := hidden (R1.out.keep hb)
  clear r2 r3 hb
  go_wp2_with fail
  with_reducible refine (Byt.toByteS_new p n c l _ H.out).mono ?_
  rintro e w12 ⟨g12, rfl, hg, hs, hb⟩
  replace B := hidden (keepB B.out hb)
  replace H := hidden (H.out.keep hb)
  replace R0 := hidden (R0.out.keep hb)
  replace R1 := hidden (R1.out.keep hb)
  clear hb hg
  have P1 := hidden (hs)
  clear hs
  go_wp2_with fail
  with_reducible refine (implRead_bad _ n l _ P1.out hn HC.out).mono ?_
  rintro e w13 ⟨rfl, hb⟩
  replace B := hidden (keepB B.out hb)
  replace H := hidden (H.out.keep hb)
  replace R0 := hidden (R0.out.keep hb)
  replace R1 := hidden (R1.out.keep hb)
  replace P1 := hidden (P1.out.keep hb)
  clear hb
  have hb := alloc_below w13 (.cells #[.int .i64 5, .slice none 0 0] 40)
  replace B := hidden (keepB B.out hb)
  replace H := hidden (H.out.keep hb)
  replace R0 := hidden (R0.out.keep hb)
  replace R1 := hidden (R1.out.keep hb)
  replace P1 := hidden (P1.out.keep hb)
  clear hb
  have R2 := hidden (Two.new w13 (.int .i64 5) (.slice none 0 0) 40)
  clear P1
  have r0 := R0.out.c0
  have r1 := R0.out.c1
  have r2 := R2.out.c0
  have r3 := R2.out.c1
  go_wp2_with fail
  with_reducible refine (eqSig_none _ _).mono ?_
  rintro e w14 ⟨rfl, hb⟩
  replace B := hidden (keepB B.out hb)
  replace H := hidden (H.out.keep hb)
  replace R0 := hidden (R0.out.keep hb)
  replace R1 := hidden (R1.out.keep hb)
  replace R2 := hidden (R2.out.keep hb)
  clear r0 r1 r2 r3 hb
  have r2 := R1.out.c0
  have r3 := R1.out.c1
  go_wp2_with fail
  with_reducible refine (heldSig_none _ _).mono ?_
  rintro e w15 ⟨rfl, hb⟩
  replace B := hidden (keepB B.out hb)
  replace H := hidden (H.out.keep hb)
  replace R0 := hidden (R0.out.keep hb)
  replace R1 := hidden (R1.out.keep hb)
  replace R2 := hidden (R2.out.keep hb)
  clear r2 r3 hb
  go_wp2_with fail
  go_ret
  exact ⟨rfl, B.out⟩

set_option maxHeartbeats 400000 in
theorem law_read_all (p : Option Addr) (n c : Nat) (l : List Int) (w : World) (h : ¬ 1048576 < n → Byt.Src w p n l) :
    Calls Try.prog 4 #[.slice p n c] w fun e w' => e = .returned (.bool true) ∧ Below w.heap.size w w' := by
  by_cases hn : 1048576 < n
  · go_enter Try.func4, Try.ntmps4
    go_wp2
    go_ret
    exact ⟨rfl, Below.refl _ _⟩
  · by_cases hc : whole l
    · exact law_read_ok p n c l w (h hn) (by omega) hc
    · exact law_read_bad p n c l w (h hn) (by omega) hc

end Go.Proofs.Ytfoknnnoaeplaab
