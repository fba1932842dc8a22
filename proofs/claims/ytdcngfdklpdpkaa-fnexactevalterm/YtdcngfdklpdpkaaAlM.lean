/- Contract: the program's EvalTerm. -/
import Derived.Test.YtdcngfdklpdpkaaAlV
import Derived.Test.YtdcngfdklpdpkaaAlS
namespace Go.Proofs.Ytdcngfdklpdpkaa
open Go.RowKit Go.Shelf

theorem toArr6 (w : World) (a : Addr) (c : Nat) : (Instr.arrayAt 98 (.slice (some a) 6 c)).run Try.prog w = .ok (.pointer (some a)) w := by kernel_rfl

theorem set2_other {w : World} {r b o : Nat} (x y : Value) (u : Value) (h : b ≠ r) (hu : w.cell? ⟨b, o, none⟩ = some u) : ((w.setCell ⟨r, 0, none⟩ x).setCell ⟨r, 1, none⟩ y).cell? ⟨b, o, none⟩ = some u := by
  rw [World.cell?_setCell_other _ _ _ _ (by intro h1; injection h1 with h2; exact h h2.symm), World.cell?_setCell_other _ _ _ _ (by intro h1; injection h1 with h2; exact h h2.symm)]; exact hu

set_option maxRecDepth 20000 in
set_option maxHeartbeats 6400000 in
theorem implEval_any (b off n c bt ot mt ct bv ov k cv b' off' m c' : Nat) (N : Nat → ByteArray) (A : Nat → Int) (z : Int) (D : LsL) (V T : Nat → Int) (w : World) (h : Syms w b off n N A) (ht : Mats w bt ot mt D) (hv : Ints w bv ov k V) (hi : Ints w b' off' m T) (hk : Kept n N A) (hkm : KeptM mt D) (hkv : k ≤ 1048576) (hm : m ≤ 1048576) :
    Calls Try.prog 24 #[.agg #[.slice (some ⟨b, off, none⟩) n c], .agg #[.int .i64 z, .slice (some ⟨bt, ot, none⟩) mt ct], .slice (some ⟨bv, ov, none⟩) k cv, .slice (some ⟨b', off', none⟩) m c'] w fun e w' => e = .returned (.agg #[.int .i64 (etC n N A z mt D k V m T), .int .i64 (etV n N A z mt D k V m T)]) ∧ Below w.heap.size w w' := by
  have bA := alloc_below w (.cells #[.slice (some ⟨b, off, none⟩) n c] 33)
  have bB := alloc_below (w.alloc (.cells #[.slice (some ⟨b, off, none⟩) n c] 33)) (.cells #[.int .i64 z, .slice (some ⟨bt, ot, none⟩) mt ct] 35)
  have bC := alloc_below ((w.alloc (.cells #[.slice (some ⟨b, off, none⟩) n c] 33)).alloc (.cells #[.int .i64 z, .slice (some ⟨bt, ot, none⟩) mt ct] 35)) (.cells #[.int .i64 0, .int .i64 0] 49)
  have x4 := (One.new w (.slice (some ⟨b, off, none⟩) n c) 33).keep (keepB bB bC)
  have x5 := (Two.new (w.alloc (.cells #[.slice (some ⟨b, off, none⟩) n c] 33)) (.int .i64 z) (.slice (some ⟨bt, ot, none⟩) mt ct) 35).keep bC
  have r8 := Res.new ((w.alloc (.cells #[.slice (some ⟨b, off, none⟩) n c] 33)).alloc (.cells #[.int .i64 z, .slice (some ⟨bt, ot, none⟩) mt ct] 35)) (.int .i64 0) (.int .i64 0) 49
  simp only [World.size_alloc] at x5 r8
  have bW := keepB bA (keepB bB bC)
  have LB := hidden hv.blk
  have X4 := hidden x4
  have X5 := hidden x5
  have R := hidden r8
  have B := hidden bW
  have Q := hidden (h.keep bW)
  have MT := hidden (ht.keep bW)
  have IV := hidden (hv.keep bW)
  have IT := hidden (hi.keep bW)
  have HK := hidden hk
  have HKM := hidden hkm
  have HS2 := hidden (show w.heap.size ≤ w.heap.size + 1 + 1 by omega)
  clear bA bB bC bW x4 x5 r8 h ht hv hi hk hkm
  go_enter Try.func24, Try.ntmps24
  go_wp2_with fail
  with_reducible refine (implAlg_any _ _ _ _ _ _ _ _ N A z D _ Q.out MT.out HK.out HKM.out).mono ?_
  rintro e w1 ⟨rfl, hb⟩
  replace X4 := hidden (X4.out.keep hb)
  replace X5 := hidden (X5.out.keep hb)
  replace R := hidden (R.out.keep hb)
  replace B := hidden (keepB B.out hb)
  replace Q := hidden (Q.out.keep hb)
  replace MT := hidden (MT.out.keep hb)
  replace IV := hidden (IV.out.keep hb)
  replace IT := hidden (IT.out.keep hb)
  clear hb
  by_cases ha : algF n N A z mt D = 0
  · have HA := hidden ha
    have HR0 := hidden (alg_right ha)
    have hmt := HR0.out.1
    subst hmt
    rw [ha]
    clear ha
    have x0 := X4.out.c0
    go_wp2_with fail
    clear x0
    with_reducible refine (implTerm_any _ _ _ _ _ _ _ _ N A T _ Q.out IT.out HK.out hm).mono ?_
    rintro e w2 ⟨rfl, hb⟩
    replace X4 := hidden (X4.out.keep hb)
    replace X5 := hidden (X5.out.keep hb)
    replace R := hidden (R.out.keep hb)
    replace B := hidden (keepB B.out hb)
    replace Q := hidden (Q.out.keep hb)
    replace MT := hidden (MT.out.keep hb)
    replace IV := hidden (IV.out.keep hb)
    replace IT := hidden (IT.out.keep hb)
    clear hb
    by_cases hl : termF mt N A m T = 0
    · have HT0 := hidden hl
      have HTR := hidden (term_right hl)
      rw [hl]
      clear hl
      by_cases h6 : k = 6
      · subst h6
        have h6' : ((6 : Int) != 6) = false := by decide
        have y0 := X5.out.c0
        go_wp2_with fail
        clear y0
        with_reducible refine (areValues_any _ _ _ _ V z _ IV.out (by omega)).mono ?_
        rintro e w3 ⟨rfl, hb⟩
        replace X4 := hidden (X4.out.keep hb)
        replace X5 := hidden (X5.out.keep hb)
        replace R := hidden (R.out.keep hb)
        replace Q := hidden (Q.out.keep hb)
        replace MT := hidden (MT.out.keep hb)
        replace IV := hidden (IV.out.keep hb)
        replace IT := hidden (IT.out.keep hb)
        replace B := hidden (keepB B.out hb)
        clear hb
        by_cases ho : outT z 6 V
        · have HE := hidden (et_out (V := V) HA.out HT0.out rfl ho)
          rw [show outB z 6 V = true by simp [outB, ho]]
          clear ho
          obtain ⟨_, q0, q1, f0, f1⟩ := id R.out
          go_wp2
          refine bodyPost_ret (v := .agg #[.int .i64 3, .int .i64 0]) (by simp [results, Try.results24, go_sem, q0, q1]) rfl ⟨by rw [HE.out.1, HE.out.2], (B.out.setCell HS2.out _).setCell HS2.out _⟩
        · have HO := hidden ho
          rw [show outB z 6 V = false by simp [outB, ho]]
          clear ho
          go_wp2_with fail
          with_reducible refine (containsBey_any _ _ _ _ T _ IT.out hm).mono ?_
          rintro e w4 ⟨rfl, hb⟩
          replace X4 := hidden (X4.out.keep hb)
          replace X5 := hidden (X5.out.keep hb)
          replace R := hidden (R.out.keep hb)
          replace Q := hidden (Q.out.keep hb)
          replace MT := hidden (MT.out.keep hb)
          replace IV := hidden (IV.out.keep hb)
          replace IT := hidden (IT.out.keep hb)
          replace B := hidden (keepB B.out hb)
          clear hb
          rw [hasBey_low HTR.out.nods]
          by_cases hlow : lowB m T = false
          · have HE := hidden (et_bey HA.out HT0.out rfl HO.out hlow)
            rw [hlow]
            clear hlow
            obtain ⟨_, q0, q1, f0, f1⟩ := id R.out
            go_wp2
            refine bodyPost_ret (v := .agg #[.int .i64 3, .int .i64 0]) (by simp [results, Try.results24, go_sem, q0, q1]) rfl ⟨by rw [HE.out.1, HE.out.2], (B.out.setCell HS2.out _).setCell HS2.out _⟩
          · have hlow2 : lowB m T = true := by simpa using hlow
            have HE := hidden (et_ok HA.out HT0.out rfl HO.out hlow2)
            have HL := hidden (low_in hlow2)
            have HVI := hidden (vals_in HO.out)
            rw [hlow2]
            clear hlow hlow2
            have WO := hidden (show ∀ ww, Below w4.heap.size w4 ww → Calls Try.prog 62 #[.agg #[.int .i64 z, .slice (some ⟨bt, ot, none⟩) mt ct]] ww fun e w' => ∃ v, e = .returned v ∧ Hid (WorldV w' mt z D v) ∧ Below ww.heap.size ww w' from fun ww hb =>
              (worldOf_any bt ot mt ct A z D ww (MT.out.keep hb) HR0.out.2).mono (by rintro e w' ⟨v, rfl, h1, h2⟩; exact ⟨v, rfl, hidden h1, h2⟩))
            have VO := hidden (show ∀ ww v, Below w4.heap.size w4 ww → WorldV ww mt z D v → Calls Try.prog 61 #[.agg #[.slice (some ⟨b, off, none⟩) mt c], v, .agg #[.int .i64 (V 0), .int .i64 (V 1), .int .i64 (V 2), .int .i64 (V 3), .int .i64 (V 4), .int .i64 (V 5)], .slice (some ⟨b', off', none⟩) m c'] ww fun e w' => e = .returned (.int .i64 (evV A T z D V m 0)) ∧ Below ww.heap.size ww w' from fun ww v hb hw =>
              valueOf_any b off mt c b' off' m c' N A T V z D v HTR.out HR0.out.2 HKM.out HL.out HVI.out ww (Q.out.keep hb) (IT.out.keep hb) hw)
            have R4 := hidden (show ∀ ww, Below w4.heap.size w4 ww → ww.cell? ⟨w.heap.size + 1 + 1, 0, none⟩ = some (.int .i64 0) ∧ ww.cell? ⟨w.heap.size + 1 + 1, 1, none⟩ = some (.int .i64 0) ∧ ww.frozen? ⟨w.heap.size + 1 + 1, 0, none⟩ = false ∧ ww.frozen? ⟨w.heap.size + 1 + 1, 1, none⟩ = false from fun ww hb => by obtain ⟨_, q0, q1, f0, f1⟩ := R.out.keep hb; exact ⟨q0, q1, f0, f1⟩)
            have CKS := hidden (show ∀ ww, Below w4.heap.size w4 ww → ww.cell? ⟨w.heap.size, 0, none⟩ = some (.slice (some ⟨b, off, none⟩) mt c) ∧ ww.cell? ⟨w.heap.size + 1, 0, none⟩ = some (.int .i64 z) ∧ ww.cell? ⟨w.heap.size + 1, 1, none⟩ = some (.slice (some ⟨bt, ot, none⟩) mt ct) ∧ ww.cell? ⟨bv, ov, none⟩ = some (.int .i64 (V 0)) ∧ ww.cell? ⟨bv, ov + 1, none⟩ = some (.int .i64 (V 1)) ∧ ww.cell? ⟨bv, ov + 2, none⟩ = some (.int .i64 (V 2)) ∧ ww.cell? ⟨bv, ov + 3, none⟩ = some (.int .i64 (V 3)) ∧ ww.cell? ⟨bv, ov + 4, none⟩ = some (.int .i64 (V 4)) ∧ ww.cell? ⟨bv, ov + 5, none⟩ = some (.int .i64 (V 5)) from fun ww hb =>
              ⟨(X4.out.keep hb).c0, (X5.out.keep hb).c0, (X5.out.keep hb).c1, (IV.out.keep hb).cell 0 (by omega), (IV.out.keep hb).cell 1 (by omega), (IV.out.keep hb).cell 2 (by omega), (IV.out.keep hb).cell 3 (by omega), (IV.out.keep hb).cell 4 (by omega), (IV.out.keep hb).cell 5 (by omega)⟩)
            have ta := toArr6
            go_wp2_with fail
            refine wp_region_held_drew (S := fun wz => wz.cell? ⟨w.heap.size, 0, none⟩ = some (.slice (some ⟨b, off, none⟩) mt c) ∧ wz.cell? ⟨w.heap.size + 1, 0, none⟩ = some (.int .i64 z) ∧ wz.cell? ⟨w.heap.size + 1, 1, none⟩ = some (.slice (some ⟨bt, ot, none⟩) mt ct) ∧ wz.cell? ⟨bv, ov, none⟩ = some (.int .i64 (V 0)) ∧ wz.cell? ⟨bv, ov + 1, none⟩ = some (.int .i64 (V 1)) ∧ wz.cell? ⟨bv, ov + 2, none⟩ = some (.int .i64 (V 2)) ∧ wz.cell? ⟨bv, ov + 3, none⟩ = some (.int .i64 (V 3)) ∧ wz.cell? ⟨bv, ov + 4, none⟩ = some (.int .i64 (V 4)) ∧ wz.cell? ⟨bv, ov + 5, none⟩ = some (.int .i64 (V 5))) (by kernel_rfl) (CKS.out _ (Below.refl _ _).drew) (fun hHeld => ?_)
            have bb := (Below.refl w4.heap.size w4).drew
            refine wpAnyH_take (i := 0) (oi := { dst := some 39, op := Op.load 33 (Operand.tmp 4), type := 33, pos := "l10_algebra.go:151", after := #[], guard := none }) (v := ?_) rfl (by kernel_rfl) (by kernel_rfl) (by kernel_rfl) (fun _ _ _ h => h) (Or.inl ⟨by rfl, ?_⟩) (by assumption) ?_
            rotate_left
            · (intro wv hSw; (try dsimp only at hSw); go_simp; try with_reducible rfl)
            try simp only [Act.put, List.setIfInBounds_toArray, List.set_cons_zero, List.set_cons_succ]
            refine wpAnyH_take (i := 1) (oi := { dst := some 40, op := Op.load 35 (Operand.tmp 5), type := 35, pos := "l10_algebra.go:151", after := #[], guard := none }) (v := ?_) rfl (by kernel_rfl) (by kernel_rfl) (by kernel_rfl) (fun _ _ _ h => h) (Or.inl ⟨by rfl, ?_⟩) (by assumption) ?_
            rotate_left
            · (intro wv hSw; (try dsimp only at hSw); go_simp; try with_reducible rfl)
            try simp only [Act.put, List.setIfInBounds_toArray, List.set_cons_zero, List.set_cons_succ]
            refine wpAnyH_take (i := 3) (oi := { dst := some 42, op := Op.move (Operand.tmp 2), type := 47, pos := "l10_algebra.go:151", after := #[], guard := none }) (v := ?_) rfl (by kernel_rfl) (by kernel_rfl) (by kernel_rfl) (fun _ _ _ h => h) (Or.inl ⟨by rfl, ?_⟩) (by assumption) ?_
            rotate_left
            · (intro wv hSw; (try dsimp only at hSw); go_simp; try with_reducible rfl)
            try simp only [Act.put, List.setIfInBounds_toArray, List.set_cons_zero, List.set_cons_succ]
            refine wpAnyH_take (i := 4) (oi := { dst := some 43, op := Op.sliceToArrayPointer 98 (Operand.tmp 42), type := 0, pos := "l10_algebra.go:151", after := #[{ on := 3, ground := Ground.data }], guard := none }) (v := ?_) rfl (by kernel_rfl) (by kernel_rfl) (by kernel_rfl) (fun _ _ _ h => h) (Or.inl ⟨by rfl, ?_⟩) (by assumption) ?_
            rotate_left
            · (intro wv hSw; (try dsimp only at hSw); go_simp; try with_reducible rfl)
            try simp only [Act.put, List.setIfInBounds_toArray, List.set_cons_zero, List.set_cons_succ]
            refine wpAnyH_take (i := 5) (oi := { dst := some 44, op := Op.load 98 (Operand.tmp 43), type := 98, pos := "l10_algebra.go:151", after := #[{ on := 4, ground := Ground.data }], guard := none }) (v := ?_) rfl (by kernel_rfl) (by kernel_rfl) (by kernel_rfl) (fun _ _ _ h => h) (Or.inl ⟨by rfl, ?_⟩) (by assumption) ?_
            rotate_left
            · (intro wv hSw; (try dsimp only at hSw); go_simp; try with_reducible rfl)
            try simp only [Act.put, List.setIfInBounds_toArray, List.set_cons_zero, List.set_cons_succ]
            refine wpAnyH_take (i := 6) (oi := { dst := some 45, op := Op.move (Operand.tmp 3), type := 47, pos := "l10_algebra.go:151", after := #[], guard := none }) (v := ?_) rfl (by kernel_rfl) (by kernel_rfl) (by kernel_rfl) (fun _ _ _ h => h) (Or.inl ⟨by rfl, ?_⟩) (by assumption) ?_
            rotate_left
            · (intro wv hSw; (try dsimp only at hSw); go_simp; try with_reducible rfl)
            try simp only [Act.put, List.setIfInBounds_toArray, List.set_cons_zero, List.set_cons_succ]
            refine wpAnyH_ready (rs := [2]) (by kernel_rfl) (by simp) ?_
            refine AllReadyH.cons (o := { dst := some 41, op := Op.call { callee := Callee.value (Operand.func 62), args := #[Operand.tmp 40], argTypes := #[35] }, type := 96, pos := "l10_algebra.go:151", after := #[{ on := 1, ground := Ground.data }], guard := none }) rfl (fun K hK => ?_) AllReadyH.nil
            go_simp
            go_at_call 62; with_reducible refine (WO.out _ bb).mono ?_; rintro e v1 ⟨vv, rfl, HWV, b1⟩
            try go_wp2_with fail
            have b2 := keepB bb b1
            refine hK.out _ _ ?_ (fun hHeld => ?_)
            · exact CKS.out _ b2
            clear hK K
            try simp only [Act.put, List.setIfInBounds_toArray, List.set_cons_zero, List.set_cons_succ]
            refine wpAnyH_ready (rs := [7]) (by kernel_rfl) (by simp) ?_
            refine AllReadyH.cons (o := { dst := some 46, op := Op.call { callee := Callee.value (Operand.func 61), args := #[Operand.tmp 39, Operand.tmp 41, Operand.tmp 44, Operand.tmp 45], argTypes := #[33, 96, 98, 47] }, type := 2, pos := "l10_algebra.go:151", after := #[{ on := 0, ground := Ground.data }, { on := 2, ground := Ground.data }, { on := 5, ground := Ground.data }, { on := 6, ground := Ground.data }, { on := 2, ground := Ground.chain }], guard := none }) rfl (fun K hK => ?_) AllReadyH.nil
            go_simp
            go_at_call 61; with_reducible refine (VO.out _ _ b2 HWV.out).mono ?_; rintro e v2 ⟨rfl, b3⟩
            try go_wp2_with fail
            have b4 := keepB b2 b3
            refine hK.out _ _ ?_ (fun hHeld => ?_)
            · exact CKS.out _ b4
            clear hK K
            try simp only [Act.put, List.setIfInBounds_toArray, List.set_cons_zero, List.set_cons_succ]
            refine wpAnyH_take (i := 8) (oi := { dst := some 47, op := Op.build 49 #[(1, Operand.tmp 46)], type := 49, pos := "l10_algebra.go:151", after := #[{ on := 7, ground := Ground.data }], guard := none }) (v := ?_) rfl (by kernel_rfl) (by kernel_rfl) (by kernel_rfl) (fun _ _ _ h => h) (Or.inl ⟨by rfl, ?_⟩) (by assumption) ?_
            rotate_left
            · (intro wv hSw; (try dsimp only at hSw); go_simp; try with_reducible rfl)
            try simp only [Act.put, List.setIfInBounds_toArray, List.set_cons_zero, List.set_cons_succ]
            obtain ⟨q0, q1, f0, f1⟩ := R4.out _ b4
            refine wpAnyH_ready (rs := [9]) (by kernel_rfl) (by simp) ?_
            refine AllReadyH.cons (o := { dst := none, op := Op.store 49 (Operand.tmp 8) (Operand.tmp 47), type := 0, pos := "l10_algebra.go:151", after := #[{ on := 8, ground := Ground.data }, { on := 7, ground := Ground.chain }, { on := 0, ground := Ground.phase }, { on := 1, ground := Ground.phase }, { on := 2, ground := Ground.phase }, { on := 3, ground := Ground.phase }, { on := 4, ground := Ground.phase }, { on := 5, ground := Ground.phase }, { on := 6, ground := Ground.phase }, { on := 7, ground := Ground.phase }, { on := 8, ground := Ground.phase }], guard := none }) rfl (fun K hK => ?_) AllReadyH.nil
            go_simp
            skip
            refine hK.out _ _ ?_ (fun hHeld => ?_)
            · obtain ⟨s0, s1, s2, s3, s4, s5, s6, s7, s8⟩ := CKS.out _ b4
              have hlb := LB.out (by omega)
              exact ⟨set2_other _ _ _ (by omega) s0, set2_other _ _ _ (by omega) s1, set2_other _ _ _ (by omega) s2, set2_other _ _ _ (by omega) s3, set2_other _ _ _ (by omega) s4, set2_other _ _ _ (by omega) s5, set2_other _ _ _ (by omega) s6, set2_other _ _ _ (by omega) s7, set2_other _ _ _ (by omega) s8⟩
            clear hK K
            try simp only [Act.put, List.setIfInBounds_toArray, List.set_cons_zero, List.set_cons_succ]
            refine wpAnyH_done (by kernel_rfl) ?_ _
            clear hHeld
            have BF := hidden (keepB B.out b4)
            go_wp2
            refine bodyPost_ret (v := .agg #[.int .i64 0, .int .i64 (evV A T z D V m 0)]) (by simp [results, Try.results24, go_sem, q0, q1]) rfl ⟨by rw [HE.out.1, HE.out.2], (BF.out.setCell HS2.out _).setCell HS2.out _⟩
      · have h6' : ((k : Int) != 6) = true := by simp; omega
        have HE := hidden (et_many (D := D) (V := V) (T := T) HA.out HT0.out h6)
        clear h6
        obtain ⟨_, q0, q1, f0, f1⟩ := id R.out
        go_wp2
        refine bodyPost_ret (v := .agg #[.int .i64 2, .int .i64 0]) (by simp [results, Try.results24, go_sem, q0, q1]) rfl ⟨by rw [HE.out.1, HE.out.2], (B.out.setCell HS2.out _).setCell HS2.out _⟩
    · have HE := hidden (et_term (D := D) (V := V) (k := k) HA.out hl)
      have hc : (termF mt N A m T != 0) = true := by simpa using hl
      clear hl
      obtain ⟨q, hq⟩ : ∃ q, q = termF mt N A m T := ⟨_, rfl⟩
      have HQ := hidden hq
      rw [← hq] at hc ⊢
      clear hq
      obtain ⟨_, q0, q1, f0, f1⟩ := id R.out
      go_wp2
      refine bodyPost_ret (v := .agg #[.int .i64 q, .int .i64 0]) (by simp [results, Try.results24, go_sem, q0, q1]) rfl ⟨by rw [HE.out.1, ← HQ.out, HE.out.2], (B.out.setCell HS2.out _).setCell HS2.out _⟩
  · have HE := hidden (et_alg (V := V) (T := T) (k := k) (m := m) ha)
    have hc : (algF n N A z mt D != 0) = true := by simpa using ha
    clear ha
    obtain ⟨q, hq⟩ : ∃ q, q = algF n N A z mt D := ⟨_, rfl⟩
    have HQ := hidden hq
    rw [← hq] at hc ⊢
    clear hq
    obtain ⟨_, q0, q1, f0, f1⟩ := id R.out
    go_wp2
    refine bodyPost_ret (v := .agg #[.int .i64 q, .int .i64 0]) (by simp [results, Try.results24, go_sem, q0, q1]) rfl ⟨by rw [HE.out.1, ← HQ.out, HE.out.2], (B.out.setCell HS2.out _).setCell HS2.out _⟩

end Go.Proofs.Ytdcngfdklpdpkaa
