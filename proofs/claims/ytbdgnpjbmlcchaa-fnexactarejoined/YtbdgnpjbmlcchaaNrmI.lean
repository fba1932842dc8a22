/- Contract: a term rewritten as long as it can be, as the program does it. -/
import Derived.Test.YtbdgnpjbmlcchaaNrm
namespace Go.Proofs.Ytbdgnpjbmlcchaa
open Go.RowKit

theorem bo_of {n : Nat} {N : Nat → ByteArray} {A T T' : Nat → Int} {r m m' : Nat} {D : EqL} (h : boF n N A r D m T = 0) (hg : Trm n A m' T') : boF n N A r D m' T' = 0 := by
  rw [bo_l (bo_ok h).1]; exact lF_of hg

set_option maxRecDepth 20000 in
set_option maxHeartbeats 12800000 in
theorem rewriteWhole_any (b off n c b1 o1 r c1 b' off' m c' z : Nat) (N : Nat → ByteArray) (A T : Nat → Int) (D : EqL) (w : World) (h : Syms w b off n N A) (hD : Eqs w b1 o1 r D) (h' : Ints w b' off' m T) (hk : Kept n N A) (hz0 : boF n N A r D m T = 0) (hz : z ≤ 200) :
    Calls Try.prog 38 #[.agg #[.slice (some ⟨b, off, none⟩) n c], .slice (some ⟨b1, o1, none⟩) r c1, .slice (some ⟨b', off', none⟩) m c', .int .i64 (z : Nat)] w fun e w' => NfAns w (nfR A D r z 0 m T) e w' ∧ Below w.heap.size w w' := by
  have X := hidden ((One.new w (.slice (some ⟨b, off, none⟩) n c) 34).keep (alloc_below _ (.cells #[.int .i64 0, .slice none 0 0, .int .i64 0] 49)))
  have RB := hidden (show Num3 ((w.alloc (.cells #[.slice (some ⟨b, off, none⟩) n c] 34)).alloc (.cells #[.int .i64 0, .slice none 0 0, .int .i64 0] 49)) (w.heap.size + 1) (.int .i64 0) (.slice none 0 0) (.int .i64 0) by
    have := Num3.new (w.alloc (.cells #[.slice (some ⟨b, off, none⟩) n c] 34)) (.int .i64 0) (.slice none 0 0) (.int .i64 0) 49
    rwa [World.size_alloc] at this)
  have B := hidden (keepB (alloc_below w (.cells #[.slice (some ⟨b, off, none⟩) n c] 34)) (alloc_below _ (.cells #[.int .i64 0, .slice none 0 0, .int .i64 0] 49)))
  have HY := hidden (h.keep B.out)
  have HD := hidden (hD.keep B.out)
  have HT := hidden (h'.keep B.out)
  have HZ := hidden hz0
  have HK := hidden hk
  have HF := hidden (eqs_sig (ru_eqs (bo_ok hz0).1))
  have HG := hidden (bo_trm hz0).2
  have HE := hidden (bo_trm hz0).1.eqs
  have hr12 := (bo_trm hz0).1.eqs.most
  have hm24 := (bo_trm hz0).2.nods.most
  clear h hD h' hz0 hk
  go_enter Try.func38, Try.ntmps38
  go_wp2_with fail
  with_reducible refine (clone_any _ _ _ _ T _ HT.out (by omega)).mono ?_
  rintro e w1 ⟨g0, d0, rfl, hg0, ho, hb⟩
  have hg1 : w.heap.size + 2 ≤ g0 := by simp at hg0; omega
  have O1 := hidden (ho.base (B' := w.heap.size) (by omega))
  replace X := hidden (X.out.keep hb)
  replace RB := hidden (RB.out.keep hb)
  replace HY := hidden (HY.out.keep hb)
  replace HD := hidden (HD.out.keep hb)
  replace B := hidden (keepB B.out hb)
  clear HT ho hb hg0
  go_wp2
  go_loopw [9, 10] (fun t i wr => ∃ (j mj g d : Nat) (Tj : Nat → Int), j ≤ z ∧ i = .int .i64 (j : Nat) ∧ t = .slice (some ⟨g, 0, none⟩) mj d ∧ w.heap.size + 2 ≤ g ∧ mj ≤ d ∧ mj ≤ 24 ∧ Hid (OwnI wr w.heap.size g mj d Tj mj) ∧ Hid (Trm n A mj Tj) ∧ Hid (nfR A D r z 0 m T = nfR A D r (z - j) j mj Tj) ∧ Hid (Below w1.heap.size w1 wr)) (fun _ i _ => z - (intOf i).toNat)
  case atStart => exact ⟨0, m, g0, d0, T, Nat.zero_le _, rfl, rfl, hg1, O1.out.capW, hm24, O1, HG, hidden (show nfR A D r z 0 m T = nfR A D r (z - 0) 0 m T by rw [Nat.sub_zero]), hidden (Below.refl _ _)⟩
  case round =>
    obtain ⟨j, mj, g, d, Tj, hj, rfl, rfl, hgj, hcap, hmj, OJ, GJ, HN, HB⟩ := hrel
    have HZ2 := hidden (bo_of HZ.out GJ.out)
    have SE := hidden (firstRedex_any b off n c b1 o1 r c1 g 0 mj d N A Tj D wr (HY.out.keep HB.out) (HD.out.keep HB.out) OJ.out.ints HZ2.out hcap)
    have x0 := (X.out.keep HB.out).c0
    go_wp2_with fail
    with_reducible refine SE.out.mono ?_
    rintro r1 w2 ⟨he, hb⟩
    obtain rfl := he
    replace OJ := hidden (OJ.out.keep hb)
    have B2 := hidden (keepB HB.out hb)
    clear hb SE x0
    cases hx : rdx A Tj mj D r with
    | none =>
      have HA := hidden (HN.out.trans (nf_none hx))
      rw [(rx_none HZ2.out hx).1, (rx_none HZ2.out hx).2.1, (rx_none HZ2.out hx).2.2]
      clear hx
      have B3 := hidden (keepB B2.out (alloc_below w2 (.cells #[.int .i64 4, .int .i64 0, .int .i64 0] 82)))
      have BB := hidden (keepB B.out B3.out)
      replace OJ := hidden (OJ.out.keep (alloc_below w2 (.cells #[.int .i64 4, .int .i64 0, .int .i64 0] 82)))
      have y0 := (Num3.new w2 (.int .i64 4) (.int .i64 0) (.int .i64 0) 82).c0
      obtain ⟨_, q0, q1, q2, f0, f1, f2⟩ := RB.out.keep B3.out
      go_wp2
      exact bodyPost_ret (v := .agg #[.int .i64 0, .slice (some ⟨g, 0, none⟩) mj d, .int .i64 (j : Nat)]) (by simp [results, Try.results38, go_sem, q0, q1, q2]) rfl ⟨by rw [HA.out]; exact Or.inr ⟨rfl, g, d, rfl, by omega, ((OJ.out.other _ _ (by show g ≠ w.heap.size + 1; omega)).other _ _ (by show g ≠ w.heap.size + 1; omega)).other _ _ (by show g ≠ w.heap.size + 1; omega), hmj⟩, ((BB.out.setCell (by simp) _).setCell (by simp) _).setCell (by simp) _⟩
    | some s =>
      obtain ⟨p, i⟩ := s
      obtain ⟨hp, hi, hsk⟩ := rdx_in GJ.out hx
      simp only at hp hi hsk
      have HX := hidden hx
      have HSK := hidden hsk
      rw [(rx_some HZ2.out hx).1, (rx_some HZ2.out hx).2.1, (rx_some HZ2.out hx).2.2]
      simp only
      clear hx hsk
      obtain ⟨w3, hw3⟩ : ∃ w3, w3 = w2.alloc (.cells #[.int .i64 0, .int .i64 (p : Nat), .int .i64 (i : Nat)] 82) := ⟨_, rfl⟩
      have HW3 := hidden hw3
      have B3 := hidden (show Below w1.heap.size w1 w3 by rw [hw3]; exact keepB B2.out (alloc_below w2 (.cells #[.int .i64 0, .int .i64 (p : Nat), .int .i64 (i : Nat)] 82)))
      have Y := hidden (show Num3 w3 w2.heap.size (.int .i64 0) (.int .i64 (p : Nat)) (.int .i64 (i : Nat)) by rw [hw3]; exact Num3.new w2 _ _ _ 82)
      replace OJ := hidden (show OwnI w3 w.heap.size g mj d Tj mj by rw [hw3]; exact OJ.out.keep (alloc_below w2 (.cells #[.int .i64 0, .int .i64 (p : Nat), .int .i64 (i : Nat)] 82)))
      clear hw3
      have y0 := (Num3.new w2 (.int .i64 0) (.int .i64 (p : Nat)) (.int .i64 (i : Nat)) 82).c0
      by_cases hlt : j < z
      · have hjz : ((j : Int) == (z : Int)) = false := by simp; omega
        obtain ⟨g1, p1, d1, g2, p2, d2, e1, e2, i1, i2⟩ := (HD.out.keep B3.out).row i hi
        have hb13 : b1 < w3.heap.size := (HD.out.keep B3.out).blk (by omega)
        have E1 := hidden e1
        have E2 := hidden e2
        have I1 := hidden i1
        have I2 := hidden i2
        have X3 := hidden (X.out.keep B3.out)
        have HY3 := hidden (HY.out.keep B3.out)
        have TK := hidden (HE.out.trm i hi)
        clear i1 i2 e1 e2
        go_wp2
        rw [← HW3.out]
        by_cases hq : rwC A Tj mj (D.L1 i) (D.m1 i) (D.L2 i) (D.m2 i) p (enN (aOf A Tj) mj p) = 0
        · have HQ0 := hidden hq
          have HA := hidden (show nfR A D r z 0 m T = nfR A D r (z - (j + 1)) (j + 1) (stK A D mj Tj (p, i)) (stU A D mj Tj (p, i)) by
            rw [HN.out, show z - j = (z - (j + 1)) + 1 by omega, nf_step HX.out hq])
          have GK := hidden (st_trm GJ.out HE.out HX.out hq)
          have hk24 := GK.out.nods.most
          obtain ⟨KK, hKK⟩ : ∃ KK, KK = rwK A Tj mj (D.L1 i) (D.m1 i) (D.L2 i) (D.m2 i) p (enN (aOf A Tj) mj p) := ⟨_, rfl⟩
          have HKK := hidden hKK
          replace HA := hidden (show nfR A D r z 0 m T = nfR A D r (z - (j + 1)) (j + 1) KK (stU A D mj Tj (p, i)) by rw [HKK.out]; exact HA.out)
          replace GK := hidden (show Trm n A KK (stU A D mj Tj (p, i)) by rw [HKK.out]; exact GK.out)
          replace hk24 : KK ≤ 24 := by rw [hKK]; exact hk24
          clear hq hKK y0
          have CK := hidden (show ∀ w', Below w3.heap.size w3 w' → (w'.cell? ⟨w.heap.size, 0, none⟩ = some (.slice (some ⟨b, off, none⟩) n c) ∧ w'.cell? ⟨b1, o1 + i * 2, none⟩ = some (.slice (some ⟨g1, p1, none⟩) (D.m1 i) d1) ∧ w'.cell? ⟨b1, o1 + i * 2 + 1, none⟩ = some (.slice (some ⟨g2, p2, none⟩) (D.m2 i) d2) ∧ w'.cell? ⟨w2.heap.size, 1, none⟩ = some (.int .i64 (p : Nat)) ∧ w'.cell? ⟨w2.heap.size, 2, none⟩ = some (.int .i64 (i : Nat))) from fun w' hb => ⟨(X3.out.keep hb).c0, (hb.cell (p := ⟨b1, o1 + i * 2, none⟩) hb13).trans E1.out, (hb.cell (p := ⟨b1, o1 + i * 2 + 1, none⟩) hb13).trans E2.out, (Y.out.keep hb).c1, (Y.out.keep hb).c2⟩)
          have SF := hidden (show ∀ wc , Below w3.heap.size w3 wc → Calls Try.prog 50 #[.agg #[.slice (some ⟨b, off, none⟩) n c], .agg #[.slice (some ⟨g1, p1, none⟩) (D.m1 i) d1, .slice (some ⟨g2, p2, none⟩) (D.m2 i) d2], .slice (some ⟨g, 0, none⟩) mj d, .int .i64 (p : Nat)] wc fun e w' => (∃ ga da, e = .returned (.agg #[.int .i64 0, .slice (some ⟨ga, 0, none⟩) KK da]) ∧ wc.heap.size ≤ ga ∧ Hid (OwnI w' w3.heap.size ga KK da (stU A D mj Tj (p, i)) KK) ∧ w3.heap.size ≤ ga) ∧ Below w3.heap.size w3 w' ∧ Below wc.heap.size wc w' from fun wc  hc  => by
            refine (rewriteThere_any b off n c g1 p1 (D.m1 i) d1 g2 p2 (D.m2 i) d2 g 0 mj d p _ N A (D.L1 i) (D.L2 i) Tj wc (HY3.out.keep hc) (I1.out.keep hc) (I2.out.keep hc) (OJ.out.keep hc).ints HK.out HF.out GJ.out TK.out.1 TK.out.2 HSK.out hp hcap).mono ?_
            rintro e w' ⟨ha, hb⟩
            rcases ha with ⟨ha, -⟩ | ⟨-, ga, da, rfl, hg, ho⟩
            · exact absurd HQ0.out ha
            exact ⟨⟨ga, da, by rw [HKK.out], hg, hidden (by rw [HKK.out]; exact ho.base (Nat.le_trans hc.size hg)), Nat.le_trans hc.size hg⟩, keepB hc hb, hb⟩)
          go_cut [12] (fun t wc => ∃ B0 ga da, t = .pointer (some ⟨B0, 0, none⟩) ∧ w3.heap.size ≤ ga ∧ Hid (Two wc B0 (.int .i64 0) (.slice (some ⟨ga, 0, none⟩) KK da)) ∧ Hid (OwnI wc w3.heap.size ga KK da (stU A D mj Tj (p, i)) KK) ∧ Below w3.heap.size w3 wc)
          case first =>
            refine wp_region_held_drew (S := fun wz => wz.cell? ⟨w.heap.size, 0, none⟩ = some (.slice (some ⟨b, off, none⟩) n c) ∧ wz.cell? ⟨b1, o1 + i * 2, none⟩ = some (.slice (some ⟨g1, p1, none⟩) (D.m1 i) d1) ∧ wz.cell? ⟨b1, o1 + i * 2 + 1, none⟩ = some (.slice (some ⟨g2, p2, none⟩) (D.m2 i) d2) ∧ wz.cell? ⟨w2.heap.size, 1, none⟩ = some (.int .i64 (p : Nat)) ∧ wz.cell? ⟨w2.heap.size, 2, none⟩ = some (.int .i64 (i : Nat))) (by kernel_rfl) (CK.out _ (Below.refl _ _).drew) (fun hHeld => ?_)
            have bb := (Below.refl w3.heap.size w3).drew
            refine wpAnyH_take (i := 0) (oi := { dst := some 29, op := Op.load 34 (Operand.tmp 4), type := 34, pos := "l08_rewrite.go:124", after := #[], guard := none }) (v := ?_) rfl (by kernel_rfl) (by kernel_rfl) (by kernel_rfl) (fun _ _ _ h => h) (Or.inl ⟨by rfl, ?_⟩) (by assumption) ?_
            rotate_left
            · (intro wv hSw; (try dsimp only at hSw); go_simp; try with_reducible rfl)
            try simp only [Act.put, List.setIfInBounds_toArray, List.set_cons_zero, List.set_cons_succ]
            refine wpAnyH_take (i := 1) (oi := { dst := some 30, op := Op.move (Operand.tmp 1), type := 36, pos := "l08_rewrite.go:124", after := #[], guard := none }) (v := ?_) rfl (by kernel_rfl) (by kernel_rfl) (by kernel_rfl) (fun _ _ _ h => h) (Or.inl ⟨by rfl, ?_⟩) (by assumption) ?_
            rotate_left
            · (intro wv hSw; (try dsimp only at hSw); go_simp; try with_reducible rfl)
            try simp only [Act.put, List.setIfInBounds_toArray, List.set_cons_zero, List.set_cons_succ]
            refine wpAnyH_take (i := 2) (oi := { dst := some 31, op := Op.fieldAddr 82 (Operand.tmp 11) 2, type := 0, pos := "l08_rewrite.go:124", after := #[], guard := none }) (v := ?_) rfl (by kernel_rfl) (by kernel_rfl) (by kernel_rfl) (fun _ _ _ h => h) (Or.inl ⟨by rfl, ?_⟩) (by assumption) ?_
            rotate_left
            · (intro wv hSw; (try dsimp only at hSw); go_simp; try with_reducible rfl)
            try simp only [Act.put, List.setIfInBounds_toArray, List.set_cons_zero, List.set_cons_succ]
            refine wpAnyH_take (i := 3) (oi := { dst := some 32, op := Op.load 2 (Operand.tmp 31), type := 2, pos := "l08_rewrite.go:124", after := #[{ on := 2, ground := Ground.data }], guard := none }) (v := ?_) rfl (by kernel_rfl) (by kernel_rfl) (by kernel_rfl) (fun _ _ _ h => h) (Or.inl ⟨by rfl, ?_⟩) (by assumption) ?_
            rotate_left
            · (intro wv hSw; (try dsimp only at hSw); go_simp; try with_reducible rfl)
            try simp only [Act.put, List.setIfInBounds_toArray, List.set_cons_zero, List.set_cons_succ]
            refine wpAnyH_take (i := 4) (oi := { dst := some 33, op := Op.indexAddr 36 (Operand.tmp 30) (Operand.tmp 32), type := 0, pos := "l08_rewrite.go:124", after := #[{ on := 1, ground := Ground.data }, { on := 3, ground := Ground.data }], guard := none }) (v := ?_) rfl (by kernel_rfl) (by kernel_rfl) (by kernel_rfl) (fun _ _ _ h => h) (Or.inl ⟨by rfl, ?_⟩) (by assumption) ?_
            rotate_left
            · (intro wv hSw; (try dsimp only at hSw); go_simp; try with_reducible rfl)
            try simp only [Act.put, List.setIfInBounds_toArray, List.set_cons_zero, List.set_cons_succ]
            refine wpAnyH_take (i := 5) (oi := { dst := some 34, op := Op.load 56 (Operand.tmp 33), type := 56, pos := "l08_rewrite.go:124", after := #[{ on := 4, ground := Ground.data }], guard := none }) (v := ?_) rfl (by kernel_rfl) (by kernel_rfl) (by kernel_rfl) (fun _ _ _ h => h) (Or.inl ⟨by rfl, ?_⟩) (by assumption) ?_
            rotate_left
            · (intro wv hSw; (try dsimp only at hSw); go_simp; try with_reducible rfl)
            try simp only [Act.put, List.setIfInBounds_toArray, List.set_cons_zero, List.set_cons_succ]
            refine wpAnyH_take (i := 6) (oi := { dst := some 35, op := Op.move (Operand.tmp 9), type := 26, pos := "l08_rewrite.go:124", after := #[], guard := none }) (v := ?_) rfl (by kernel_rfl) (by kernel_rfl) (by kernel_rfl) (fun _ _ _ h => h) (Or.inl ⟨by rfl, ?_⟩) (by assumption) ?_
            rotate_left
            · (intro wv hSw; (try dsimp only at hSw); go_simp; try with_reducible rfl)
            try simp only [Act.put, List.setIfInBounds_toArray, List.set_cons_zero, List.set_cons_succ]
            refine wpAnyH_take (i := 7) (oi := { dst := some 36, op := Op.fieldAddr 82 (Operand.tmp 11) 1, type := 0, pos := "l08_rewrite.go:124", after := #[], guard := none }) (v := ?_) rfl (by kernel_rfl) (by kernel_rfl) (by kernel_rfl) (fun _ _ _ h => h) (Or.inl ⟨by rfl, ?_⟩) (by assumption) ?_
            rotate_left
            · (intro wv hSw; (try dsimp only at hSw); go_simp; try with_reducible rfl)
            try simp only [Act.put, List.setIfInBounds_toArray, List.set_cons_zero, List.set_cons_succ]
            refine wpAnyH_take (i := 8) (oi := { dst := some 37, op := Op.load 2 (Operand.tmp 36), type := 2, pos := "l08_rewrite.go:124", after := #[{ on := 7, ground := Ground.data }], guard := none }) (v := ?_) rfl (by kernel_rfl) (by kernel_rfl) (by kernel_rfl) (fun _ _ _ h => h) (Or.inl ⟨by rfl, ?_⟩) (by assumption) ?_
            rotate_left
            · (intro wv hSw; (try dsimp only at hSw); go_simp; try with_reducible rfl)
            try simp only [Act.put, List.setIfInBounds_toArray, List.set_cons_zero, List.set_cons_succ]
            refine wpAnyH_ready (rs := [9, 10]) (by kernel_rfl) (by simp) ?_
            refine AllReadyH.cons (o := { dst := some 38, op := Op.call { callee := Callee.value (Operand.func 50), args := #[Operand.tmp 29, Operand.tmp 34, Operand.tmp 35, Operand.tmp 37], argTypes := #[34, 56, 26, 2] }, type := 85, pos := "l08_rewrite.go:124", after := #[{ on := 0, ground := Ground.data }, { on := 5, ground := Ground.data }, { on := 6, ground := Ground.data }, { on := 8, ground := Ground.data }], guard := none }) rfl (fun K hK => ?_) (AllReadyH.cons (o := { dst := some 12, op := Op.alloc 85, type := 0, pos := "l08_rewrite.go:124", after := #[], guard := none }) rfl (fun K hK => ?_) AllReadyH.nil)
            · go_simp
              go_at_call 50; with_reducible refine (SF.out _  bb ).mono ?_; rintro e v0 ⟨⟨ga', da', rfl, hga, oo', hgx⟩, bb', hb5⟩
              try go_wp2_with fail
              refine hK.out _ _ ?_ (fun hHeld => ?_)
              · exact CK.out _ bb'
              clear hK K
              have oo0 := oo'
              clear bb hb5
              have bb := bb'
              clear bb'
              try simp only [Act.put, List.setIfInBounds_toArray, List.set_cons_zero, List.set_cons_succ]
              have bb0 := bb
              refine wpAnyH_ready (rs := [10]) (by kernel_rfl) (by simp) ?_
              refine AllReadyH.cons (o := { dst := some 12, op := Op.alloc 85, type := 0, pos := "l08_rewrite.go:124", after := #[], guard := none }) rfl (fun K hK => ?_) AllReadyH.nil
              go_simp
              have RR := Own2.new v0 (.int .i64 0) (.slice none 0 0) 85
              have hB0 := bb.size
              refine hK.out _ _ ?_ (fun hHeld => ?_)
              · exact CK.out _ (keepB bb (alloc_below _ _))
              clear hK K
              replace bb := keepB bb (alloc_below _ (.cells #[.int .i64 0, .slice none 0 0] 85))
              replace oo' := hidden (oo'.out.keep (alloc_below _ (.cells #[.int .i64 0, .slice none 0 0] 85)))
              try simp only [Act.put, List.setIfInBounds_toArray, List.set_cons_zero, List.set_cons_succ]
              refine wpAnyH_ready (rs := [11]) (by kernel_rfl) (by simp) ?_
              refine AllReadyH.cons (o := { dst := none, op := Op.store 85 (Operand.tmp 12) (Operand.tmp 38), type := 0, pos := "l08_rewrite.go:124", after := #[{ on := 10, ground := Ground.data }, { on := 9, ground := Ground.data }, { on := 9, ground := Ground.chain }, { on := 0, ground := Ground.phase }, { on := 1, ground := Ground.phase }, { on := 2, ground := Ground.phase }, { on := 3, ground := Ground.phase }, { on := 4, ground := Ground.phase }, { on := 5, ground := Ground.phase }, { on := 6, ground := Ground.phase }, { on := 7, ground := Ground.phase }, { on := 8, ground := Ground.phase }, { on := 9, ground := Ground.phase }, { on := 10, ground := Ground.phase }], guard := none }) rfl (fun K hK => ?_) AllReadyH.nil
              obtain ⟨⟨q8, q0, q1⟩, f0, f1⟩ := id RR
              go_simp
              refine hK.out _ _ ?_ (fun hHeld => ?_)
              · first | exact CK.out _ ((bb.setCell hB0 _).setCell hB0 _) | exact CK.out _ (keepB bb0 (alloc_below _ _))
              clear hK K
              refine wpAnyH_done (by kernel_rfl) ?_ _
              go_wp2_with fail
              go_meet
              first
                | exact ⟨_, ga', da', rfl, hgx, hidden ((RR.set0 _).set1 _).two, hidden ((oo'.out.other _ _ (Nat.ne_of_gt hne)).other _ _ (Nat.ne_of_gt hne)), (bb.setCell hB0 _).setCell hB0 _⟩
                | exact ⟨_, ga', da', rfl, hgx, hidden (Two.new _ _ _ _), hidden (oo0.out.keep (alloc_below _ _)), keepB bb0 (alloc_below _ _)⟩
            · go_simp
              have RR := (Own2.new w3 (.int .i64 0) (.slice none 0 0) 85).keep (Below.refl _ _).drew
              have hB0 := bb.size
              refine hK.out _ _ ?_ (fun hHeld => ?_)
              · exact CK.out _ (alloc_below _ _).drew
              clear hK K
              replace bb := (alloc_below w3 (.cells #[.int .i64 0, .slice none 0 0] 85)).drew
              try simp only [Act.put, List.setIfInBounds_toArray, List.set_cons_zero, List.set_cons_succ]
              refine wpAnyH_ready (rs := [9]) (by kernel_rfl) (by simp) ?_
              refine AllReadyH.cons (o := { dst := some 38, op := Op.call { callee := Callee.value (Operand.func 50), args := #[Operand.tmp 29, Operand.tmp 34, Operand.tmp 35, Operand.tmp 37], argTypes := #[34, 56, 26, 2] }, type := 85, pos := "l08_rewrite.go:124", after := #[{ on := 0, ground := Ground.data }, { on := 5, ground := Ground.data }, { on := 6, ground := Ground.data }, { on := 8, ground := Ground.data }], guard := none }) rfl (fun K hK => ?_) AllReadyH.nil
              go_simp
              go_at_call 50; with_reducible refine (SF.out _  bb ).mono ?_; rintro e v0 ⟨⟨ga', da', rfl, hga, oo', hgx⟩, bb', hb5⟩
              try go_wp2_with fail
              refine hK.out _ _ ?_ (fun hHeld => ?_)
              · exact CK.out _ bb'
              clear hK K
              have hne := Nat.lt_of_lt_of_le RR.two.blk hga
              have oo0 := oo'
              replace RR := RR.keep hb5
              clear bb hb5
              have bb := bb'
              clear bb'
              try simp only [Act.put, List.setIfInBounds_toArray, List.set_cons_zero, List.set_cons_succ]
              have bb0 := bb
              refine wpAnyH_ready (rs := [11]) (by kernel_rfl) (by simp) ?_
              refine AllReadyH.cons (o := { dst := none, op := Op.store 85 (Operand.tmp 12) (Operand.tmp 38), type := 0, pos := "l08_rewrite.go:124", after := #[{ on := 10, ground := Ground.data }, { on := 9, ground := Ground.data }, { on := 9, ground := Ground.chain }, { on := 0, ground := Ground.phase }, { on := 1, ground := Ground.phase }, { on := 2, ground := Ground.phase }, { on := 3, ground := Ground.phase }, { on := 4, ground := Ground.phase }, { on := 5, ground := Ground.phase }, { on := 6, ground := Ground.phase }, { on := 7, ground := Ground.phase }, { on := 8, ground := Ground.phase }, { on := 9, ground := Ground.phase }, { on := 10, ground := Ground.phase }], guard := none }) rfl (fun K hK => ?_) AllReadyH.nil
              obtain ⟨⟨q8, q0, q1⟩, f0, f1⟩ := id RR
              go_simp
              refine hK.out _ _ ?_ (fun hHeld => ?_)
              · first | exact CK.out _ ((bb.setCell hB0 _).setCell hB0 _) | exact CK.out _ (keepB bb0 (alloc_below _ _))
              clear hK K
              refine wpAnyH_done (by kernel_rfl) ?_ _
              go_wp2_with fail
              go_meet
              first
                | exact ⟨_, ga', da', rfl, hgx, hidden ((RR.set0 _).set1 _).two, hidden ((oo'.out.other _ _ (Nat.ne_of_gt hne)).other _ _ (Nat.ne_of_gt hne)), (bb.setCell hB0 _).setCell hB0 _⟩
                | exact ⟨_, ga', da', rfl, hgx, hidden (Two.new _ _ _ _), hidden (oo0.out.keep (alloc_below _ _)), keepB bb0 (alloc_below _ _)⟩
          case rest =>
            rename World => w4
            obtain ⟨B0, ga, da, rfl, hgx, TB, OO, hb⟩ := hcut
            have B4 := hidden (keepB B3.out hb)
            have hw1 := B.out.size
            have hw3 := B3.out.size
            have hgr2 : w.heap.size + 2 ≤ ga := by have := RB.out.blk; omega
            have OK := hidden (OO.out.base (B' := w.heap.size) (by omega))
            have hkd := OK.out.capW
            have t0 := TB.out.c0
            have t1 := TB.out.c1
            clear hb OO CK SF
            go_wp2
            go_roundw
            case rel => exact ⟨j + 1, KK, ga, da, _, by omega, by go_num, rfl, hgr2, hkd, hk24, OK, GK, HA, B4⟩
            case measure => simp [intOf]; omega
        · obtain ⟨q, hqq⟩ : ∃ q, q = rwC A Tj mj (D.L1 i) (D.m1 i) (D.L2 i) (D.m2 i) p (enN (aOf A Tj) mj p) := ⟨_, rfl⟩
          have HQ := hidden hqq
          have HNE := hidden hq
          have HNQ := hidden (show q ≠ 0 by rw [hqq]; exact hq)
          have HA := hidden (show nfR A D r z 0 m T = ⟨q, 0, 0, Tj⟩ by
            rw [HN.out, show z - j = (z - j - 1) + 1 by omega, nf_bad HX.out hq, hqq]; rfl)
          clear hq hqq y0
          have CK := hidden (show ∀ w', Below w3.heap.size w3 w' → (w'.cell? ⟨w.heap.size, 0, none⟩ = some (.slice (some ⟨b, off, none⟩) n c) ∧ w'.cell? ⟨b1, o1 + i * 2, none⟩ = some (.slice (some ⟨g1, p1, none⟩) (D.m1 i) d1) ∧ w'.cell? ⟨b1, o1 + i * 2 + 1, none⟩ = some (.slice (some ⟨g2, p2, none⟩) (D.m2 i) d2) ∧ w'.cell? ⟨w2.heap.size, 1, none⟩ = some (.int .i64 (p : Nat)) ∧ w'.cell? ⟨w2.heap.size, 2, none⟩ = some (.int .i64 (i : Nat))) from fun w' hb => ⟨(X3.out.keep hb).c0, (hb.cell (p := ⟨b1, o1 + i * 2, none⟩) hb13).trans E1.out, (hb.cell (p := ⟨b1, o1 + i * 2 + 1, none⟩) hb13).trans E2.out, (Y.out.keep hb).c1, (Y.out.keep hb).c2⟩)
          have SF := hidden (show ∀ wc , Below w3.heap.size w3 wc → Calls Try.prog 50 #[.agg #[.slice (some ⟨b, off, none⟩) n c], .agg #[.slice (some ⟨g1, p1, none⟩) (D.m1 i) d1, .slice (some ⟨g2, p2, none⟩) (D.m2 i) d2], .slice (some ⟨g, 0, none⟩) mj d, .int .i64 (p : Nat)] wc fun e w' => e = .returned (.agg #[.int .i64 q, .slice none 0 0]) ∧ Below w3.heap.size w3 w' ∧ Below wc.heap.size wc w' from fun wc  hc  => by
            refine (rewriteThere_any b off n c g1 p1 (D.m1 i) d1 g2 p2 (D.m2 i) d2 g 0 mj d p _ N A (D.L1 i) (D.L2 i) Tj wc (HY3.out.keep hc) (I1.out.keep hc) (I2.out.keep hc) (OJ.out.keep hc).ints HK.out HF.out GJ.out TK.out.1 TK.out.2 HSK.out hp hcap).mono ?_
            rintro e w' ⟨ha, hb⟩
            rcases ha with ⟨-, rfl⟩ | ⟨ha, -⟩
            rotate_left
            · exact absurd ha HNE.out
            exact ⟨by rw [HQ.out], keepB hc hb, hb⟩)
          go_cut [12] (fun t wc => ∃ B0, t = .pointer (some ⟨B0, 0, none⟩) ∧ Hid (Two wc B0 (.int .i64 q) (.slice none 0 0)) ∧ Below w3.heap.size w3 wc)
          case first =>
            refine wp_region_held_drew (S := fun wz => wz.cell? ⟨w.heap.size, 0, none⟩ = some (.slice (some ⟨b, off, none⟩) n c) ∧ wz.cell? ⟨b1, o1 + i * 2, none⟩ = some (.slice (some ⟨g1, p1, none⟩) (D.m1 i) d1) ∧ wz.cell? ⟨b1, o1 + i * 2 + 1, none⟩ = some (.slice (some ⟨g2, p2, none⟩) (D.m2 i) d2) ∧ wz.cell? ⟨w2.heap.size, 1, none⟩ = some (.int .i64 (p : Nat)) ∧ wz.cell? ⟨w2.heap.size, 2, none⟩ = some (.int .i64 (i : Nat))) (by kernel_rfl) (CK.out _ (Below.refl _ _).drew) (fun hHeld => ?_)
            have bb := (Below.refl w3.heap.size w3).drew
            refine wpAnyH_take (i := 0) (oi := { dst := some 29, op := Op.load 34 (Operand.tmp 4), type := 34, pos := "l08_rewrite.go:124", after := #[], guard := none }) (v := ?_) rfl (by kernel_rfl) (by kernel_rfl) (by kernel_rfl) (fun _ _ _ h => h) (Or.inl ⟨by rfl, ?_⟩) (by assumption) ?_
            rotate_left
            · (intro wv hSw; (try dsimp only at hSw); go_simp; try with_reducible rfl)
            try simp only [Act.put, List.setIfInBounds_toArray, List.set_cons_zero, List.set_cons_succ]
            refine wpAnyH_take (i := 1) (oi := { dst := some 30, op := Op.move (Operand.tmp 1), type := 36, pos := "l08_rewrite.go:124", after := #[], guard := none }) (v := ?_) rfl (by kernel_rfl) (by kernel_rfl) (by kernel_rfl) (fun _ _ _ h => h) (Or.inl ⟨by rfl, ?_⟩) (by assumption) ?_
            rotate_left
            · (intro wv hSw; (try dsimp only at hSw); go_simp; try with_reducible rfl)
            try simp only [Act.put, List.setIfInBounds_toArray, List.set_cons_zero, List.set_cons_succ]
            refine wpAnyH_take (i := 2) (oi := { dst := some 31, op := Op.fieldAddr 82 (Operand.tmp 11) 2, type := 0, pos := "l08_rewrite.go:124", after := #[], guard := none }) (v := ?_) rfl (by kernel_rfl) (by kernel_rfl) (by kernel_rfl) (fun _ _ _ h => h) (Or.inl ⟨by rfl, ?_⟩) (by assumption) ?_
            rotate_left
            · (intro wv hSw; (try dsimp only at hSw); go_simp; try with_reducible rfl)
            try simp only [Act.put, List.setIfInBounds_toArray, List.set_cons_zero, List.set_cons_succ]
            refine wpAnyH_take (i := 3) (oi := { dst := some 32, op := Op.load 2 (Operand.tmp 31), type := 2, pos := "l08_rewrite.go:124", after := #[{ on := 2, ground := Ground.data }], guard := none }) (v := ?_) rfl (by kernel_rfl) (by kernel_rfl) (by kernel_rfl) (fun _ _ _ h => h) (Or.inl ⟨by rfl, ?_⟩) (by assumption) ?_
            rotate_left
            · (intro wv hSw; (try dsimp only at hSw); go_simp; try with_reducible rfl)
            try simp only [Act.put, List.setIfInBounds_toArray, List.set_cons_zero, List.set_cons_succ]
            refine wpAnyH_take (i := 4) (oi := { dst := some 33, op := Op.indexAddr 36 (Operand.tmp 30) (Operand.tmp 32), type := 0, pos := "l08_rewrite.go:124", after := #[{ on := 1, ground := Ground.data }, { on := 3, ground := Ground.data }], guard := none }) (v := ?_) rfl (by kernel_rfl) (by kernel_rfl) (by kernel_rfl) (fun _ _ _ h => h) (Or.inl ⟨by rfl, ?_⟩) (by assumption) ?_
            rotate_left
            · (intro wv hSw; (try dsimp only at hSw); go_simp; try with_reducible rfl)
            try simp only [Act.put, List.setIfInBounds_toArray, List.set_cons_zero, List.set_cons_succ]
            refine wpAnyH_take (i := 5) (oi := { dst := some 34, op := Op.load 56 (Operand.tmp 33), type := 56, pos := "l08_rewrite.go:124", after := #[{ on := 4, ground := Ground.data }], guard := none }) (v := ?_) rfl (by kernel_rfl) (by kernel_rfl) (by kernel_rfl) (fun _ _ _ h => h) (Or.inl ⟨by rfl, ?_⟩) (by assumption) ?_
            rotate_left
            · (intro wv hSw; (try dsimp only at hSw); go_simp; try with_reducible rfl)
            try simp only [Act.put, List.setIfInBounds_toArray, List.set_cons_zero, List.set_cons_succ]
            refine wpAnyH_take (i := 6) (oi := { dst := some 35, op := Op.move (Operand.tmp 9), type := 26, pos := "l08_rewrite.go:124", after := #[], guard := none }) (v := ?_) rfl (by kernel_rfl) (by kernel_rfl) (by kernel_rfl) (fun _ _ _ h => h) (Or.inl ⟨by rfl, ?_⟩) (by assumption) ?_
            rotate_left
            · (intro wv hSw; (try dsimp only at hSw); go_simp; try with_reducible rfl)
            try simp only [Act.put, List.setIfInBounds_toArray, List.set_cons_zero, List.set_cons_succ]
            refine wpAnyH_take (i := 7) (oi := { dst := some 36, op := Op.fieldAddr 82 (Operand.tmp 11) 1, type := 0, pos := "l08_rewrite.go:124", after := #[], guard := none }) (v := ?_) rfl (by kernel_rfl) (by kernel_rfl) (by kernel_rfl) (fun _ _ _ h => h) (Or.inl ⟨by rfl, ?_⟩) (by assumption) ?_
            rotate_left
            · (intro wv hSw; (try dsimp only at hSw); go_simp; try with_reducible rfl)
            try simp only [Act.put, List.setIfInBounds_toArray, List.set_cons_zero, List.set_cons_succ]
            refine wpAnyH_take (i := 8) (oi := { dst := some 37, op := Op.load 2 (Operand.tmp 36), type := 2, pos := "l08_rewrite.go:124", after := #[{ on := 7, ground := Ground.data }], guard := none }) (v := ?_) rfl (by kernel_rfl) (by kernel_rfl) (by kernel_rfl) (fun _ _ _ h => h) (Or.inl ⟨by rfl, ?_⟩) (by assumption) ?_
            rotate_left
            · (intro wv hSw; (try dsimp only at hSw); go_simp; try with_reducible rfl)
            try simp only [Act.put, List.setIfInBounds_toArray, List.set_cons_zero, List.set_cons_succ]
            refine wpAnyH_ready (rs := [9, 10]) (by kernel_rfl) (by simp) ?_
            refine AllReadyH.cons (o := { dst := some 38, op := Op.call { callee := Callee.value (Operand.func 50), args := #[Operand.tmp 29, Operand.tmp 34, Operand.tmp 35, Operand.tmp 37], argTypes := #[34, 56, 26, 2] }, type := 85, pos := "l08_rewrite.go:124", after := #[{ on := 0, ground := Ground.data }, { on := 5, ground := Ground.data }, { on := 6, ground := Ground.data }, { on := 8, ground := Ground.data }], guard := none }) rfl (fun K hK => ?_) (AllReadyH.cons (o := { dst := some 12, op := Op.alloc 85, type := 0, pos := "l08_rewrite.go:124", after := #[], guard := none }) rfl (fun K hK => ?_) AllReadyH.nil)
            · go_simp
              go_at_call 50; with_reducible refine (SF.out _  bb ).mono ?_; rintro e v0 ⟨rfl, bb', hb5⟩
              try go_wp2_with fail
              refine hK.out _ _ ?_ (fun hHeld => ?_)
              · exact CK.out _ bb'
              clear hK K
              clear bb hb5
              have bb := bb'
              clear bb'
              try simp only [Act.put, List.setIfInBounds_toArray, List.set_cons_zero, List.set_cons_succ]
              have bb0 := bb
              refine wpAnyH_ready (rs := [10]) (by kernel_rfl) (by simp) ?_
              refine AllReadyH.cons (o := { dst := some 12, op := Op.alloc 85, type := 0, pos := "l08_rewrite.go:124", after := #[], guard := none }) rfl (fun K hK => ?_) AllReadyH.nil
              go_simp
              have RR := Own2.new v0 (.int .i64 0) (.slice none 0 0) 85
              have hB0 := bb.size
              refine hK.out _ _ ?_ (fun hHeld => ?_)
              · exact CK.out _ (keepB bb (alloc_below _ _))
              clear hK K
              replace bb := keepB bb (alloc_below _ (.cells #[.int .i64 0, .slice none 0 0] 85))
              try simp only [Act.put, List.setIfInBounds_toArray, List.set_cons_zero, List.set_cons_succ]
              refine wpAnyH_ready (rs := [11]) (by kernel_rfl) (by simp) ?_
              refine AllReadyH.cons (o := { dst := none, op := Op.store 85 (Operand.tmp 12) (Operand.tmp 38), type := 0, pos := "l08_rewrite.go:124", after := #[{ on := 10, ground := Ground.data }, { on := 9, ground := Ground.data }, { on := 9, ground := Ground.chain }, { on := 0, ground := Ground.phase }, { on := 1, ground := Ground.phase }, { on := 2, ground := Ground.phase }, { on := 3, ground := Ground.phase }, { on := 4, ground := Ground.phase }, { on := 5, ground := Ground.phase }, { on := 6, ground := Ground.phase }, { on := 7, ground := Ground.phase }, { on := 8, ground := Ground.phase }, { on := 9, ground := Ground.phase }, { on := 10, ground := Ground.phase }], guard := none }) rfl (fun K hK => ?_) AllReadyH.nil
              obtain ⟨⟨q8, q0, q1⟩, f0, f1⟩ := id RR
              go_simp
              refine hK.out _ _ ?_ (fun hHeld => ?_)
              · first | exact CK.out _ ((bb.setCell hB0 _).setCell hB0 _) | exact CK.out _ (keepB bb0 (alloc_below _ _))
              clear hK K
              refine wpAnyH_done (by kernel_rfl) ?_ _
              go_wp2_with fail
              go_meet
              first
                | exact ⟨_, rfl, hidden ((RR.set0 _).set1 _).two, (bb.setCell hB0 _).setCell hB0 _⟩
                | exact ⟨_, rfl, hidden (Two.new _ _ _ _), keepB bb0 (alloc_below _ _)⟩
            · go_simp
              have RR := (Own2.new w3 (.int .i64 0) (.slice none 0 0) 85).keep (Below.refl _ _).drew
              have hB0 := bb.size
              refine hK.out _ _ ?_ (fun hHeld => ?_)
              · exact CK.out _ (alloc_below _ _).drew
              clear hK K
              replace bb := (alloc_below w3 (.cells #[.int .i64 0, .slice none 0 0] 85)).drew
              try simp only [Act.put, List.setIfInBounds_toArray, List.set_cons_zero, List.set_cons_succ]
              refine wpAnyH_ready (rs := [9]) (by kernel_rfl) (by simp) ?_
              refine AllReadyH.cons (o := { dst := some 38, op := Op.call { callee := Callee.value (Operand.func 50), args := #[Operand.tmp 29, Operand.tmp 34, Operand.tmp 35, Operand.tmp 37], argTypes := #[34, 56, 26, 2] }, type := 85, pos := "l08_rewrite.go:124", after := #[{ on := 0, ground := Ground.data }, { on := 5, ground := Ground.data }, { on := 6, ground := Ground.data }, { on := 8, ground := Ground.data }], guard := none }) rfl (fun K hK => ?_) AllReadyH.nil
              go_simp
              go_at_call 50; with_reducible refine (SF.out _  bb ).mono ?_; rintro e v0 ⟨rfl, bb', hb5⟩
              try go_wp2_with fail
              refine hK.out _ _ ?_ (fun hHeld => ?_)
              · exact CK.out _ bb'
              clear hK K
              replace RR := RR.keep hb5
              clear bb hb5
              have bb := bb'
              clear bb'
              try simp only [Act.put, List.setIfInBounds_toArray, List.set_cons_zero, List.set_cons_succ]
              have bb0 := bb
              refine wpAnyH_ready (rs := [11]) (by kernel_rfl) (by simp) ?_
              refine AllReadyH.cons (o := { dst := none, op := Op.store 85 (Operand.tmp 12) (Operand.tmp 38), type := 0, pos := "l08_rewrite.go:124", after := #[{ on := 10, ground := Ground.data }, { on := 9, ground := Ground.data }, { on := 9, ground := Ground.chain }, { on := 0, ground := Ground.phase }, { on := 1, ground := Ground.phase }, { on := 2, ground := Ground.phase }, { on := 3, ground := Ground.phase }, { on := 4, ground := Ground.phase }, { on := 5, ground := Ground.phase }, { on := 6, ground := Ground.phase }, { on := 7, ground := Ground.phase }, { on := 8, ground := Ground.phase }, { on := 9, ground := Ground.phase }, { on := 10, ground := Ground.phase }], guard := none }) rfl (fun K hK => ?_) AllReadyH.nil
              obtain ⟨⟨q8, q0, q1⟩, f0, f1⟩ := id RR
              go_simp
              refine hK.out _ _ ?_ (fun hHeld => ?_)
              · first | exact CK.out _ ((bb.setCell hB0 _).setCell hB0 _) | exact CK.out _ (keepB bb0 (alloc_below _ _))
              clear hK K
              refine wpAnyH_done (by kernel_rfl) ?_ _
              go_wp2_with fail
              go_meet
              first
                | exact ⟨_, rfl, hidden ((RR.set0 _).set1 _).two, (bb.setCell hB0 _).setCell hB0 _⟩
                | exact ⟨_, rfl, hidden (Two.new _ _ _ _), keepB bb0 (alloc_below _ _)⟩
          case rest =>
            rename World => w4
            obtain ⟨B0, rfl, TB, hb⟩ := hcut
            have B4 := hidden (keepB B3.out hb)
            have BB := hidden (keepB B.out B4.out)
            have t0 := TB.out.c0
            have hq' : (q != 0) = true := by simpa using HNQ.out
            obtain ⟨_, q0, q1, q2, f0, f1, f2⟩ := RB.out.keep B4.out
            clear hb CK SF
            go_wp2
            exact bodyPost_ret (v := .agg #[.int .i64 q, .slice none 0 0, .int .i64 0]) (by simp [results, Try.results38, go_sem, q0, q1, q2]) rfl ⟨by rw [HA.out]; exact Or.inl ⟨HNQ.out, rfl⟩, ((BB.out.setCell (by simp) _).setCell (by simp) _).setCell (by simp) _⟩
      · obtain rfl : j = z := by omega
        have HA := hidden (show nfR A D r j 0 m T = ⟨9, 0, 0, Tj⟩ by rw [HN.out, Nat.sub_self, nf_out HX.out])
        have B5 := hidden (keepB B2.out (alloc_below w2 (.cells #[.int .i64 0, .int .i64 (p : Nat), .int .i64 (i : Nat)] 82)))
        have BB := hidden (keepB B.out B5.out)
        obtain ⟨_, q0, q1, q2, f0, f1, f2⟩ := RB.out.keep B5.out
        go_wp2
        exact bodyPost_ret (v := .agg #[.int .i64 9, .slice none 0 0, .int .i64 0]) (by simp [results, Try.results38, go_sem, q0, q1, q2]) rfl ⟨by rw [HA.out]; exact Or.inl ⟨by show (9 : Int) ≠ 0; decide, rfl⟩, ((BB.out.setCell (by simp) _).setCell (by simp) _).setCell (by simp) _⟩

end Go.Proofs.Ytbdgnpjbmlcchaa
