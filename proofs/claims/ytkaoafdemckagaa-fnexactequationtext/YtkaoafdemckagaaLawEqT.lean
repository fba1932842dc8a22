/- Law FnExactEquationText: at every signature and equation the program's EquationText answers as the model's, and leaves both as they were. -/
import Derived.Test.YtkaoafdemckagaaEqT
namespace Go.Proofs.Ytkaoafdemckagaa
open Go.RowKit

set_option maxRecDepth 20000 in
set_option maxHeartbeats 12800000 in
theorem law_eqtext (p : Option Addr) (n c : Nat) (N : Nat → ByteArray) (A : Nat → Int) (p1 : Option Addr) (m1 c1 : Nat) (L1 : Nat → Int) (p2 : Option Addr) (m2 c2 : Nat) (L2 : Nat → Int) (w : World) (h : SrcS w p n N A) (h1 : SrcI w p1 m1 L1) (h2 : SrcI w p2 m2 L2) (hx1 : m1 ≤ maxLen) (hx2 : m2 ≤ maxLen) :
    Calls Try.prog 5 #[.agg #[.slice p n c], .agg #[.slice p1 m1 c1, .slice p2 m2 c2]] w fun e w' => e = .returned (.bool true) ∧ Below w.heap.size w w' := by
  have H0 := hidden h
  have K1 := hidden h1
  have K2 := hidden h2
  have X1 := hidden hx1
  have X2 := hidden hx2
  clear h h1 h2 hx1 hx2
  generalize hS : eqF n N A m1 L1 m2 L2 = S
  have HS0 := hidden hS
  clear hS
  generalize hS : eqS n N A m1 L1 m2 L2 = U
  have HS1 := hidden hS
  clear hS
  have D0 := hidden (One.new w (.slice p n c) 24)
  have B := hidden (alloc_below w (.cells #[.slice p n c] 24))
  have hb := alloc_below (w.alloc (.cells #[.slice p n c] 24)) (.cells #[.slice p1 m1 c1, .slice p2 m2 c2] 40)
  replace D0 := hidden (D0.out.keep hb)
  replace B := hidden (keepB B.out hb)
  clear hb
  have D1 := hidden (Two.new (w.alloc (.cells #[.slice p n c] 24)) (.slice p1 m1 c1) (.slice p2 m2 c2) 40)
  simp only [World.size_alloc] at D1
  have H := hidden (H0.out.keep B.out)
  have H1 := hidden (K1.out.keep B.out)
  have H2 := hidden (K2.out.keep B.out)
  go_enter Try.func5, Try.ntmps5
  go_wp2_with fail
  with_reducible refine (szSignature_src p n c N A 1048576 _ H.out (by omega) (by omega)).mono ?_
  rintro e w1 ⟨⟨r1, rfl, hr⟩, hb⟩
  replace D0 := hidden (D0.out.keep hb)
  replace B := hidden (keepB B.out hb)
  replace D1 := hidden (D1.out.keep hb)
  replace H := hidden (H.out.keep hb)
  replace H1 := hidden (H1.out.keep hb)
  replace H2 := hidden (H2.out.keep hb)
  clear hb
  rcases hr with rfl | ⟨q0, q1, q2, q3⟩
  · go_wp2_with fail
    go_ret
    exact ⟨rfl, B.out⟩
  have HK := hidden (Kept.mk q2 q3 H.out.fits)
  clear q2 q3
  have e0 := D1.out.c0
  have e1 := D1.out.c1
  go_wp2_with fail
  with_reducible refine (szEquation_any p1 m1 c1 p2 m2 c2 _ _ X1.out X2.out q0 q1).mono ?_
  rintro e w2 ⟨⟨r2, rfl, hr⟩, hb⟩
  replace D0 := hidden (D0.out.keep hb)
  replace B := hidden (keepB B.out hb)
  replace D1 := hidden (D1.out.keep hb)
  replace H := hidden (H.out.keep hb)
  replace H1 := hidden (H1.out.keep hb)
  replace H2 := hidden (H2.out.keep hb)
  clear e0 e1 hb q0 q1
  rcases hr with rfl | ⟨q0, q1, q2, q3⟩
  · go_wp2_with fail
    go_ret
    exact ⟨rfl, B.out⟩
  have M1 := hidden q2
  have M2 := hidden q3
  clear q1 q2 q3
  have CK := hidden (show ∀ w', Below w2.heap.size w2 w' → (w'.cell? ⟨w.heap.size, 0, none⟩ = some (.slice p n c) ∧ w'.cell? ⟨w.heap.size + 1, 0, none⟩ = some (.slice p1 m1 c1) ∧ w'.cell? ⟨w.heap.size + 1, 1, none⟩ = some (.slice p2 m2 c2)) from fun w' hb => ⟨(D0.out.keep hb).c0, (D1.out.keep hb).c0, (D1.out.keep hb).c1⟩)
  have S1 := hidden (show ∀ wc, Below w2.heap.size w2 wc → Calls Try.prog 10 #[.agg #[.slice p n c]] wc fun e w' => ∃ g, e = .returned (.agg #[.slice (some ⟨g, 0, none⟩) n n]) ∧ Below w2.heap.size w2 w' ∧ Syms w' g 0 n N A ∧ Below wc.heap.size wc w' from fun wc hc => by
    refine (toSig_new p n c N A wc (H.out.keep hc) HK.out).mono ?_
    rintro e w' ⟨g, rfl, hg, hl, hs, hb⟩
    exact ⟨g, rfl, keepB hc hb, hs, hb⟩)
  have S2 := hidden (show ∀ wc g, Below w2.heap.size w2 wc → Syms wc g 0 n N A → Calls Try.prog 18 #[.agg #[.slice p1 m1 c1, .slice p2 m2 c2]] wc fun e w' => ∃ g1 g2, e = .returned (.agg #[.slice (some ⟨g1, 0, none⟩) m1 m1, .slice (some ⟨g2, 0, none⟩) m2 m2]) ∧ Below w2.heap.size w2 w' ∧ Syms w' g 0 n N A ∧ Ints w' g1 0 m1 L1 ∧ Ints w' g2 0 m2 L2 ∧ Below wc.heap.size wc w' from fun wc g hc hm => by
    refine (toEquation_src p1 m1 c1 L1 p2 m2 c2 L2 wc (H1.out.keep hc) (H2.out.keep hc) M1.out M2.out).mono ?_
    rintro e w' ⟨g1, g2, rfl, hg, hl, hs1, hs2, hb⟩
    exact ⟨g1, g2, rfl, keepB hc hb, hm.keep hb, hs1.ints, hs2.ints, hb⟩)
  have S3 := hidden (show ∀ wc g g1 g2, Below w2.heap.size w2 wc → Syms wc g 0 n N A → Ints wc g1 0 m1 L1 → Ints wc g2 0 m2 L2 → Calls Try.prog 21 #[.agg #[.slice (some ⟨g, 0, none⟩) n n], .agg #[.slice (some ⟨g1, 0, none⟩) m1 m1, .slice (some ⟨g2, 0, none⟩) m2 m2]] wc fun e w' => e = .returned (.agg #[.int .i64 S, .string U]) ∧ Below w2.heap.size w2 w' ∧ Below wc.heap.size wc w' from fun wc g g1 g2 hc hm hm1 hm2 => by
    refine (specEqT_any g 0 n n g1 0 m1 m1 g2 0 m2 m2 N A L1 L2 wc hm hm1 hm2 HK.out M1.out M2.out).mono ?_
    rintro e w' ⟨rfl, hb⟩
    exact ⟨by rw [HS0.out, HS1.out], keepB hc hb, hb⟩)
  have d0 := D0.out.c0
  have e0 := D1.out.c0
  have e1 := D1.out.c1
  go_wp2_with fail
  go_cut [6] (fun t wc => ∃ B0, t = .pointer (some ⟨B0, 0, none⟩) ∧ Two wc B0 (.int .i64 S) (.string U) ∧ Below w2.heap.size w2 wc)
  case first =>
    refine wp_region_held_drew (S := fun wz => wz.cell? ⟨w.heap.size, 0, none⟩ = some (.slice p n c) ∧ wz.cell? ⟨w.heap.size + 1, 0, none⟩ = some (.slice p1 m1 c1) ∧ wz.cell? ⟨w.heap.size + 1, 1, none⟩ = some (.slice p2 m2 c2)) (by kernel_rfl) ⟨d0, e0, e1⟩ (fun hHeld => ?_)
    have bb := (Below.refl w2.heap.size w2).drew
    refine wpAnyH_take (i := 0) (oi := { dst := some 20, op := Op.load 24 (Operand.tmp 2), type := 24, pos := "exact.go:3722", after := #[], guard := none }) (v := ?_) rfl (by kernel_rfl) (by kernel_rfl) (by kernel_rfl) (fun _ _ _ h => h) (Or.inl ⟨by rfl, ?_⟩) (by assumption) ?_
    rotate_left
    · (intro wv hSw; (try dsimp only at hSw); go_simp; try with_reducible rfl)
    try simp only [Act.put, List.setIfInBounds_toArray, List.set_cons_zero, List.set_cons_succ]
    refine wpAnyH_take (i := 2) (oi := { dst := some 22, op := Op.load 40 (Operand.tmp 3), type := 40, pos := "exact.go:3722", after := #[], guard := none }) (v := ?_) rfl (by kernel_rfl) (by kernel_rfl) (by kernel_rfl) (fun _ _ _ h => h) (Or.inl ⟨by rfl, ?_⟩) (by assumption) ?_
    rotate_left
    · (intro wv hSw; (try dsimp only at hSw); go_simp; try with_reducible rfl)
    try simp only [Act.put, List.setIfInBounds_toArray, List.set_cons_zero, List.set_cons_succ]
    refine wpAnyH_ready (rs := [1, 5]) (by kernel_rfl) (by simp) ?_
    refine AllReadyH.cons (o := { dst := some 21, op := Op.call { callee := Callee.value (Operand.func 10), args := #[Operand.tmp 20], argTypes := #[24] }, type := 32, pos := "exact.go:3722", after := #[{ on := 0, ground := Ground.data }], guard := none }) rfl (fun K hK => ?_) (AllReadyH.cons (o := { dst := some 6, op := Op.alloc 28, type := 0, pos := "exact.go:3722", after := #[], guard := none }) rfl (fun K hK => ?_) AllReadyH.nil)
    · go_simp
      go_at_call 10; with_reducible refine (S1.out _ bb).mono ?_; rintro e v5 ⟨g5', rfl, bb', m5', hb5⟩
      try go_wp2_with fail
      refine hK.out _ _ ?_ (fun hHeld => ?_)
      · exact CK.out _ bb'
      clear hK K
      clear bb hb5
      have bb := bb'
      clear bb'
      try simp only [Act.put, List.setIfInBounds_toArray, List.set_cons_zero, List.set_cons_succ]
      refine wpAnyH_ready (rs := [3, 5]) (by kernel_rfl) (by simp) ?_
      refine AllReadyH.cons (o := { dst := some 23, op := Op.call { callee := Callee.value (Operand.func 18), args := #[Operand.tmp 22], argTypes := #[40] }, type := 43, pos := "exact.go:3722", after := #[{ on := 2, ground := Ground.data }, { on := 1, ground := Ground.chain }], guard := none }) rfl (fun K hK => ?_) (AllReadyH.cons (o := { dst := some 6, op := Op.alloc 28, type := 0, pos := "exact.go:3722", after := #[], guard := none }) rfl (fun K hK => ?_) AllReadyH.nil)
      · go_simp
        go_at_call 18; with_reducible refine (S2.out _ _ bb m5').mono ?_; rintro e v6 ⟨g6', g7', rfl, bb', m5', i6', i7', hb5⟩
        try go_wp2_with fail
        refine hK.out _ _ ?_ (fun hHeld => ?_)
        · exact CK.out _ bb'
        clear hK K
        clear bb hb5
        have bb := bb'
        clear bb'
        try simp only [Act.put, List.setIfInBounds_toArray, List.set_cons_zero, List.set_cons_succ]
        refine wpAnyH_ready (rs := [4, 5]) (by kernel_rfl) (by simp) ?_
        refine AllReadyH.cons (o := { dst := some 24, op := Op.call { callee := Callee.value (Operand.func 21), args := #[Operand.tmp 21, Operand.tmp 23], argTypes := #[32, 43] }, type := 28, pos := "exact.go:3722", after := #[{ on := 1, ground := Ground.data }, { on := 3, ground := Ground.data }, { on := 3, ground := Ground.chain }], guard := none }) rfl (fun K hK => ?_) (AllReadyH.cons (o := { dst := some 6, op := Op.alloc 28, type := 0, pos := "exact.go:3722", after := #[], guard := none }) rfl (fun K hK => ?_) AllReadyH.nil)
        · go_simp
          go_at_call 21; with_reducible refine (S3.out _ _ _ _ bb m5' i6' i7').mono ?_; rintro e v7 ⟨rfl, bb', hb5⟩
          try go_wp2_with fail
          refine hK.out _ _ ?_ (fun hHeld => ?_)
          · exact CK.out _ bb'
          clear hK K
          clear bb hb5
          have bb := bb'
          clear bb'
          try simp only [Act.put, List.setIfInBounds_toArray, List.set_cons_zero, List.set_cons_succ]
          have bb0 := bb
          refine wpAnyH_ready (rs := [5]) (by kernel_rfl) (by simp) ?_
          refine AllReadyH.cons (o := { dst := some 6, op := Op.alloc 28, type := 0, pos := "exact.go:3722", after := #[], guard := none }) rfl (fun K hK => ?_) AllReadyH.nil
          go_simp
          have RR := Own2.new v7 (.int .i64 0) (.string ⟨#[]⟩) 28
          have hB0 := bb.size
          refine hK.out _ _ ?_ (fun hHeld => ?_)
          · exact CK.out _ (keepB bb (alloc_below _ _))
          clear hK K
          replace bb := keepB bb (alloc_below _ (.cells #[.int .i64 0, .string ⟨#[]⟩] 28))
          replace m5' := m5'.keep (alloc_below _ (.cells #[.int .i64 0, .string ⟨#[]⟩] 28))
          replace i6' := i6'.keep (alloc_below _ (.cells #[.int .i64 0, .string ⟨#[]⟩] 28))
          replace i7' := i7'.keep (alloc_below _ (.cells #[.int .i64 0, .string ⟨#[]⟩] 28))
          try simp only [Act.put, List.setIfInBounds_toArray, List.set_cons_zero, List.set_cons_succ]
          refine wpAnyH_ready (rs := [6]) (by kernel_rfl) (by simp) ?_
          refine AllReadyH.cons (o := { dst := none, op := Op.store 28 (Operand.tmp 6) (Operand.tmp 24), type := 0, pos := "exact.go:3722", after := #[{ on := 5, ground := Ground.data }, { on := 4, ground := Ground.data }, { on := 4, ground := Ground.chain }, { on := 0, ground := Ground.phase }, { on := 1, ground := Ground.phase }, { on := 2, ground := Ground.phase }, { on := 3, ground := Ground.phase }, { on := 4, ground := Ground.phase }, { on := 5, ground := Ground.phase }], guard := none }) rfl (fun K hK => ?_) AllReadyH.nil
          obtain ⟨⟨q8, q0, q1⟩, f0, f1⟩ := id RR
          go_simp
          refine hK.out _ _ ?_ (fun hHeld => ?_)
          · first | exact CK.out _ ((bb.setCell hB0 _).setCell hB0 _) | exact CK.out _ (keepB bb0 (alloc_below _ _))
          clear hK K
          refine wpAnyH_done (by kernel_rfl) ?_ _
          go_wp2_with fail
          go_meet
          first
            | exact ⟨_, rfl, ((RR.set0 _).set1 _).two, (bb.setCell hB0 _).setCell hB0 _⟩
            | exact ⟨_, rfl, Two.new _ _ _ _, keepB bb0 (alloc_below _ _)⟩
        · go_simp
          have RR := Own2.new v6 (.int .i64 0) (.string ⟨#[]⟩) 28
          have hB0 := bb.size
          refine hK.out _ _ ?_ (fun hHeld => ?_)
          · exact CK.out _ (keepB bb (alloc_below _ _))
          clear hK K
          replace bb := keepB bb (alloc_below _ (.cells #[.int .i64 0, .string ⟨#[]⟩] 28))
          replace m5' := m5'.keep (alloc_below _ (.cells #[.int .i64 0, .string ⟨#[]⟩] 28))
          replace i6' := i6'.keep (alloc_below _ (.cells #[.int .i64 0, .string ⟨#[]⟩] 28))
          replace i7' := i7'.keep (alloc_below _ (.cells #[.int .i64 0, .string ⟨#[]⟩] 28))
          try simp only [Act.put, List.setIfInBounds_toArray, List.set_cons_zero, List.set_cons_succ]
          refine wpAnyH_ready (rs := [4]) (by kernel_rfl) (by simp) ?_
          refine AllReadyH.cons (o := { dst := some 24, op := Op.call { callee := Callee.value (Operand.func 21), args := #[Operand.tmp 21, Operand.tmp 23], argTypes := #[32, 43] }, type := 28, pos := "exact.go:3722", after := #[{ on := 1, ground := Ground.data }, { on := 3, ground := Ground.data }, { on := 3, ground := Ground.chain }], guard := none }) rfl (fun K hK => ?_) AllReadyH.nil
          go_simp
          go_at_call 21; with_reducible refine (S3.out _ _ _ _ bb m5' i6' i7').mono ?_; rintro e v7 ⟨rfl, bb', hb5⟩
          try go_wp2_with fail
          refine hK.out _ _ ?_ (fun hHeld => ?_)
          · exact CK.out _ bb'
          clear hK K
          replace RR := RR.keep hb5
          clear bb hb5
          have bb := bb'
          clear bb'
          try simp only [Act.put, List.setIfInBounds_toArray, List.set_cons_zero, List.set_cons_succ]
          have bb0 := bb
          refine wpAnyH_ready (rs := [6]) (by kernel_rfl) (by simp) ?_
          refine AllReadyH.cons (o := { dst := none, op := Op.store 28 (Operand.tmp 6) (Operand.tmp 24), type := 0, pos := "exact.go:3722", after := #[{ on := 5, ground := Ground.data }, { on := 4, ground := Ground.data }, { on := 4, ground := Ground.chain }, { on := 0, ground := Ground.phase }, { on := 1, ground := Ground.phase }, { on := 2, ground := Ground.phase }, { on := 3, ground := Ground.phase }, { on := 4, ground := Ground.phase }, { on := 5, ground := Ground.phase }], guard := none }) rfl (fun K hK => ?_) AllReadyH.nil
          obtain ⟨⟨q8, q0, q1⟩, f0, f1⟩ := id RR
          go_simp
          refine hK.out _ _ ?_ (fun hHeld => ?_)
          · first | exact CK.out _ ((bb.setCell hB0 _).setCell hB0 _) | exact CK.out _ (keepB bb0 (alloc_below _ _))
          clear hK K
          refine wpAnyH_done (by kernel_rfl) ?_ _
          go_wp2_with fail
          go_meet
          first
            | exact ⟨_, rfl, ((RR.set0 _).set1 _).two, (bb.setCell hB0 _).setCell hB0 _⟩
            | exact ⟨_, rfl, Two.new _ _ _ _, keepB bb0 (alloc_below _ _)⟩
      · go_simp
        have RR := Own2.new v5 (.int .i64 0) (.string ⟨#[]⟩) 28
        have hB0 := bb.size
        refine hK.out _ _ ?_ (fun hHeld => ?_)
        · exact CK.out _ (keepB bb (alloc_below _ _))
        clear hK K
        replace bb := keepB bb (alloc_below _ (.cells #[.int .i64 0, .string ⟨#[]⟩] 28))
        replace m5' := m5'.keep (alloc_below _ (.cells #[.int .i64 0, .string ⟨#[]⟩] 28))
        try simp only [Act.put, List.setIfInBounds_toArray, List.set_cons_zero, List.set_cons_succ]
        refine wpAnyH_ready (rs := [3]) (by kernel_rfl) (by simp) ?_
        refine AllReadyH.cons (o := { dst := some 23, op := Op.call { callee := Callee.value (Operand.func 18), args := #[Operand.tmp 22], argTypes := #[40] }, type := 43, pos := "exact.go:3722", after := #[{ on := 2, ground := Ground.data }, { on := 1, ground := Ground.chain }], guard := none }) rfl (fun K hK => ?_) AllReadyH.nil
        go_simp
        go_at_call 18; with_reducible refine (S2.out _ _ bb m5').mono ?_; rintro e v6 ⟨g6', g7', rfl, bb', m5', i6', i7', hb5⟩
        try go_wp2_with fail
        refine hK.out _ _ ?_ (fun hHeld => ?_)
        · exact CK.out _ bb'
        clear hK K
        replace RR := RR.keep hb5
        clear bb hb5
        have bb := bb'
        clear bb'
        try simp only [Act.put, List.setIfInBounds_toArray, List.set_cons_zero, List.set_cons_succ]
        refine wpAnyH_ready (rs := [4]) (by kernel_rfl) (by simp) ?_
        refine AllReadyH.cons (o := { dst := some 24, op := Op.call { callee := Callee.value (Operand.func 21), args := #[Operand.tmp 21, Operand.tmp 23], argTypes := #[32, 43] }, type := 28, pos := "exact.go:3722", after := #[{ on := 1, ground := Ground.data }, { on := 3, ground := Ground.data }, { on := 3, ground := Ground.chain }], guard := none }) rfl (fun K hK => ?_) AllReadyH.nil
        go_simp
        go_at_call 21; with_reducible refine (S3.out _ _ _ _ bb m5' i6' i7').mono ?_; rintro e v7 ⟨rfl, bb', hb5⟩
        try go_wp2_with fail
        refine hK.out _ _ ?_ (fun hHeld => ?_)
        · exact CK.out _ bb'
        clear hK K
        replace RR := RR.keep hb5
        clear bb hb5
        have bb := bb'
        clear bb'
        try simp only [Act.put, List.setIfInBounds_toArray, List.set_cons_zero, List.set_cons_succ]
        have bb0 := bb
        refine wpAnyH_ready (rs := [6]) (by kernel_rfl) (by simp) ?_
        refine AllReadyH.cons (o := { dst := none, op := Op.store 28 (Operand.tmp 6) (Operand.tmp 24), type := 0, pos := "exact.go:3722", after := #[{ on := 5, ground := Ground.data }, { on := 4, ground := Ground.data }, { on := 4, ground := Ground.chain }, { on := 0, ground := Ground.phase }, { on := 1, ground := Ground.phase }, { on := 2, ground := Ground.phase }, { on := 3, ground := Ground.phase }, { on := 4, ground := Ground.phase }, { on := 5, ground := Ground.phase }], guard := none }) rfl (fun K hK => ?_) AllReadyH.nil
        obtain ⟨⟨q8, q0, q1⟩, f0, f1⟩ := id RR
        go_simp
        refine hK.out _ _ ?_ (fun hHeld => ?_)
        · first | exact CK.out _ ((bb.setCell hB0 _).setCell hB0 _) | exact CK.out _ (keepB bb0 (alloc_below _ _))
        clear hK K
        refine wpAnyH_done (by kernel_rfl) ?_ _
        go_wp2_with fail
        go_meet
        first
          | exact ⟨_, rfl, ((RR.set0 _).set1 _).two, (bb.setCell hB0 _).setCell hB0 _⟩
          | exact ⟨_, rfl, Two.new _ _ _ _, keepB bb0 (alloc_below _ _)⟩
    · go_simp
      have RR := (Own2.new w2 (.int .i64 0) (.string ⟨#[]⟩) 28).keep (Below.refl _ _).drew
      have hB0 := bb.size
      refine hK.out _ _ ?_ (fun hHeld => ?_)
      · exact CK.out _ (alloc_below _ _).drew
      clear hK K
      replace bb := (alloc_below w2 (.cells #[.int .i64 0, .string ⟨#[]⟩] 28)).drew
      try simp only [Act.put, List.setIfInBounds_toArray, List.set_cons_zero, List.set_cons_succ]
      refine wpAnyH_ready (rs := [1]) (by kernel_rfl) (by simp) ?_
      refine AllReadyH.cons (o := { dst := some 21, op := Op.call { callee := Callee.value (Operand.func 10), args := #[Operand.tmp 20], argTypes := #[24] }, type := 32, pos := "exact.go:3722", after := #[{ on := 0, ground := Ground.data }], guard := none }) rfl (fun K hK => ?_) AllReadyH.nil
      go_simp
      go_at_call 10; with_reducible refine (S1.out _ bb).mono ?_; rintro e v5 ⟨g5', rfl, bb', m5', hb5⟩
      try go_wp2_with fail
      refine hK.out _ _ ?_ (fun hHeld => ?_)
      · exact CK.out _ bb'
      clear hK K
      replace RR := RR.keep hb5
      clear bb hb5
      have bb := bb'
      clear bb'
      try simp only [Act.put, List.setIfInBounds_toArray, List.set_cons_zero, List.set_cons_succ]
      refine wpAnyH_ready (rs := [3]) (by kernel_rfl) (by simp) ?_
      refine AllReadyH.cons (o := { dst := some 23, op := Op.call { callee := Callee.value (Operand.func 18), args := #[Operand.tmp 22], argTypes := #[40] }, type := 43, pos := "exact.go:3722", after := #[{ on := 2, ground := Ground.data }, { on := 1, ground := Ground.chain }], guard := none }) rfl (fun K hK => ?_) AllReadyH.nil
      go_simp
      go_at_call 18; with_reducible refine (S2.out _ _ bb m5').mono ?_; rintro e v6 ⟨g6', g7', rfl, bb', m5', i6', i7', hb5⟩
      try go_wp2_with fail
      refine hK.out _ _ ?_ (fun hHeld => ?_)
      · exact CK.out _ bb'
      clear hK K
      replace RR := RR.keep hb5
      clear bb hb5
      have bb := bb'
      clear bb'
      try simp only [Act.put, List.setIfInBounds_toArray, List.set_cons_zero, List.set_cons_succ]
      refine wpAnyH_ready (rs := [4]) (by kernel_rfl) (by simp) ?_
      refine AllReadyH.cons (o := { dst := some 24, op := Op.call { callee := Callee.value (Operand.func 21), args := #[Operand.tmp 21, Operand.tmp 23], argTypes := #[32, 43] }, type := 28, pos := "exact.go:3722", after := #[{ on := 1, ground := Ground.data }, { on := 3, ground := Ground.data }, { on := 3, ground := Ground.chain }], guard := none }) rfl (fun K hK => ?_) AllReadyH.nil
      go_simp
      go_at_call 21; with_reducible refine (S3.out _ _ _ _ bb m5' i6' i7').mono ?_; rintro e v7 ⟨rfl, bb', hb5⟩
      try go_wp2_with fail
      refine hK.out _ _ ?_ (fun hHeld => ?_)
      · exact CK.out _ bb'
      clear hK K
      replace RR := RR.keep hb5
      clear bb hb5
      have bb := bb'
      clear bb'
      try simp only [Act.put, List.setIfInBounds_toArray, List.set_cons_zero, List.set_cons_succ]
      have bb0 := bb
      refine wpAnyH_ready (rs := [6]) (by kernel_rfl) (by simp) ?_
      refine AllReadyH.cons (o := { dst := none, op := Op.store 28 (Operand.tmp 6) (Operand.tmp 24), type := 0, pos := "exact.go:3722", after := #[{ on := 5, ground := Ground.data }, { on := 4, ground := Ground.data }, { on := 4, ground := Ground.chain }, { on := 0, ground := Ground.phase }, { on := 1, ground := Ground.phase }, { on := 2, ground := Ground.phase }, { on := 3, ground := Ground.phase }, { on := 4, ground := Ground.phase }, { on := 5, ground := Ground.phase }], guard := none }) rfl (fun K hK => ?_) AllReadyH.nil
      obtain ⟨⟨q8, q0, q1⟩, f0, f1⟩ := id RR
      go_simp
      refine hK.out _ _ ?_ (fun hHeld => ?_)
      · first | exact CK.out _ ((bb.setCell hB0 _).setCell hB0 _) | exact CK.out _ (keepB bb0 (alloc_below _ _))
      clear hK K
      refine wpAnyH_done (by kernel_rfl) ?_ _
      go_wp2_with fail
      go_meet
      first
        | exact ⟨_, rfl, ((RR.set0 _).set1 _).two, (bb.setCell hB0 _).setCell hB0 _⟩
        | exact ⟨_, rfl, Two.new _ _ _ _, keepB bb0 (alloc_below _ _)⟩
  case rest =>
    rename World => w3
    obtain ⟨B0, rfl, x, hb⟩ := hcut
    replace D0 := hidden (D0.out.keep hb)
    replace B := hidden (keepB B.out hb)
    replace D1 := hidden (D1.out.keep hb)
    replace H := hidden (H.out.keep hb)
    replace H1 := hidden (H1.out.keep hb)
    replace H2 := hidden (H2.out.keep hb)
    have R0 := hidden (x)
    clear d0 e0 e1 hb S1 S2 S3 CK x
    have d0 := D0.out.c0
    go_wp2_with fail
    with_reducible refine (toSig_new p n c N A _ H.out HK.out).mono ?_
    rintro e w4 ⟨g4, rfl, hg, hl, hs, hb⟩
    replace hb := keepB hb (alloc_below _ (.cells #[.slice (some ⟨g4, 0, none⟩) n n] 32))
    replace D0 := hidden (D0.out.keep hb)
    replace B := hidden (keepB B.out hb)
    replace D1 := hidden (D1.out.keep hb)
    replace H := hidden (H.out.keep hb)
    replace H1 := hidden (H1.out.keep hb)
    replace H2 := hidden (H2.out.keep hb)
    replace R0 := hidden (R0.out.keep hb)
    clear d0 hb hg hl
    have Q := hidden (hs.keep (alloc_below _ (.cells #[.slice (some ⟨g4, 0, none⟩) n n] 32)))
    clear hs
    have X := hidden (One.new w4 (.slice (some ⟨g4, 0, none⟩) n n) 32)
    have e0 := D1.out.c0
    have e1 := D1.out.c1
    go_wp2_with fail
    with_reducible refine (toEquation_src p1 m1 c1 L1 p2 m2 c2 L2 _ H1.out H2.out M1.out M2.out).mono ?_
    rintro e w5 ⟨ga5, gb5, rfl, hg, hl, hs1, hs2, hb⟩
    replace hb := keepB hb (alloc_below _ (.cells #[.slice (some ⟨ga5, 0, none⟩) m1 m1, .slice (some ⟨gb5, 0, none⟩) m2 m2] 43))
    replace D0 := hidden (D0.out.keep hb)
    replace B := hidden (keepB B.out hb)
    replace D1 := hidden (D1.out.keep hb)
    replace H := hidden (H.out.keep hb)
    replace H1 := hidden (H1.out.keep hb)
    replace H2 := hidden (H2.out.keep hb)
    replace R0 := hidden (R0.out.keep hb)
    replace Q := hidden (Q.out.keep hb)
    replace X := hidden (X.out.keep hb)
    clear e0 e1 hb hg hl
    have Q1 := hidden (hs1.ints.keep (alloc_below _ (.cells #[.slice (some ⟨ga5, 0, none⟩) m1 m1, .slice (some ⟨gb5, 0, none⟩) m2 m2] 43)))
    have Q2 := hidden (hs2.ints.keep (alloc_below _ (.cells #[.slice (some ⟨ga5, 0, none⟩) m1 m1, .slice (some ⟨gb5, 0, none⟩) m2 m2] 43)))
    clear hs1 hs2
    have Y := hidden (Two.new w5 (.slice (some ⟨ga5, 0, none⟩) m1 m1) (.slice (some ⟨gb5, 0, none⟩) m2 m2) 43)
    have x0 := X.out.c0
    have y0 := Y.out.c0
    have y1 := Y.out.c1
    go_wp2_with fail
    with_reducible refine (implEqT_any _ _ _ _ _ _ _ _ _ _ _ _ N A L1 L2 _ Q.out Q1.out Q2.out HK.out M1.out M2.out (Nat.le_refl _) (Nat.le_refl _)).mono ?_
    rw [HS0.out, HS1.out]
    rintro e w6 ⟨rfl, hb⟩
    replace hb := keepB hb (alloc_below _ (.cells #[.int .i64 S, .string U] 28))
    replace D0 := hidden (D0.out.keep hb)
    replace B := hidden (keepB B.out hb)
    replace D1 := hidden (D1.out.keep hb)
    replace H := hidden (H.out.keep hb)
    replace H1 := hidden (H1.out.keep hb)
    replace H2 := hidden (H2.out.keep hb)
    replace R0 := hidden (R0.out.keep hb)
    replace Q := hidden (Q.out.keep hb)
    replace X := hidden (X.out.keep hb)
    replace Q1 := hidden (Q1.out.keep hb)
    replace Q2 := hidden (Q2.out.keep hb)
    replace Y := hidden (Y.out.keep hb)
    clear x0 y0 y1 hb
    have R1 := hidden (Two.new w6 (.int .i64 S) (.string U) 28)
    have r0 := R0.out.c0
    have r1 := R0.out.c1
    have r2 := R1.out.c0
    have r3 := R1.out.c1
    go_wp2_with fail
    with_reducible refine (eqText_eq _ _ _).mono ?_
    rintro e w7 ⟨rfl, hb⟩
    replace D0 := hidden (D0.out.keep hb)
    replace B := hidden (keepB B.out hb)
    replace D1 := hidden (D1.out.keep hb)
    replace H := hidden (H.out.keep hb)
    replace H1 := hidden (H1.out.keep hb)
    replace H2 := hidden (H2.out.keep hb)
    replace R0 := hidden (R0.out.keep hb)
    replace Q := hidden (Q.out.keep hb)
    replace X := hidden (X.out.keep hb)
    replace Q1 := hidden (Q1.out.keep hb)
    replace Q2 := hidden (Q2.out.keep hb)
    replace Y := hidden (Y.out.keep hb)
    replace R1 := hidden (R1.out.keep hb)
    clear r0 r1 r2 r3 hb
    clear R0 R1
    have S1 := hidden (show ∀ wc, Below w7.heap.size w7 wc → Calls Try.prog 10 #[.agg #[.slice p n c]] wc fun e w' => ∃ g, e = .returned (.agg #[.slice (some ⟨g, 0, none⟩) n n]) ∧ Below w7.heap.size w7 w' ∧ Syms w' g 0 n N A ∧ w'.cell? ⟨w4.heap.size, 0, none⟩ = some (.slice (some ⟨g4, 0, none⟩) n n) from fun wc hc => by
      refine (toSig_new p n c N A wc (H.out.keep hc) HK.out).mono ?_
      rintro e w' ⟨g, rfl, hg, hl, hs, hb⟩
      exact ⟨g, rfl, keepB hc hb, hs, (X.out.keep (keepB hc hb)).c0⟩)
    have S2 := hidden (show ∀ wc g, Below w7.heap.size w7 wc → Syms wc g 0 n N A → Calls Try.prog 14 #[.agg #[.slice (some ⟨g4, 0, none⟩) n n], .agg #[.slice (some ⟨g, 0, none⟩) n n]] wc fun e w' => e = .returned (.bool true) ∧ Below w7.heap.size w7 w' from fun wc g hc hm => by
      refine (eqSignature_eq g4 0 g 0 n n n N A wc (Q.out.keep hc) hm HK.out.most).mono ?_
      rintro e w' ⟨rfl, hb⟩
      exact ⟨rfl, keepB hc hb⟩)
    have x0 := X.out.c0
    have d0 := D0.out.c0
    go_wp2_with fail
    go_cut [40] (fun t wc => t = .bool false ∧ Below w7.heap.size w7 wc)
    case first =>
      go_region_with (first
        | (go_at_call 10; with_reducible refine (S1.out _ ?_).mono ?_; exact (Below.refl _ _).drew; rintro e v5 ⟨g5', rfl, b5', m5', d5'⟩)
        | (go_at_call 14; with_reducible refine (S2.out _ _ b5' m5').mono ?_; rintro e v6 ⟨rfl, b6'⟩))
      all_goals (go_wp2_with fail; go_meet)
      all_goals exact ⟨rfl, b6'⟩
    case rest =>
      rename World => w8
      obtain ⟨rfl, hb⟩ := hcut
      replace D0 := hidden (D0.out.keep hb)
      replace B := hidden (keepB B.out hb)
      replace D1 := hidden (D1.out.keep hb)
      replace H := hidden (H.out.keep hb)
      replace H1 := hidden (H1.out.keep hb)
      replace H2 := hidden (H2.out.keep hb)
      replace Q := hidden (Q.out.keep hb)
      replace X := hidden (X.out.keep hb)
      replace Q1 := hidden (Q1.out.keep hb)
      replace Q2 := hidden (Q2.out.keep hb)
      replace Y := hidden (Y.out.keep hb)
      clear x0 d0 hb S1 S2
      have S1 := hidden (show ∀ wc, Below w8.heap.size w8 wc → Calls Try.prog 18 #[.agg #[.slice p1 m1 c1, .slice p2 m2 c2]] wc fun e w' => ∃ h1 h2, e = .returned (.agg #[.slice (some ⟨h1, 0, none⟩) m1 m1, .slice (some ⟨h2, 0, none⟩) m2 m2]) ∧ Below w8.heap.size w8 w' ∧ Ints w' h1 0 m1 L1 ∧ Ints w' h2 0 m2 L2 ∧ w'.cell? ⟨w5.heap.size, 0, none⟩ = some (.slice (some ⟨ga5, 0, none⟩) m1 m1) ∧ w'.cell? ⟨w5.heap.size, 1, none⟩ = some (.slice (some ⟨gb5, 0, none⟩) m2 m2) from fun wc hc => by
        refine (toEquation_src p1 m1 c1 L1 p2 m2 c2 L2 wc (H1.out.keep hc) (H2.out.keep hc) M1.out M2.out).mono ?_
        rintro e w' ⟨h1, h2, rfl, hg, hl, hs1, hs2, hb⟩
        exact ⟨h1, h2, rfl, keepB hc hb, hs1.ints, hs2.ints, (Y.out.keep (keepB hc hb)).c0, (Y.out.keep (keepB hc hb)).c1⟩)
      have S2 := hidden (show ∀ wc h1 h2, Below w8.heap.size w8 wc → Ints wc h1 0 m1 L1 → Ints wc h2 0 m2 L2 → Calls Try.prog 20 #[.agg #[.slice (some ⟨ga5, 0, none⟩) m1 m1, .slice (some ⟨gb5, 0, none⟩) m2 m2], .agg #[.slice (some ⟨h1, 0, none⟩) m1 m1, .slice (some ⟨h2, 0, none⟩) m2 m2]] wc fun e w' => e = .returned (.bool true) ∧ Below w8.heap.size w8 w' from fun wc h1 h2 hc hm1 hm2 => by
        refine (eqEquation_eq _ _ _ _ _ _ _ _ _ _ _ _ _ _ L1 L2 wc (Q1.out.keep hc) (Q2.out.keep hc) hm1 hm2 M1.out M2.out).mono ?_
        rintro e w' ⟨rfl, hb⟩
        exact ⟨rfl, keepB hc hb⟩)
      have x0 := Y.out.c0
      have x1 := Y.out.c1
      have e0 := D1.out.c0
      have e1 := D1.out.c1
      go_wp2_with fail
      go_cut [45] (fun t wc => t = .bool false ∧ Below w8.heap.size w8 wc)
      case first =>
        go_region_with (first
          | (go_at_call 18; with_reducible refine (S1.out _ ?_).mono ?_; exact (Below.refl _ _).drew; rintro e v5 ⟨g5', g6', rfl, b5', m5', m6', d5', d6'⟩)
          | (go_at_call 20; with_reducible refine (S2.out _ _ _ b5' m5' m6').mono ?_; rintro e v6 ⟨rfl, b6'⟩))
        all_goals (go_wp2_with fail; go_meet)
        all_goals exact ⟨rfl, b6'⟩
      case rest =>
        rename World => w9
        obtain ⟨rfl, hb⟩ := hcut
        replace D0 := hidden (D0.out.keep hb)
        replace B := hidden (keepB B.out hb)
        replace D1 := hidden (D1.out.keep hb)
        replace H := hidden (H.out.keep hb)
        replace H1 := hidden (H1.out.keep hb)
        replace H2 := hidden (H2.out.keep hb)
        replace Q := hidden (Q.out.keep hb)
        replace X := hidden (X.out.keep hb)
        replace Q1 := hidden (Q1.out.keep hb)
        replace Q2 := hidden (Q2.out.keep hb)
        replace Y := hidden (Y.out.keep hb)
        clear x0 x1 e0 e1 hb S1 S2
        go_wp2_with fail
        go_ret
        exact ⟨rfl, B.out⟩

end Go.Proofs.Ytkaoafdemckagaa
