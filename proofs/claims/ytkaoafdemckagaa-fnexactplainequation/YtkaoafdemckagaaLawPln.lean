/- Law FnExactPlainEquation: at every signature and equation the program's PlainEquation answers as the model's; its answer owns its memory, and both are left as they were. -/
import Derived.Test.YtkaoafdemckagaaPlnR
namespace Go.Proofs.Ytkaoafdemckagaa
open Go.RowKit

set_option maxRecDepth 20000 in
set_option maxHeartbeats 12800000 in
theorem law_plain_ok (p : Option Addr) (n c : Nat) (N : Nat → ByteArray) (A : Nat → Int) (p1 : Option Addr) (m1 c1 : Nat) (L1 : Nat → Int) (p2 : Option Addr) (m2 c2 : Nat) (L2 : Nat → Int) (C : Int) (U1 U2 : Nat → Int) (hc : C = 0) (w : World) (h : SrcS w p n N A) (h1 : SrcI w p1 m1 L1) (h2 : SrcI w p2 m2 L2) (hx1 : m1 ≤ maxLen) (hx2 : m2 ≤ maxLen)
    (SP : Hid (∀ b b1 b2 w, Syms w b 0 n N A → Ints w b1 0 m1 L1 → Ints w b2 0 m2 L2 → Kept n N A → m1 ≤ 1048576 → m2 ≤ 1048576 → Calls Try.prog 23 #[.agg #[.slice (some ⟨b, 0, none⟩) n n], .agg #[.slice (some ⟨b1, 0, none⟩) m1 m1, .slice (some ⟨b2, 0, none⟩) m2 m2]] w fun e w' => PAns w C m1 U1 m2 U2 e w' ∧ Below w.heap.size w w'))
    (IM : Hid (∀ b b1 b2 w, Syms w b 0 n N A → Ints w b1 0 m1 L1 → Ints w b2 0 m2 L2 → Kept n N A → m1 ≤ 1048576 → m2 ≤ 1048576 → Calls Try.prog 24 #[.agg #[.slice (some ⟨b, 0, none⟩) n n], .agg #[.slice (some ⟨b1, 0, none⟩) m1 m1, .slice (some ⟨b2, 0, none⟩) m2 m2]] w fun e w' => PAns w C m1 U1 m2 U2 e w' ∧ Below w.heap.size w w')) :
    Calls Try.prog 6 #[.agg #[.slice p n c], .agg #[.slice p1 m1 c1, .slice p2 m2 c2]] w fun e w' => e = .returned (.bool true) ∧ Below w.heap.size w w' := by
  have H0 := hidden h
  have K1 := hidden h1
  have K2 := hidden h2
  have X1 := hidden hx1
  have X2 := hidden hx2
  clear h h1 h2 hx1 hx2
  subst hc
  have D0 := hidden (One.new w (.slice p n c) 24)
  have B := hidden (alloc_below w (.cells #[.slice p n c] 24))
  have hb := alloc_below (w.alloc (.cells #[.slice p n c] 24)) (.cells #[.slice p1 m1 c1, .slice p2 m2 c2] 40)
  replace D0 := hidden (D0.out.keep hb)
  replace B := hidden (keepB B.out hb)
  clear hb
  have D1 := hidden (Two.new (w.alloc (.cells #[.slice p n c] 24)) (.slice p1 m1 c1) (.slice p2 m2 c2) 40)
  simp only [World.size_alloc] at D1
  have H := hidden (H0.out.keep B.out)
  have H1 := hidden (K1.out.keep B.out)
  have H2 := hidden (K2.out.keep B.out)
  go_enter Try.func6, Try.ntmps6
  go_wp2_with fail
  with_reducible refine (szSignature_src p n c N A 1048576 _ H.out (by omega) (by omega)).mono ?_
  rintro e w1 ⟨⟨r1, rfl, hr⟩, hb⟩
  replace D0 := hidden (D0.out.keep hb)
  replace B := hidden (keepB B.out hb)
  replace D1 := hidden (D1.out.keep hb)
  replace H := hidden (H.out.keep hb)
  replace H1 := hidden (H1.out.keep hb)
  replace H2 := hidden (H2.out.keep hb)
  clear hb
  rcases hr with rfl | ⟨q0, q1, q2, q3⟩
  · go_wp2_with fail
    go_ret
    exact ⟨rfl, B.out⟩
  have HK := hidden (Kept.mk q2 q3 H.out.fits)
  clear q2 q3
  have e0 := D1.out.c0
  have e1 := D1.out.c1
  go_wp2_with fail
  with_reducible refine (szEquation_any p1 m1 c1 p2 m2 c2 _ _ X1.out X2.out q0 q1).mono ?_
  rintro e w2 ⟨⟨r2, rfl, hr⟩, hb⟩
  replace D0 := hidden (D0.out.keep hb)
  replace B := hidden (keepB B.out hb)
  replace D1 := hidden (D1.out.keep hb)
  replace H := hidden (H.out.keep hb)
  replace H1 := hidden (H1.out.keep hb)
  replace H2 := hidden (H2.out.keep hb)
  clear e0 e1 hb q0 q1
  rcases hr with rfl | ⟨q0, q1, q2, q3⟩
  · go_wp2_with fail
    go_ret
    exact ⟨rfl, B.out⟩
  have M1 := hidden q2
  have M2 := hidden q3
  clear q1 q2 q3
  have CK := hidden (show ∀ w', Below w2.heap.size w2 w' → (w'.cell? ⟨w.heap.size, 0, none⟩ = some (.slice p n c) ∧ w'.cell? ⟨w.heap.size + 1, 0, none⟩ = some (.slice p1 m1 c1) ∧ w'.cell? ⟨w.heap.size + 1, 1, none⟩ = some (.slice p2 m2 c2)) from fun w' hb => ⟨(D0.out.keep hb).c0, (D1.out.keep hb).c0, (D1.out.keep hb).c1⟩)
  have S1 := hidden (show ∀ wc, Below w2.heap.size w2 wc → Calls Try.prog 10 #[.agg #[.slice p n c]] wc fun e w' => ∃ g, e = .returned (.agg #[.slice (some ⟨g, 0, none⟩) n n]) ∧ Below w2.heap.size w2 w' ∧ Syms w' g 0 n N A ∧ Below wc.heap.size wc w' from fun wc hc => by
    refine (toSig_new p n c N A wc (H.out.keep hc) HK.out).mono ?_
    rintro e w' ⟨g, rfl, hg, hl, hs, hb⟩
    exact ⟨g, rfl, keepB hc hb, hs, hb⟩)
  have S2 := hidden (show ∀ wc g, Below w2.heap.size w2 wc → Syms wc g 0 n N A → Calls Try.prog 18 #[.agg #[.slice p1 m1 c1, .slice p2 m2 c2]] wc fun e w' => ∃ g1 g2, e = .returned (.agg #[.slice (some ⟨g1, 0, none⟩) m1 m1, .slice (some ⟨g2, 0, none⟩) m2 m2]) ∧ Below w2.heap.size w2 w' ∧ Syms w' g 0 n N A ∧ Ints w' g1 0 m1 L1 ∧ Ints w' g2 0 m2 L2 ∧ Below wc.heap.size wc w' from fun wc g hc hm => by
    refine (toEquation_src p1 m1 c1 L1 p2 m2 c2 L2 wc (H1.out.keep hc) (H2.out.keep hc) M1.out M2.out).mono ?_
    rintro e w' ⟨g1, g2, rfl, hg, hl, hs1, hs2, hb⟩
    exact ⟨g1, g2, rfl, keepB hc hb, hm.keep hb, hs1.ints, hs2.ints, hb⟩)
  have S3 := hidden (show ∀ wc g g1 g2, Below w2.heap.size w2 wc → Syms wc g 0 n N A → Ints wc g1 0 m1 L1 → Ints wc g2 0 m2 L2 → Calls Try.prog 23 #[.agg #[.slice (some ⟨g, 0, none⟩) n n], .agg #[.slice (some ⟨g1, 0, none⟩) m1 m1, .slice (some ⟨g2, 0, none⟩) m2 m2]] wc fun e w' => (∃ ga da gb db, e = .returned (.agg #[.int .i64 0, .slice (some ⟨ga, 0, none⟩) m1 da, .slice (some ⟨gb, 0, none⟩) m2 db]) ∧ wc.heap.size ≤ ga ∧ ga < gb ∧ Hid (OwnI w' wc.heap.size ga m1 da U1 m1 ∧ OwnI w' wc.heap.size gb m2 db U2 m2)) ∧ Below w2.heap.size w2 w' ∧ Below wc.heap.size wc w' from fun wc g g1 g2 hc hm hm1 hm2 => by
    refine (SP.out g g1 g2 wc hm hm1 hm2 HK.out M1.out M2.out).mono ?_
    rintro e w' ⟨ha, hb⟩
    rcases ha with ⟨ha, -⟩ | ⟨-, ga, da, gb, db, rfl, hg, hl, ho1, ho2⟩
    · exact absurd rfl ha
    exact ⟨⟨ga, da, gb, db, rfl, hg, hl, hidden ⟨ho1, ho2⟩⟩, keepB hc hb, hb⟩)
  have d0 := D0.out.c0
  have e0 := D1.out.c0
  have e1 := D1.out.c1
  go_wp2_with fail
  go_cut [6] (fun t wc => ∃ B0 ga da gb db BB, t = .pointer (some ⟨B0, 0, none⟩) ∧ Hid (Three wc B0 (.int .i64 0) (.slice (some ⟨ga, 0, none⟩) m1 da) (.slice (some ⟨gb, 0, none⟩) m2 db)) ∧ Hid (OwnI wc BB ga m1 da U1 m1 ∧ OwnI wc BB gb m2 db U2 m2) ∧ Below w2.heap.size w2 wc)
  case first =>
    refine wp_region_held_drew (S := fun wz => wz.cell? ⟨w.heap.size, 0, none⟩ = some (.slice p n c) ∧ wz.cell? ⟨w.heap.size + 1, 0, none⟩ = some (.slice p1 m1 c1) ∧ wz.cell? ⟨w.heap.size + 1, 1, none⟩ = some (.slice p2 m2 c2)) (by kernel_rfl) ⟨d0, e0, e1⟩ (fun hHeld => ?_)
    have bb := (Below.refl w2.heap.size w2).drew
    refine wpAnyH_take (i := 0) (oi := { dst := some 24, op := Op.load 24 (Operand.tmp 2), type := 24, pos := "exact.go:3798", after := #[], guard := none }) (v := ?_) rfl (by kernel_rfl) (by kernel_rfl) (by kernel_rfl) (fun _ _ _ h => h) (Or.inl ⟨by rfl, ?_⟩) (by assumption) ?_
    rotate_left
    · (intro wv hSw; (try dsimp only at hSw); go_simp; try with_reducible rfl)
    try simp only [Act.put, List.setIfInBounds_toArray, List.set_cons_zero, List.set_cons_succ]
    refine wpAnyH_take (i := 2) (oi := { dst := some 26, op := Op.load 40 (Operand.tmp 3), type := 40, pos := "exact.go:3798", after := #[], guard := none }) (v := ?_) rfl (by kernel_rfl) (by kernel_rfl) (by kernel_rfl) (fun _ _ _ h => h) (Or.inl ⟨by rfl, ?_⟩) (by assumption) ?_
    rotate_left
    · (intro wv hSw; (try dsimp only at hSw); go_simp; try with_reducible rfl)
    try simp only [Act.put, List.setIfInBounds_toArray, List.set_cons_zero, List.set_cons_succ]
    refine wpAnyH_ready (rs := [1, 5]) (by kernel_rfl) (by simp) ?_
    refine AllReadyH.cons (o := { dst := some 25, op := Op.call { callee := Callee.value (Operand.func 10), args := #[Operand.tmp 24], argTypes := #[24] }, type := 32, pos := "exact.go:3798", after := #[{ on := 0, ground := Ground.data }], guard := none }) rfl (fun K hK => ?_) (AllReadyH.cons (o := { dst := some 6, op := Op.alloc 49, type := 0, pos := "exact.go:3798", after := #[], guard := none }) rfl (fun K hK => ?_) AllReadyH.nil)
    · go_simp
      go_at_call 10; with_reducible refine (S1.out _ bb).mono ?_; rintro e v5 ⟨g5', rfl, bb', m5', hb5⟩
      try go_wp2_with fail
      refine hK.out _ _ ?_ (fun hHeld => ?_)
      · exact CK.out _ bb'
      clear hK K
      clear bb hb5
      have bb := bb'
      clear bb'
      try simp only [Act.put, List.setIfInBounds_toArray, List.set_cons_zero, List.set_cons_succ]
      refine wpAnyH_ready (rs := [3, 5]) (by kernel_rfl) (by simp) ?_
      refine AllReadyH.cons (o := { dst := some 27, op := Op.call { callee := Callee.value (Operand.func 18), args := #[Operand.tmp 26], argTypes := #[40] }, type := 43, pos := "exact.go:3798", after := #[{ on := 2, ground := Ground.data }, { on := 1, ground := Ground.chain }], guard := none }) rfl (fun K hK => ?_) (AllReadyH.cons (o := { dst := some 6, op := Op.alloc 49, type := 0, pos := "exact.go:3798", after := #[], guard := none }) rfl (fun K hK => ?_) AllReadyH.nil)
      · go_simp
        go_at_call 18; with_reducible refine (S2.out _ _ bb m5').mono ?_; rintro e v6 ⟨g6', g7', rfl, bb', m5', i6', i7', hb5⟩
        try go_wp2_with fail
        refine hK.out _ _ ?_ (fun hHeld => ?_)
        · exact CK.out _ bb'
        clear hK K
        clear bb hb5
        have bb := bb'
        clear bb'
        try simp only [Act.put, List.setIfInBounds_toArray, List.set_cons_zero, List.set_cons_succ]
        refine wpAnyH_ready (rs := [4, 5]) (by kernel_rfl) (by simp) ?_
        refine AllReadyH.cons (o := { dst := some 28, op := Op.call { callee := Callee.value (Operand.func 23), args := #[Operand.tmp 25, Operand.tmp 27], argTypes := #[32, 43] }, type := 49, pos := "exact.go:3798", after := #[{ on := 1, ground := Ground.data }, { on := 3, ground := Ground.data }, { on := 3, ground := Ground.chain }], guard := none }) rfl (fun K hK => ?_) (AllReadyH.cons (o := { dst := some 6, op := Op.alloc 49, type := 0, pos := "exact.go:3798", after := #[], guard := none }) rfl (fun K hK => ?_) AllReadyH.nil)
        · go_simp
          go_at_call 23; with_reducible refine (S3.out _ _ _ _ bb m5' i6' i7').mono ?_; rintro e v7 ⟨⟨ga', da', gb', db', rfl, hga, hgl, oo'⟩, bb', hb5⟩
          try go_wp2_with fail
          refine hK.out _ _ ?_ (fun hHeld => ?_)
          · exact CK.out _ bb'
          clear hK K
          have oo0 := oo'
          clear bb hb5
          have bb := bb'
          clear bb'
          try simp only [Act.put, List.setIfInBounds_toArray, List.set_cons_zero, List.set_cons_succ]
          have bb0 := bb
          refine wpAnyH_ready (rs := [5]) (by kernel_rfl) (by simp) ?_
          refine AllReadyH.cons (o := { dst := some 6, op := Op.alloc 49, type := 0, pos := "exact.go:3798", after := #[], guard := none }) rfl (fun K hK => ?_) AllReadyH.nil
          go_simp
          have RR := Own3.new v7 (.int .i64 0) (.slice none 0 0) (.slice none 0 0) 49
          have hB0 := bb.size
          refine hK.out _ _ ?_ (fun hHeld => ?_)
          · exact CK.out _ (keepB bb (alloc_below _ _))
          clear hK K
          replace bb := keepB bb (alloc_below _ (.cells #[.int .i64 0, .slice none 0 0, .slice none 0 0] 49))
          replace m5' := m5'.keep (alloc_below _ (.cells #[.int .i64 0, .slice none 0 0, .slice none 0 0] 49))
          replace i6' := i6'.keep (alloc_below _ (.cells #[.int .i64 0, .slice none 0 0, .slice none 0 0] 49))
          replace i7' := i7'.keep (alloc_below _ (.cells #[.int .i64 0, .slice none 0 0, .slice none 0 0] 49))
          replace oo' := hidden (And.intro (oo'.out.1.keep (alloc_below _ (.cells #[.int .i64 0, .slice none 0 0, .slice none 0 0] 49))) (oo'.out.2.keep (alloc_below _ (.cells #[.int .i64 0, .slice none 0 0, .slice none 0 0] 49))))
          try simp only [Act.put, List.setIfInBounds_toArray, List.set_cons_zero, List.set_cons_succ]
          refine wpAnyH_ready (rs := [6]) (by kernel_rfl) (by simp) ?_
          refine AllReadyH.cons (o := { dst := none, op := Op.store 49 (Operand.tmp 6) (Operand.tmp 28), type := 0, pos := "exact.go:3798", after := #[{ on := 5, ground := Ground.data }, { on := 4, ground := Ground.data }, { on := 4, ground := Ground.chain }, { on := 0, ground := Ground.phase }, { on := 1, ground := Ground.phase }, { on := 2, ground := Ground.phase }, { on := 3, ground := Ground.phase }, { on := 4, ground := Ground.phase }, { on := 5, ground := Ground.phase }], guard := none }) rfl (fun K hK => ?_) AllReadyH.nil
          obtain ⟨q8, q0, q1, q2, f0, f1, f2⟩ := id RR
          go_simp
          refine hK.out _ _ ?_ (fun hHeld => ?_)
          · first | exact CK.out _ (((bb.setCell hB0 _).setCell hB0 _).setCell hB0 _) | exact CK.out _ (keepB bb0 (alloc_below _ _))
          clear hK K
          refine wpAnyH_done (by kernel_rfl) ?_ _
          go_wp2_with fail
          go_meet
          first
            | exact ⟨_, ga', da', gb', db', _, rfl, hidden (RR.sets _ _ _), hidden ⟨oo'.out.1.other3 _ _ _ _ (Nat.ne_of_gt hne), oo'.out.2.other3 _ _ _ _ (Nat.ne_of_gt (Nat.lt_trans hne hgl))⟩, ((bb.setCell hB0 _).setCell hB0 _).setCell hB0 _⟩
            | exact ⟨_, ga', da', gb', db', _, rfl, hidden (Three.new _ _ _ _ _), hidden ⟨oo0.out.1.keep (alloc_below _ _), oo0.out.2.keep (alloc_below _ _)⟩, keepB bb0 (alloc_below _ _)⟩
        · go_simp
          have RR := Own3.new v6 (.int .i64 0) (.slice none 0 0) (.slice none 0 0) 49
          have hB0 := bb.size
          refine hK.out _ _ ?_ (fun hHeld => ?_)
          · exact CK.out _ (keepB bb (alloc_below _ _))
          clear hK K
          replace bb := keepB bb (alloc_below _ (.cells #[.int .i64 0, .slice none 0 0, .slice none 0 0] 49))
          replace m5' := m5'.keep (alloc_below _ (.cells #[.int .i64 0, .slice none 0 0, .slice none 0 0] 49))
          replace i6' := i6'.keep (alloc_below _ (.cells #[.int .i64 0, .slice none 0 0, .slice none 0 0] 49))
          replace i7' := i7'.keep (alloc_below _ (.cells #[.int .i64 0, .slice none 0 0, .slice none 0 0] 49))
          try simp only [Act.put, List.setIfInBounds_toArray, List.set_cons_zero, List.set_cons_succ]
          refine wpAnyH_ready (rs := [4]) (by kernel_rfl) (by simp) ?_
          refine AllReadyH.cons (o := { dst := some 28, op := Op.call { callee := Callee.value (Operand.func 23), args := #[Operand.tmp 25, Operand.tmp 27], argTypes := #[32, 43] }, type := 49, pos := "exact.go:3798", after := #[{ on := 1, ground := Ground.data }, { on := 3, ground := Ground.data }, { on := 3, ground := Ground.chain }], guard := none }) rfl (fun K hK => ?_) AllReadyH.nil
          go_simp
          go_at_call 23; with_reducible refine (S3.out _ _ _ _ bb m5' i6' i7').mono ?_; rintro e v7 ⟨⟨ga', da', gb', db', rfl, hga, hgl, oo'⟩, bb', hb5⟩
          try go_wp2_with fail
          refine hK.out _ _ ?_ (fun hHeld => ?_)
          · exact CK.out _ bb'
          clear hK K
          have hne := Nat.lt_of_lt_of_le RR.blk hga
          have oo0 := oo'
          replace RR := RR.keep hb5
          clear bb hb5
          have bb := bb'
          clear bb'
          try simp only [Act.put, List.setIfInBounds_toArray, List.set_cons_zero, List.set_cons_succ]
          have bb0 := bb
          refine wpAnyH_ready (rs := [6]) (by kernel_rfl) (by simp) ?_
          refine AllReadyH.cons (o := { dst := none, op := Op.store 49 (Operand.tmp 6) (Operand.tmp 28), type := 0, pos := "exact.go:3798", after := #[{ on := 5, ground := Ground.data }, { on := 4, ground := Ground.data }, { on := 4, ground := Ground.chain }, { on := 0, ground := Ground.phase }, { on := 1, ground := Ground.phase }, { on := 2, ground := Ground.phase }, { on := 3, ground := Ground.phase }, { on := 4, ground := Ground.phase }, { on := 5, ground := Ground.phase }], guard := none }) rfl (fun K hK => ?_) AllReadyH.nil
          obtain ⟨q8, q0, q1, q2, f0, f1, f2⟩ := id RR
          go_simp
          refine hK.out _ _ ?_ (fun hHeld => ?_)
          · first | exact CK.out _ (((bb.setCell hB0 _).setCell hB0 _).setCell hB0 _) | exact CK.out _ (keepB bb0 (alloc_below _ _))
          clear hK K
          refine wpAnyH_done (by kernel_rfl) ?_ _
          go_wp2_with fail
          go_meet
          first
            | exact ⟨_, ga', da', gb', db', _, rfl, hidden (RR.sets _ _ _), hidden ⟨oo'.out.1.other3 _ _ _ _ (Nat.ne_of_gt hne), oo'.out.2.other3 _ _ _ _ (Nat.ne_of_gt (Nat.lt_trans hne hgl))⟩, ((bb.setCell hB0 _).setCell hB0 _).setCell hB0 _⟩
            | exact ⟨_, ga', da', gb', db', _, rfl, hidden (Three.new _ _ _ _ _), hidden ⟨oo0.out.1.keep (alloc_below _ _), oo0.out.2.keep (alloc_below _ _)⟩, keepB bb0 (alloc_below _ _)⟩
      · go_simp
        have RR := Own3.new v5 (.int .i64 0) (.slice none 0 0) (.slice none 0 0) 49
        have hB0 := bb.size
        refine hK.out _ _ ?_ (fun hHeld => ?_)
        · exact CK.out _ (keepB bb (alloc_below _ _))
        clear hK K
        replace bb := keepB bb (alloc_below _ (.cells #[.int .i64 0, .slice none 0 0, .slice none 0 0] 49))
        replace m5' := m5'.keep (alloc_below _ (.cells #[.int .i64 0, .slice none 0 0, .slice none 0 0] 49))
        try simp only [Act.put, List.setIfInBounds_toArray, List.set_cons_zero, List.set_cons_succ]
        refine wpAnyH_ready (rs := [3]) (by kernel_rfl) (by simp) ?_
        refine AllReadyH.cons (o := { dst := some 27, op := Op.call { callee := Callee.value (Operand.func 18), args := #[Operand.tmp 26], argTypes := #[40] }, type := 43, pos := "exact.go:3798", after := #[{ on := 2, ground := Ground.data }, { on := 1, ground := Ground.chain }], guard := none }) rfl (fun K hK => ?_) AllReadyH.nil
        go_simp
        go_at_call 18; with_reducible refine (S2.out _ _ bb m5').mono ?_; rintro e v6 ⟨g6', g7', rfl, bb', m5', i6', i7', hb5⟩
        try go_wp2_with fail
        refine hK.out _ _ ?_ (fun hHeld => ?_)
        · exact CK.out _ bb'
        clear hK K
        replace RR := RR.keep hb5
        clear bb hb5
        have bb := bb'
        clear bb'
        try simp only [Act.put, List.setIfInBounds_toArray, List.set_cons_zero, List.set_cons_succ]
        refine wpAnyH_ready (rs := [4]) (by kernel_rfl) (by simp) ?_
        refine AllReadyH.cons (o := { dst := some 28, op := Op.call { callee := Callee.value (Operand.func 23), args := #[Operand.tmp 25, Operand.tmp 27], argTypes := #[32, 43] }, type := 49, pos := "exact.go:3798", after := #[{ on := 1, ground := Ground.data }, { on := 3, ground := Ground.data }, { on := 3, ground := Ground.chain }], guard := none }) rfl (fun K hK => ?_) AllReadyH.nil
        go_simp
        go_at_call 23; with_reducible refine (S3.out _ _ _ _ bb m5' i6' i7').mono ?_; rintro e v7 ⟨⟨ga', da', gb', db', rfl, hga, hgl, oo'⟩, bb', hb5⟩
        try go_wp2_with fail
        refine hK.out _ _ ?_ (fun hHeld => ?_)
        · exact CK.out _ bb'
        clear hK K
        have hne := Nat.lt_of_lt_of_le RR.blk hga
        have oo0 := oo'
        replace RR := RR.keep hb5
        clear bb hb5
        have bb := bb'
        clear bb'
        try simp only [Act.put, List.setIfInBounds_toArray, List.set_cons_zero, List.set_cons_succ]
        have bb0 := bb
        refine wpAnyH_ready (rs := [6]) (by kernel_rfl) (by simp) ?_
        refine AllReadyH.cons (o := { dst := none, op := Op.store 49 (Operand.tmp 6) (Operand.tmp 28), type := 0, pos := "exact.go:3798", after := #[{ on := 5, ground := Ground.data }, { on := 4, ground := Ground.data }, { on := 4, ground := Ground.chain }, { on := 0, ground := Ground.phase }, { on := 1, ground := Ground.phase }, { on := 2, ground := Ground.phase }, { on := 3, ground := Ground.phase }, { on := 4, ground := Ground.phase }, { on := 5, ground := Ground.phase }], guard := none }) rfl (fun K hK => ?_) AllReadyH.nil
        obtain ⟨q8, q0, q1, q2, f0, f1, f2⟩ := id RR
        go_simp
        refine hK.out _ _ ?_ (fun hHeld => ?_)
        · first | exact CK.out _ (((bb.setCell hB0 _).setCell hB0 _).setCell hB0 _) | exact CK.out _ (keepB bb0 (alloc_below _ _))
        clear hK K
        refine wpAnyH_done (by kernel_rfl) ?_ _
        go_wp2_with fail
        go_meet
        first
          | exact ⟨_, ga', da', gb', db', _, rfl, hidden (RR.sets _ _ _), hidden ⟨oo'.out.1.other3 _ _ _ _ (Nat.ne_of_gt hne), oo'.out.2.other3 _ _ _ _ (Nat.ne_of_gt (Nat.lt_trans hne hgl))⟩, ((bb.setCell hB0 _).setCell hB0 _).setCell hB0 _⟩
          | exact ⟨_, ga', da', gb', db', _, rfl, hidden (Three.new _ _ _ _ _), hidden ⟨oo0.out.1.keep (alloc_below _ _), oo0.out.2.keep (alloc_below _ _)⟩, keepB bb0 (alloc_below _ _)⟩
    · go_simp
      have RR := (Own3.new w2 (.int .i64 0) (.slice none 0 0) (.slice none 0 0) 49).keep (Below.refl _ _).drew
      have hB0 := bb.size
      refine hK.out _ _ ?_ (fun hHeld => ?_)
      · exact CK.out _ (alloc_below _ _).drew
      clear hK K
      replace bb := (alloc_below w2 (.cells #[.int .i64 0, .slice none 0 0, .slice none 0 0] 49)).drew
      try simp only [Act.put, List.setIfInBounds_toArray, List.set_cons_zero, List.set_cons_succ]
      refine wpAnyH_ready (rs := [1]) (by kernel_rfl) (by simp) ?_
      refine AllReadyH.cons (o := { dst := some 25, op := Op.call { callee := Callee.value (Operand.func 10), args := #[Operand.tmp 24], argTypes := #[24] }, type := 32, pos := "exact.go:3798", after := #[{ on := 0, ground := Ground.data }], guard := none }) rfl (fun K hK => ?_) AllReadyH.nil
      go_simp
      go_at_call 10; with_reducible refine (S1.out _ bb).mono ?_; rintro e v5 ⟨g5', rfl, bb', m5', hb5⟩
      try go_wp2_with fail
      refine hK.out _ _ ?_ (fun hHeld => ?_)
      · exact CK.out _ bb'
      clear hK K
      replace RR := RR.keep hb5
      clear bb hb5
      have bb := bb'
      clear bb'
      try simp only [Act.put, List.setIfInBounds_toArray, List.set_cons_zero, List.set_cons_succ]
      refine wpAnyH_ready (rs := [3]) (by kernel_rfl) (by simp) ?_
      refine AllReadyH.cons (o := { dst := some 27, op := Op.call { callee := Callee.value (Operand.func 18), args := #[Operand.tmp 26], argTypes := #[40] }, type := 43, pos := "exact.go:3798", after := #[{ on := 2, ground := Ground.data }, { on := 1, ground := Ground.chain }], guard := none }) rfl (fun K hK => ?_) AllReadyH.nil
      go_simp
      go_at_call 18; with_reducible refine (S2.out _ _ bb m5').mono ?_; rintro e v6 ⟨g6', g7', rfl, bb', m5', i6', i7', hb5⟩
      try go_wp2_with fail
      refine hK.out _ _ ?_ (fun hHeld => ?_)
      · exact CK.out _ bb'
      clear hK K
      replace RR := RR.keep hb5
      clear bb hb5
      have bb := bb'
      clear bb'
      try simp only [Act.put, List.setIfInBounds_toArray, List.set_cons_zero, List.set_cons_succ]
      refine wpAnyH_ready (rs := [4]) (by kernel_rfl) (by simp) ?_
      refine AllReadyH.cons (o := { dst := some 28, op := Op.call { callee := Callee.value (Operand.func 23), args := #[Operand.tmp 25, Operand.tmp 27], argTypes := #[32, 43] }, type := 49, pos := "exact.go:3798", after := #[{ on := 1, ground := Ground.data }, { on := 3, ground := Ground.data }, { on := 3, ground := Ground.chain }], guard := none }) rfl (fun K hK => ?_) AllReadyH.nil
      go_simp
      go_at_call 23; with_reducible refine (S3.out _ _ _ _ bb m5' i6' i7').mono ?_; rintro e v7 ⟨⟨ga', da', gb', db', rfl, hga, hgl, oo'⟩, bb', hb5⟩
      try go_wp2_with fail
      refine hK.out _ _ ?_ (fun hHeld => ?_)
      · exact CK.out _ bb'
      clear hK K
      have hne := Nat.lt_of_lt_of_le RR.blk hga
      have oo0 := oo'
      replace RR := RR.keep hb5
      clear bb hb5
      have bb := bb'
      clear bb'
      try simp only [Act.put, List.setIfInBounds_toArray, List.set_cons_zero, List.set_cons_succ]
      have bb0 := bb
      refine wpAnyH_ready (rs := [6]) (by kernel_rfl) (by simp) ?_
      refine AllReadyH.cons (o := { dst := none, op := Op.store 49 (Operand.tmp 6) (Operand.tmp 28), type := 0, pos := "exact.go:3798", after := #[{ on := 5, ground := Ground.data }, { on := 4, ground := Ground.data }, { on := 4, ground := Ground.chain }, { on := 0, ground := Ground.phase }, { on := 1, ground := Ground.phase }, { on := 2, ground := Ground.phase }, { on := 3, ground := Ground.phase }, { on := 4, ground := Ground.phase }, { on := 5, ground := Ground.phase }], guard := none }) rfl (fun K hK => ?_) AllReadyH.nil
      obtain ⟨q8, q0, q1, q2, f0, f1, f2⟩ := id RR
      go_simp
      refine hK.out _ _ ?_ (fun hHeld => ?_)
      · first | exact CK.out _ (((bb.setCell hB0 _).setCell hB0 _).setCell hB0 _) | exact CK.out _ (keepB bb0 (alloc_below _ _))
      clear hK K
      refine wpAnyH_done (by kernel_rfl) ?_ _
      go_wp2_with fail
      go_meet
      first
        | exact ⟨_, ga', da', gb', db', _, rfl, hidden (RR.sets _ _ _), hidden ⟨oo'.out.1.other3 _ _ _ _ (Nat.ne_of_gt hne), oo'.out.2.other3 _ _ _ _ (Nat.ne_of_gt (Nat.lt_trans hne hgl))⟩, ((bb.setCell hB0 _).setCell hB0 _).setCell hB0 _⟩
        | exact ⟨_, ga', da', gb', db', _, rfl, hidden (Three.new _ _ _ _ _), hidden ⟨oo0.out.1.keep (alloc_below _ _), oo0.out.2.keep (alloc_below _ _)⟩, keepB bb0 (alloc_below _ _)⟩
  case rest =>
    rename World => w3
    obtain ⟨R0b, aw, daw, bw, dbw, Bw, rfl, R0, x, hb⟩ := hcut
    replace D0 := hidden (D0.out.keep hb)
    replace B := hidden (keepB B.out hb)
    replace D1 := hidden (D1.out.keep hb)
    replace H := hidden (H.out.keep hb)
    replace H1 := hidden (H1.out.keep hb)
    replace H2 := hidden (H2.out.keep hb)
    have LA1 := hidden (x.out.1)
    have LA2 := hidden (x.out.2)
    clear d0 e0 e1 hb S1 S2 S3 CK x
    have d0 := D0.out.c0
    go_wp2_with fail
    have BSx := hidden B.out.size
    with_reducible refine (toSignature_src p n c N A _ H.out HK.out).mono ?_
    rintro e w4 ⟨gx, rfl, hgx, hs, hb⟩
    have L_D0_Q := hidden (Nat.lt_of_lt_of_le D0.out.blk hgx)
    have L_D1_Q := hidden (Nat.lt_of_lt_of_le D1.out.blk hgx)
    have L_R0_Q := hidden (Nat.lt_of_lt_of_le R0.out.blk hgx)
    have L_LA1_Q := hidden (Nat.lt_of_lt_of_le LA1.out.lt hgx)
    have L_LA2_Q := hidden (Nat.lt_of_lt_of_le LA2.out.lt hgx)
    replace D0 := hidden (D0.out.keep hb)
    replace B := hidden (keepB B.out hb)
    replace D1 := hidden (D1.out.keep hb)
    replace H := hidden (H.out.keep hb)
    replace H1 := hidden (H1.out.keep hb)
    replace H2 := hidden (H2.out.keep hb)
    replace R0 := hidden (R0.out.keep hb)
    replace LA1 := hidden (LA1.out.keep hb)
    replace LA2 := hidden (LA2.out.keep hb)
    have Q := hidden (hs)
    clear d0 hb
    have GX := hidden (Nat.le_trans BSx.out hgx)
    clear hs hgx BSx
    have L_Q_X := hidden (Nat.lt_of_lt_of_le Q.out.lt (Nat.le_refl _))
    have hb := alloc_below w4 (.cells #[.slice (some ⟨gx, 0, none⟩) n n] 32)
    replace D0 := hidden (D0.out.keep hb)
    replace B := hidden (keepB B.out hb)
    replace D1 := hidden (D1.out.keep hb)
    replace H := hidden (H.out.keep hb)
    replace H1 := hidden (H1.out.keep hb)
    replace H2 := hidden (H2.out.keep hb)
    replace R0 := hidden (R0.out.keep hb)
    replace LA1 := hidden (LA1.out.keep hb)
    replace LA2 := hidden (LA2.out.keep hb)
    replace Q := hidden (Q.out.keep hb)
    clear hb
    have X := hidden (One.new w4 (.slice (some ⟨gx, 0, none⟩) n n) 32)
    have BSx := hidden B.out.size
    have e0 := D1.out.c0
    have e1 := D1.out.c1
    go_wp2_with fail
    with_reducible refine (toEquation_src p1 m1 c1 L1 p2 m2 c2 L2 _ H1.out H2.out M1.out M2.out).mono ?_
    rintro e w5 ⟨gy, gz, rfl, hg, hl, hs1, hs2, hb⟩
    have L_D0_Q1 := hidden (Nat.lt_of_lt_of_le D0.out.blk hg)
    have L_D1_Q1 := hidden (Nat.lt_of_lt_of_le D1.out.blk hg)
    have L_R0_Q1 := hidden (Nat.lt_of_lt_of_le R0.out.blk hg)
    have L_LA1_Q1 := hidden (Nat.lt_of_lt_of_le LA1.out.lt hg)
    have L_LA2_Q1 := hidden (Nat.lt_of_lt_of_le LA2.out.lt hg)
    have L_Q_Q1 := hidden (Nat.lt_of_lt_of_le Q.out.lt hg)
    have L_X_Q1 := hidden (Nat.lt_of_lt_of_le X.out.blk hg)
    have L_D0_Q2 := hidden (Nat.lt_of_lt_of_le D0.out.blk (Nat.le_of_lt (Nat.lt_of_le_of_lt hg hl)))
    have L_D1_Q2 := hidden (Nat.lt_of_lt_of_le D1.out.blk (Nat.le_of_lt (Nat.lt_of_le_of_lt hg hl)))
    have L_R0_Q2 := hidden (Nat.lt_of_lt_of_le R0.out.blk (Nat.le_of_lt (Nat.lt_of_le_of_lt hg hl)))
    have L_LA1_Q2 := hidden (Nat.lt_of_lt_of_le LA1.out.lt (Nat.le_of_lt (Nat.lt_of_le_of_lt hg hl)))
    have L_LA2_Q2 := hidden (Nat.lt_of_lt_of_le LA2.out.lt (Nat.le_of_lt (Nat.lt_of_le_of_lt hg hl)))
    have L_Q_Q2 := hidden (Nat.lt_of_lt_of_le Q.out.lt (Nat.le_of_lt (Nat.lt_of_le_of_lt hg hl)))
    have L_X_Q2 := hidden (Nat.lt_of_lt_of_le X.out.blk (Nat.le_of_lt (Nat.lt_of_le_of_lt hg hl)))
    replace D0 := hidden (D0.out.keep hb)
    replace B := hidden (keepB B.out hb)
    replace D1 := hidden (D1.out.keep hb)
    replace H := hidden (H.out.keep hb)
    replace H1 := hidden (H1.out.keep hb)
    replace H2 := hidden (H2.out.keep hb)
    replace R0 := hidden (R0.out.keep hb)
    replace LA1 := hidden (LA1.out.keep hb)
    replace LA2 := hidden (LA2.out.keep hb)
    replace Q := hidden (Q.out.keep hb)
    replace X := hidden (X.out.keep hb)
    have Q1 := hidden (hs1)
    have Q2 := hidden (hs2)
    clear e0 e1 hb
    have GY := hidden (Nat.le_trans BSx.out hg)
    have L_Q1_Q2 := hidden hl
    have GZ := hidden (Nat.le_of_lt (Nat.lt_of_le_of_lt GY.out hl))
    clear hs1 hs2 hg hl BSx
    have L_Q_Y := hidden (Nat.lt_of_lt_of_le Q.out.lt (Nat.le_refl _))
    have L_Q1_Y := hidden (Nat.lt_of_lt_of_le Q1.out.lt (Nat.le_refl _))
    have L_Q2_Y := hidden (Nat.lt_of_lt_of_le Q2.out.lt (Nat.le_refl _))
    have hb := alloc_below w5 (.cells #[.slice (some ⟨gy, 0, none⟩) m1 m1, .slice (some ⟨gz, 0, none⟩) m2 m2] 43)
    replace D0 := hidden (D0.out.keep hb)
    replace B := hidden (keepB B.out hb)
    replace D1 := hidden (D1.out.keep hb)
    replace H := hidden (H.out.keep hb)
    replace H1 := hidden (H1.out.keep hb)
    replace H2 := hidden (H2.out.keep hb)
    replace R0 := hidden (R0.out.keep hb)
    replace LA1 := hidden (LA1.out.keep hb)
    replace LA2 := hidden (LA2.out.keep hb)
    replace Q := hidden (Q.out.keep hb)
    replace X := hidden (X.out.keep hb)
    replace Q1 := hidden (Q1.out.keep hb)
    replace Q2 := hidden (Q2.out.keep hb)
    clear hb
    have Y := hidden (Two.new w5 (.slice (some ⟨gy, 0, none⟩) m1 m1) (.slice (some ⟨gz, 0, none⟩) m2 m2) 43)
    have x0 := X.out.c0
    have y0 := Y.out.c0
    have y1 := Y.out.c1
    go_wp2_with fail
    have BSx := hidden B.out.size
    with_reducible refine (IM.out _ _ _ _ (Q.out.syms HK.out.big HK.out.fits) Q1.out.ints Q2.out.ints HK.out M1.out M2.out).mono ?_
    rintro e w6 ⟨ha, hb⟩
    rcases ha with ⟨ha, -⟩ | ⟨-, ag, dag, bg, dbg, rfl, hg, hl, ho1, ho2⟩
    · exact absurd rfl ha
    have L_D0_G1 := hidden (Nat.lt_of_lt_of_le D0.out.blk hg)
    have L_D1_G1 := hidden (Nat.lt_of_lt_of_le D1.out.blk hg)
    have L_R0_G1 := hidden (Nat.lt_of_lt_of_le R0.out.blk hg)
    have L_LA1_G1 := hidden (Nat.lt_of_lt_of_le LA1.out.lt hg)
    have L_LA2_G1 := hidden (Nat.lt_of_lt_of_le LA2.out.lt hg)
    have L_Q_G1 := hidden (Nat.lt_of_lt_of_le Q.out.lt hg)
    have L_X_G1 := hidden (Nat.lt_of_lt_of_le X.out.blk hg)
    have L_Q1_G1 := hidden (Nat.lt_of_lt_of_le Q1.out.lt hg)
    have L_Q2_G1 := hidden (Nat.lt_of_lt_of_le Q2.out.lt hg)
    have L_Y_G1 := hidden (Nat.lt_of_lt_of_le Y.out.blk hg)
    have L_D0_G2 := hidden (Nat.lt_of_lt_of_le D0.out.blk (Nat.le_of_lt (Nat.lt_of_le_of_lt hg hl)))
    have L_D1_G2 := hidden (Nat.lt_of_lt_of_le D1.out.blk (Nat.le_of_lt (Nat.lt_of_le_of_lt hg hl)))
    have L_R0_G2 := hidden (Nat.lt_of_lt_of_le R0.out.blk (Nat.le_of_lt (Nat.lt_of_le_of_lt hg hl)))
    have L_LA1_G2 := hidden (Nat.lt_of_lt_of_le LA1.out.lt (Nat.le_of_lt (Nat.lt_of_le_of_lt hg hl)))
    have L_LA2_G2 := hidden (Nat.lt_of_lt_of_le LA2.out.lt (Nat.le_of_lt (Nat.lt_of_le_of_lt hg hl)))
    have L_Q_G2 := hidden (Nat.lt_of_lt_of_le Q.out.lt (Nat.le_of_lt (Nat.lt_of_le_of_lt hg hl)))
    have L_X_G2 := hidden (Nat.lt_of_lt_of_le X.out.blk (Nat.le_of_lt (Nat.lt_of_le_of_lt hg hl)))
    have L_Q1_G2 := hidden (Nat.lt_of_lt_of_le Q1.out.lt (Nat.le_of_lt (Nat.lt_of_le_of_lt hg hl)))
    have L_Q2_G2 := hidden (Nat.lt_of_lt_of_le Q2.out.lt (Nat.le_of_lt (Nat.lt_of_le_of_lt hg hl)))
    have L_Y_G2 := hidden (Nat.lt_of_lt_of_le Y.out.blk (Nat.le_of_lt (Nat.lt_of_le_of_lt hg hl)))
    have L_G1_G2 := hidden hl
    have GA := hidden (Nat.le_trans BSx.out hg)
    have GB := hidden (Nat.le_of_lt (Nat.lt_of_le_of_lt GA.out hl))
    replace D0 := hidden (D0.out.keep hb)
    replace B := hidden (keepB B.out hb)
    replace D1 := hidden (D1.out.keep hb)
    replace H := hidden (H.out.keep hb)
    replace H1 := hidden (H1.out.keep hb)
    replace H2 := hidden (H2.out.keep hb)
    replace R0 := hidden (R0.out.keep hb)
    replace LA1 := hidden (LA1.out.keep hb)
    replace LA2 := hidden (LA2.out.keep hb)
    replace Q := hidden (Q.out.keep hb)
    replace X := hidden (X.out.keep hb)
    replace Q1 := hidden (Q1.out.keep hb)
    replace Q2 := hidden (Q2.out.keep hb)
    replace Y := hidden (Y.out.keep hb)
    have G1 := hidden (ho1)
    have G2 := hidden (ho2)
    clear x0 y0 y1 hb ho1 ho2 hg hl BSx
    have L_Q_R1 := hidden (Nat.lt_of_lt_of_le Q.out.lt (Nat.le_refl _))
    have L_Q1_R1 := hidden (Nat.lt_of_lt_of_le Q1.out.lt (Nat.le_refl _))
    have L_Q2_R1 := hidden (Nat.lt_of_lt_of_le Q2.out.lt (Nat.le_refl _))
    have L_G1_R1 := hidden (Nat.lt_of_lt_of_le G1.out.lt (Nat.le_refl _))
    have L_G2_R1 := hidden (Nat.lt_of_lt_of_le G2.out.lt (Nat.le_refl _))
    have hb := alloc_below w6 (.cells #[.int .i64 0, .slice (some ⟨ag, 0, none⟩) m1 dag, .slice (some ⟨bg, 0, none⟩) m2 dbg] 49)
    replace D0 := hidden (D0.out.keep hb)
    replace B := hidden (keepB B.out hb)
    replace D1 := hidden (D1.out.keep hb)
    replace H := hidden (H.out.keep hb)
    replace H1 := hidden (H1.out.keep hb)
    replace H2 := hidden (H2.out.keep hb)
    replace R0 := hidden (R0.out.keep hb)
    replace LA1 := hidden (LA1.out.keep hb)
    replace LA2 := hidden (LA2.out.keep hb)
    replace Q := hidden (Q.out.keep hb)
    replace X := hidden (X.out.keep hb)
    replace Q1 := hidden (Q1.out.keep hb)
    replace Q2 := hidden (Q2.out.keep hb)
    replace Y := hidden (Y.out.keep hb)
    replace G1 := hidden (G1.out.keep hb)
    replace G2 := hidden (G2.out.keep hb)
    clear hb
    have R1 := hidden (Three.new w6 (.int .i64 0) (.slice (some ⟨ag, 0, none⟩) m1 dag) (.slice (some ⟨bg, 0, none⟩) m2 dbg) 49)
    have r0 := R0.out.c0
    have r1 := R0.out.c1
    have r2 := R0.out.c2
    have r3 := R1.out.c0
    have r4 := R1.out.c1
    have r5 := R1.out.c2
    go_wp2_with fail
    with_reducible refine (eqEqR_eq _ _ _ _ _ _ _ _ _ _ U1 U2 _ G1.out.ints G2.out.ints LA1.out.ints LA2.out.ints M1.out M2.out).mono ?_
    rintro e w7 ⟨rfl, hb⟩
    replace D0 := hidden (D0.out.keep hb)
    replace B := hidden (keepB B.out hb)
    replace D1 := hidden (D1.out.keep hb)
    replace H := hidden (H.out.keep hb)
    replace H1 := hidden (H1.out.keep hb)
    replace H2 := hidden (H2.out.keep hb)
    replace R0 := hidden (R0.out.keep hb)
    replace LA1 := hidden (LA1.out.keep hb)
    replace LA2 := hidden (LA2.out.keep hb)
    replace Q := hidden (Q.out.keep hb)
    replace X := hidden (X.out.keep hb)
    replace Q1 := hidden (Q1.out.keep hb)
    replace Q2 := hidden (Q2.out.keep hb)
    replace Y := hidden (Y.out.keep hb)
    replace G1 := hidden (G1.out.keep hb)
    replace G2 := hidden (G2.out.keep hb)
    replace R1 := hidden (R1.out.keep hb)
    clear r0 r1 r2 r3 r4 r5 hb
    have QS := hidden (Q.out.syms HK.out.big HK.out.fits)
    have S1 := hidden (show ∀ wc, Below w7.heap.size w7 wc → Calls Try.prog 10 #[.agg #[.slice p n c]] wc fun e w' => ∃ g, e = .returned (.agg #[.slice (some ⟨g, 0, none⟩) n n]) ∧ Below w7.heap.size w7 w' ∧ Syms w' g 0 n N A ∧ w'.cell? ⟨w4.heap.size, 0, none⟩ = some (.slice (some ⟨gx, 0, none⟩) n n) from fun wc hc => by
      refine (toSig_new p n c N A wc (H.out.keep hc) HK.out).mono ?_
      rintro e w' ⟨g, rfl, hg, hl, hs, hb⟩
      exact ⟨g, rfl, keepB hc hb, hs, (X.out.keep (keepB hc hb)).c0⟩)
    have S2 := hidden (show ∀ wc g, Below w7.heap.size w7 wc → Syms wc g 0 n N A → Calls Try.prog 14 #[.agg #[.slice (some ⟨gx, 0, none⟩) n n], .agg #[.slice (some ⟨g, 0, none⟩) n n]] wc fun e w' => e = .returned (.bool true) ∧ Below w7.heap.size w7 w' from fun wc g hc hm => by
      refine (eqSignature_eq gx 0 g 0 n n n N A wc (QS.out.keep hc) hm HK.out.most).mono ?_
      rintro e w' ⟨rfl, hb⟩
      exact ⟨rfl, keepB hc hb⟩)
    have x0 := X.out.c0
    have d0 := D0.out.c0
    go_wp2_with fail
    go_cut [44] (fun t wc => t = .bool false ∧ Below w7.heap.size w7 wc)
    case first =>
      go_region_with (first
        | (go_at_call 10; with_reducible refine (S1.out _ ?_).mono ?_; exact (Below.refl _ _).drew; rintro e v5 ⟨g5', rfl, b5', m5', d5'⟩)
        | (go_at_call 14; with_reducible refine (S2.out _ _ b5' m5').mono ?_; rintro e v6 ⟨rfl, b6'⟩))
      all_goals (go_wp2_with fail; go_meet)
      all_goals exact ⟨rfl, b6'⟩
    case rest =>
      rename World => w8
      obtain ⟨rfl, hb⟩ := hcut
      replace D0 := hidden (D0.out.keep hb)
      replace B := hidden (keepB B.out hb)
      replace D1 := hidden (D1.out.keep hb)
      replace H := hidden (H.out.keep hb)
      replace H1 := hidden (H1.out.keep hb)
      replace H2 := hidden (H2.out.keep hb)
      replace R0 := hidden (R0.out.keep hb)
      replace LA1 := hidden (LA1.out.keep hb)
      replace LA2 := hidden (LA2.out.keep hb)
      replace Q := hidden (Q.out.keep hb)
      replace X := hidden (X.out.keep hb)
      replace Q1 := hidden (Q1.out.keep hb)
      replace Q2 := hidden (Q2.out.keep hb)
      replace Y := hidden (Y.out.keep hb)
      replace G1 := hidden (G1.out.keep hb)
      replace G2 := hidden (G2.out.keep hb)
      replace R1 := hidden (R1.out.keep hb)
      replace QS := hidden (QS.out.keep hb)
      clear x0 d0 hb S1 S2
      clear QS
      have QA := hidden Q1.out.ints
      have QB := hidden Q2.out.ints
      have S1 := hidden (show ∀ wc, Below w8.heap.size w8 wc → Calls Try.prog 18 #[.agg #[.slice p1 m1 c1, .slice p2 m2 c2]] wc fun e w' => ∃ h1 h2, e = .returned (.agg #[.slice (some ⟨h1, 0, none⟩) m1 m1, .slice (some ⟨h2, 0, none⟩) m2 m2]) ∧ Below w8.heap.size w8 w' ∧ Ints w' h1 0 m1 L1 ∧ Ints w' h2 0 m2 L2 ∧ w'.cell? ⟨w5.heap.size, 0, none⟩ = some (.slice (some ⟨gy, 0, none⟩) m1 m1) ∧ w'.cell? ⟨w5.heap.size, 1, none⟩ = some (.slice (some ⟨gz, 0, none⟩) m2 m2) from fun wc hc => by
        refine (toEquation_src p1 m1 c1 L1 p2 m2 c2 L2 wc (H1.out.keep hc) (H2.out.keep hc) M1.out M2.out).mono ?_
        rintro e w' ⟨h1, h2, rfl, hg, hl, hs1, hs2, hb⟩
        exact ⟨h1, h2, rfl, keepB hc hb, hs1.ints, hs2.ints, (Y.out.keep (keepB hc hb)).c0, (Y.out.keep (keepB hc hb)).c1⟩)
      have S2 := hidden (show ∀ wc h1 h2, Below w8.heap.size w8 wc → Ints wc h1 0 m1 L1 → Ints wc h2 0 m2 L2 → Calls Try.prog 20 #[.agg #[.slice (some ⟨gy, 0, none⟩) m1 m1, .slice (some ⟨gz, 0, none⟩) m2 m2], .agg #[.slice (some ⟨h1, 0, none⟩) m1 m1, .slice (some ⟨h2, 0, none⟩) m2 m2]] wc fun e w' => e = .returned (.bool true) ∧ Below w8.heap.size w8 w' from fun wc h1 h2 hc hm1 hm2 => by
        refine (eqEquation_eq _ _ _ _ _ _ _ _ _ _ _ _ _ _ L1 L2 wc (QA.out.keep hc) (QB.out.keep hc) hm1 hm2 M1.out M2.out).mono ?_
        rintro e w' ⟨rfl, hb⟩
        exact ⟨rfl, keepB hc hb⟩)
      have x0 := Y.out.c0
      have x1 := Y.out.c1
      have e0 := D1.out.c0
      have e1 := D1.out.c1
      go_wp2_with fail
      go_cut [49] (fun t wc => t = .bool false ∧ Below w8.heap.size w8 wc)
      case first =>
        go_region_with (first
          | (go_at_call 18; with_reducible refine (S1.out _ ?_).mono ?_; exact (Below.refl _ _).drew; rintro e v5 ⟨g5', g6', rfl, b5', m5', m6', d5', d6'⟩)
          | (go_at_call 20; with_reducible refine (S2.out _ _ _ b5' m5' m6').mono ?_; rintro e v6 ⟨rfl, b6'⟩))
        all_goals (go_wp2_with fail; go_meet)
        all_goals exact ⟨rfl, b6'⟩
      case rest =>
        rename World => w9
        obtain ⟨rfl, hb⟩ := hcut
        replace D0 := hidden (D0.out.keep hb)
        replace B := hidden (keepB B.out hb)
        replace D1 := hidden (D1.out.keep hb)
        replace H := hidden (H.out.keep hb)
        replace H1 := hidden (H1.out.keep hb)
        replace H2 := hidden (H2.out.keep hb)
        replace R0 := hidden (R0.out.keep hb)
        replace LA1 := hidden (LA1.out.keep hb)
        replace LA2 := hidden (LA2.out.keep hb)
        replace Q := hidden (Q.out.keep hb)
        replace X := hidden (X.out.keep hb)
        replace Q1 := hidden (Q1.out.keep hb)
        replace Q2 := hidden (Q2.out.keep hb)
        replace Y := hidden (Y.out.keep hb)
        replace G1 := hidden (G1.out.keep hb)
        replace G2 := hidden (G2.out.keep hb)
        replace R1 := hidden (R1.out.keep hb)
        replace QA := hidden (QA.out.keep hb)
        replace QB := hidden (QB.out.keep hb)
        clear x0 x1 e0 e1 hb S1 S2
        clear QA QB
        have x0 := X.out.c0
        go_wp2_with fail
        with_reducible refine (markSignature_z _ gx n n 1 N A _ Q.out HK.out.most (by omega) (by omega)).mono ?_
        rintro e w10 ⟨rfl, -, hg⟩
        replace B := hidden (grownB B.out hg GX.out)
        replace D0 := hidden (D0.out.grown hg (Nat.ne_of_lt L_D0_Q.out))
        replace D1 := hidden (D1.out.grown hg (Nat.ne_of_lt L_D1_Q.out))
        replace H := hidden (H0.out.keep B.out)
        replace H1 := hidden (K1.out.keep B.out)
        replace H2 := hidden (K2.out.keep B.out)
        replace R0 := hidden (R0.out.grown hg (Nat.ne_of_lt L_R0_Q.out))
        replace LA1 := hidden (LA1.out.grown hg (Nat.ne_of_lt L_LA1_Q.out))
        replace LA2 := hidden (LA2.out.grown hg (Nat.ne_of_lt L_LA2_Q.out))
        replace X := hidden (X.out.grown hg (Nat.ne_of_gt L_Q_X.out))
        replace Q1 := hidden (Q1.out.grown hg (Nat.ne_of_gt L_Q_Q1.out))
        replace Q2 := hidden (Q2.out.grown hg (Nat.ne_of_gt L_Q_Q2.out))
        replace Y := hidden (Y.out.grown hg (Nat.ne_of_gt L_Q_Y.out))
        replace G1 := hidden (G1.out.grown hg (Nat.ne_of_gt L_Q_G1.out))
        replace G2 := hidden (G2.out.grown hg (Nat.ne_of_gt L_Q_G2.out))
        replace R1 := hidden (R1.out.grown hg (Nat.ne_of_gt L_Q_R1.out))
        clear Q
        clear x0 hg
        have HN1 := HK.out.most
        have y0 := Y.out.c0
        have y1 := Y.out.c1
        go_wp2_with fail
        have HM1x := M1.out
        have HM2x := M2.out
        with_reducible refine (markEq_z _ _ gy m1 m1 gz m2 m2 (1 + 2 * n) L1 L2 _ Q1.out Q2.out L_Q1_Q2.out M1.out M2.out (by omega) (by omega)).mono ?_
        rintro e w11 ⟨rfl, wm, hga, hgb⟩
        replace B := hidden (grownB (grownB B.out hga GY.out) hgb GZ.out)
        replace D0 := hidden ((D0.out.grown hga (Nat.ne_of_lt L_D0_Q1.out)).grown hgb (Nat.ne_of_lt L_D0_Q2.out))
        replace D1 := hidden ((D1.out.grown hga (Nat.ne_of_lt L_D1_Q1.out)).grown hgb (Nat.ne_of_lt L_D1_Q2.out))
        replace H := hidden (H0.out.keep B.out)
        replace H1 := hidden (K1.out.keep B.out)
        replace H2 := hidden (K2.out.keep B.out)
        replace R0 := hidden ((R0.out.grown hga (Nat.ne_of_lt L_R0_Q1.out)).grown hgb (Nat.ne_of_lt L_R0_Q2.out))
        replace LA1 := hidden ((LA1.out.grown hga (Nat.ne_of_lt L_LA1_Q1.out)).grown hgb (Nat.ne_of_lt L_LA1_Q2.out))
        replace LA2 := hidden ((LA2.out.grown hga (Nat.ne_of_lt L_LA2_Q1.out)).grown hgb (Nat.ne_of_lt L_LA2_Q2.out))
        replace X := hidden ((X.out.grown hga (Nat.ne_of_lt L_X_Q1.out)).grown hgb (Nat.ne_of_lt L_X_Q2.out))
        replace Y := hidden ((Y.out.grown hga (Nat.ne_of_gt L_Q1_Y.out)).grown hgb (Nat.ne_of_gt L_Q2_Y.out))
        replace G1 := hidden ((G1.out.grown hga (Nat.ne_of_gt L_Q1_G1.out)).grown hgb (Nat.ne_of_gt L_Q2_G1.out))
        replace G2 := hidden ((G2.out.grown hga (Nat.ne_of_gt L_Q1_G2.out)).grown hgb (Nat.ne_of_gt L_Q2_G2.out))
        replace R1 := hidden ((R1.out.grown hga (Nat.ne_of_gt L_Q1_R1.out)).grown hgb (Nat.ne_of_gt L_Q2_R1.out))
        clear Q1 Q2
        clear y0 y1 hga hgb
        have r0 := R0.out.c0
        have r1 := R0.out.c1
        have r2 := R0.out.c2
        have r3 := R1.out.c0
        have r4 := R1.out.c1
        have r5 := R1.out.c2
        have hkk : decide ((1 : Int) + 2 * n + m1 + m2 < 0) = false := by simp; omega
        go_wp2_with fail
        with_reducible refine (eqEqR_eq _ _ _ _ _ _ _ _ _ _ U1 U2 _ G1.out.ints G2.out.ints LA1.out.ints LA2.out.ints M1.out M2.out).mono ?_
        rintro e w12 ⟨rfl, hb⟩
        replace D0 := hidden (D0.out.keep hb)
        replace B := hidden (keepB B.out hb)
        replace D1 := hidden (D1.out.keep hb)
        replace H := hidden (H.out.keep hb)
        replace H1 := hidden (H1.out.keep hb)
        replace H2 := hidden (H2.out.keep hb)
        replace R0 := hidden (R0.out.keep hb)
        replace LA1 := hidden (LA1.out.keep hb)
        replace LA2 := hidden (LA2.out.keep hb)
        replace X := hidden (X.out.keep hb)
        replace Y := hidden (Y.out.keep hb)
        replace G1 := hidden (G1.out.keep hb)
        replace G2 := hidden (G2.out.keep hb)
        replace R1 := hidden (R1.out.keep hb)
        clear r0 r1 r2 r3 r4 r5 hb
        have r3 := R1.out.c0
        have r4 := R1.out.c1
        have r5 := R1.out.c2
        go_wp2_with fail
        with_reducible refine (markEqR_any _ _ ag m1 dag bg m2 dbg U1 U2 _ G1.out G2.out L_G1_G2.out M1.out M2.out).mono ?_
        rintro e w13 ⟨rfl, o1, o2, wm, hga, hgb⟩
        replace B := hidden (grownB (grownB B.out hga GA.out) hgb GB.out)
        replace D0 := hidden ((D0.out.grown hga (Nat.ne_of_lt L_D0_G1.out)).grown hgb (Nat.ne_of_lt L_D0_G2.out))
        replace D1 := hidden ((D1.out.grown hga (Nat.ne_of_lt L_D1_G1.out)).grown hgb (Nat.ne_of_lt L_D1_G2.out))
        replace H := hidden (H0.out.keep B.out)
        replace H1 := hidden (K1.out.keep B.out)
        replace H2 := hidden (K2.out.keep B.out)
        replace R0 := hidden ((R0.out.grown hga (Nat.ne_of_lt L_R0_G1.out)).grown hgb (Nat.ne_of_lt L_R0_G2.out))
        replace LA1 := hidden ((LA1.out.grown hga (Nat.ne_of_lt L_LA1_G1.out)).grown hgb (Nat.ne_of_lt L_LA1_G2.out))
        replace LA2 := hidden ((LA2.out.grown hga (Nat.ne_of_lt L_LA2_G1.out)).grown hgb (Nat.ne_of_lt L_LA2_G2.out))
        replace X := hidden ((X.out.grown hga (Nat.ne_of_lt L_X_G1.out)).grown hgb (Nat.ne_of_lt L_X_G2.out))
        replace Y := hidden ((Y.out.grown hga (Nat.ne_of_lt L_Y_G1.out)).grown hgb (Nat.ne_of_lt L_Y_G2.out))
        replace R1 := hidden ((R1.out.grown hga (Nat.ne_of_gt L_G1_R1.out)).grown hgb (Nat.ne_of_gt L_G2_R1.out))
        replace G1 := hidden o1
        replace G2 := hidden o2
        clear o1 o2
        clear r3 r4 r5 hga hgb
        have hq : ¬ (1 : Int) + m1 + m2 < 0 := by omega
        have r3 := R1.out.c0
        have r4 := R1.out.c1
        have r5 := R1.out.c2
        go_wp2_with fail
        with_reducible refine (heldEqR_any ag m1 dag bg m2 dbg _ G1.out.ints G2.out.ints M1.out M2.out).mono ?_
        rintro e w14 ⟨rfl, hb⟩
        replace D0 := hidden (D0.out.keep hb)
        replace B := hidden (keepB B.out hb)
        replace D1 := hidden (D1.out.keep hb)
        replace H := hidden (H.out.keep hb)
        replace H1 := hidden (H1.out.keep hb)
        replace H2 := hidden (H2.out.keep hb)
        replace R0 := hidden (R0.out.keep hb)
        replace LA1 := hidden (LA1.out.keep hb)
        replace LA2 := hidden (LA2.out.keep hb)
        replace X := hidden (X.out.keep hb)
        replace Y := hidden (Y.out.keep hb)
        replace G1 := hidden (G1.out.keep hb)
        replace G2 := hidden (G2.out.keep hb)
        replace R1 := hidden (R1.out.keep hb)
        clear r3 r4 r5 hb
        have CK := hidden (show ∀ w', Below w14.heap.size w14 w' → (w'.cell? ⟨w.heap.size, 0, none⟩ = some (.slice p n c) ∧ w'.cell? ⟨w.heap.size + 1, 0, none⟩ = some (.slice p1 m1 c1) ∧ w'.cell? ⟨w.heap.size + 1, 1, none⟩ = some (.slice p2 m2 c2)) from fun w' hb => ⟨(D0.out.keep hb).c0, (D1.out.keep hb).c0, (D1.out.keep hb).c1⟩)
        have S1 := hidden (show ∀ wc, Below w14.heap.size w14 wc → Calls Try.prog 10 #[.agg #[.slice p n c]] wc fun e w' => ∃ g, e = .returned (.agg #[.slice (some ⟨g, 0, none⟩) n n]) ∧ Below w14.heap.size w14 w' ∧ Syms w' g 0 n N A ∧ Below wc.heap.size wc w' from fun wc hc => by
          refine (toSig_new p n c N A wc (H.out.keep hc) HK.out).mono ?_
          rintro e w' ⟨g, rfl, hg, hl, hs, hb⟩
          exact ⟨g, rfl, keepB hc hb, hs, hb⟩)
        have S2 := hidden (show ∀ wc g, Below w14.heap.size w14 wc → Syms wc g 0 n N A → Calls Try.prog 18 #[.agg #[.slice p1 m1 c1, .slice p2 m2 c2]] wc fun e w' => ∃ g1 g2, e = .returned (.agg #[.slice (some ⟨g1, 0, none⟩) m1 m1, .slice (some ⟨g2, 0, none⟩) m2 m2]) ∧ Below w14.heap.size w14 w' ∧ Syms w' g 0 n N A ∧ Ints w' g1 0 m1 L1 ∧ Ints w' g2 0 m2 L2 ∧ Below wc.heap.size wc w' from fun wc g hc hm => by
          refine (toEquation_src p1 m1 c1 L1 p2 m2 c2 L2 wc (H1.out.keep hc) (H2.out.keep hc) M1.out M2.out).mono ?_
          rintro e w' ⟨g1, g2, rfl, hg, hl, hs1, hs2, hb⟩
          exact ⟨g1, g2, rfl, keepB hc hb, hm.keep hb, hs1.ints, hs2.ints, hb⟩)
        have S3 := hidden (show ∀ wc g g1 g2, Below w14.heap.size w14 wc → Syms wc g 0 n N A → Ints wc g1 0 m1 L1 → Ints wc g2 0 m2 L2 → Calls Try.prog 24 #[.agg #[.slice (some ⟨g, 0, none⟩) n n], .agg #[.slice (some ⟨g1, 0, none⟩) m1 m1, .slice (some ⟨g2, 0, none⟩) m2 m2]] wc fun e w' => (∃ ga da gb db, e = .returned (.agg #[.int .i64 0, .slice (some ⟨ga, 0, none⟩) m1 da, .slice (some ⟨gb, 0, none⟩) m2 db]) ∧ wc.heap.size ≤ ga ∧ ga < gb ∧ Hid (OwnI w' wc.heap.size ga m1 da U1 m1 ∧ OwnI w' wc.heap.size gb m2 db U2 m2)) ∧ Below w14.heap.size w14 w' ∧ Below wc.heap.size wc w' from fun wc g g1 g2 hc hm hm1 hm2 => by
          refine (IM.out g g1 g2 wc hm hm1 hm2 HK.out M1.out M2.out).mono ?_
          rintro e w' ⟨ha, hb⟩
          rcases ha with ⟨ha, -⟩ | ⟨-, ga, da, gb, db, rfl, hg, hl, ho1, ho2⟩
          · exact absurd rfl ha
          exact ⟨⟨ga, da, gb, db, rfl, hg, hl, hidden ⟨ho1, ho2⟩⟩, keepB hc hb, hb⟩)
        have d0 := D0.out.c0
        have e0 := D1.out.c0
        have e1 := D1.out.c1
        go_wp2_with fail
        go_cut [13] (fun t wc => ∃ B0 ga da gb db BB, t = .pointer (some ⟨B0, 0, none⟩) ∧ Hid (Three wc B0 (.int .i64 0) (.slice (some ⟨ga, 0, none⟩) m1 da) (.slice (some ⟨gb, 0, none⟩) m2 db)) ∧ Hid (OwnI wc BB ga m1 da U1 m1 ∧ OwnI wc BB gb m2 db U2 m2) ∧ Below w14.heap.size w14 wc)
        case first =>
          refine wp_region_held_drew (S := fun wz => wz.cell? ⟨w.heap.size, 0, none⟩ = some (.slice p n c) ∧ wz.cell? ⟨w.heap.size + 1, 0, none⟩ = some (.slice p1 m1 c1) ∧ wz.cell? ⟨w.heap.size + 1, 1, none⟩ = some (.slice p2 m2 c2)) (by kernel_rfl) ⟨d0, e0, e1⟩ (fun hHeld => ?_)
          have bb := (Below.refl w14.heap.size w14).drew
          refine wpAnyH_take (i := 0) (oi := { dst := some 75, op := Op.load 24 (Operand.tmp 2), type := 24, pos := "exact.go:3827", after := #[], guard := none }) (v := ?_) rfl (by kernel_rfl) (by kernel_rfl) (by kernel_rfl) (fun _ _ _ h => h) (Or.inl ⟨by rfl, ?_⟩) (by assumption) ?_
          rotate_left
          · (intro wv hSw; (try dsimp only at hSw); go_simp; try with_reducible rfl)
          try simp only [Act.put, List.setIfInBounds_toArray, List.set_cons_zero, List.set_cons_succ]
          refine wpAnyH_take (i := 2) (oi := { dst := some 77, op := Op.load 40 (Operand.tmp 3), type := 40, pos := "exact.go:3827", after := #[], guard := none }) (v := ?_) rfl (by kernel_rfl) (by kernel_rfl) (by kernel_rfl) (fun _ _ _ h => h) (Or.inl ⟨by rfl, ?_⟩) (by assumption) ?_
          rotate_left
          · (intro wv hSw; (try dsimp only at hSw); go_simp; try with_reducible rfl)
          try simp only [Act.put, List.setIfInBounds_toArray, List.set_cons_zero, List.set_cons_succ]
          refine wpAnyH_ready (rs := [1, 5]) (by kernel_rfl) (by simp) ?_
          refine AllReadyH.cons (o := { dst := some 76, op := Op.call { callee := Callee.value (Operand.func 10), args := #[Operand.tmp 75], argTypes := #[24] }, type := 32, pos := "exact.go:3827", after := #[{ on := 0, ground := Ground.data }], guard := none }) rfl (fun K hK => ?_) (AllReadyH.cons (o := { dst := some 13, op := Op.alloc 49, type := 0, pos := "exact.go:3827", after := #[], guard := none }) rfl (fun K hK => ?_) AllReadyH.nil)
          · go_simp
            go_at_call 10; with_reducible refine (S1.out _ bb).mono ?_; rintro e v5 ⟨g5', rfl, bb', m5', hb5⟩
            try go_wp2_with fail
            refine hK.out _ _ ?_ (fun hHeld => ?_)
            · exact CK.out _ bb'
            clear hK K
            clear bb hb5
            have bb := bb'
            clear bb'
            try simp only [Act.put, List.setIfInBounds_toArray, List.set_cons_zero, List.set_cons_succ]
            refine wpAnyH_ready (rs := [3, 5]) (by kernel_rfl) (by simp) ?_
            refine AllReadyH.cons (o := { dst := some 78, op := Op.call { callee := Callee.value (Operand.func 18), args := #[Operand.tmp 77], argTypes := #[40] }, type := 43, pos := "exact.go:3827", after := #[{ on := 2, ground := Ground.data }, { on := 1, ground := Ground.chain }], guard := none }) rfl (fun K hK => ?_) (AllReadyH.cons (o := { dst := some 13, op := Op.alloc 49, type := 0, pos := "exact.go:3827", after := #[], guard := none }) rfl (fun K hK => ?_) AllReadyH.nil)
            · go_simp
              go_at_call 18; with_reducible refine (S2.out _ _ bb m5').mono ?_; rintro e v6 ⟨g6', g7', rfl, bb', m5', i6', i7', hb5⟩
              try go_wp2_with fail
              refine hK.out _ _ ?_ (fun hHeld => ?_)
              · exact CK.out _ bb'
              clear hK K
              clear bb hb5
              have bb := bb'
              clear bb'
              try simp only [Act.put, List.setIfInBounds_toArray, List.set_cons_zero, List.set_cons_succ]
              refine wpAnyH_ready (rs := [4, 5]) (by kernel_rfl) (by simp) ?_
              refine AllReadyH.cons (o := { dst := some 79, op := Op.call { callee := Callee.value (Operand.func 24), args := #[Operand.tmp 76, Operand.tmp 78], argTypes := #[32, 43] }, type := 49, pos := "exact.go:3827", after := #[{ on := 1, ground := Ground.data }, { on := 3, ground := Ground.data }, { on := 3, ground := Ground.chain }], guard := none }) rfl (fun K hK => ?_) (AllReadyH.cons (o := { dst := some 13, op := Op.alloc 49, type := 0, pos := "exact.go:3827", after := #[], guard := none }) rfl (fun K hK => ?_) AllReadyH.nil)
              · go_simp
                go_at_call 24; with_reducible refine (S3.out _ _ _ _ bb m5' i6' i7').mono ?_; rintro e v7 ⟨⟨ga', da', gb', db', rfl, hga, hgl, oo'⟩, bb', hb5⟩
                try go_wp2_with fail
                refine hK.out _ _ ?_ (fun hHeld => ?_)
                · exact CK.out _ bb'
                clear hK K
                have oo0 := oo'
                clear bb hb5
                have bb := bb'
                clear bb'
                try simp only [Act.put, List.setIfInBounds_toArray, List.set_cons_zero, List.set_cons_succ]
                have bb0 := bb
                refine wpAnyH_ready (rs := [5]) (by kernel_rfl) (by simp) ?_
                refine AllReadyH.cons (o := { dst := some 13, op := Op.alloc 49, type := 0, pos := "exact.go:3827", after := #[], guard := none }) rfl (fun K hK => ?_) AllReadyH.nil
                go_simp
                have RR := Own3.new v7 (.int .i64 0) (.slice none 0 0) (.slice none 0 0) 49
                have hB0 := bb.size
                refine hK.out _ _ ?_ (fun hHeld => ?_)
                · exact CK.out _ (keepB bb (alloc_below _ _))
                clear hK K
                replace bb := keepB bb (alloc_below _ (.cells #[.int .i64 0, .slice none 0 0, .slice none 0 0] 49))
                replace m5' := m5'.keep (alloc_below _ (.cells #[.int .i64 0, .slice none 0 0, .slice none 0 0] 49))
                replace i6' := i6'.keep (alloc_below _ (.cells #[.int .i64 0, .slice none 0 0, .slice none 0 0] 49))
                replace i7' := i7'.keep (alloc_below _ (.cells #[.int .i64 0, .slice none 0 0, .slice none 0 0] 49))
                replace oo' := hidden (And.intro (oo'.out.1.keep (alloc_below _ (.cells #[.int .i64 0, .slice none 0 0, .slice none 0 0] 49))) (oo'.out.2.keep (alloc_below _ (.cells #[.int .i64 0, .slice none 0 0, .slice none 0 0] 49))))
                try simp only [Act.put, List.setIfInBounds_toArray, List.set_cons_zero, List.set_cons_succ]
                refine wpAnyH_ready (rs := [6]) (by kernel_rfl) (by simp) ?_
                refine AllReadyH.cons (o := { dst := none, op := Op.store 49 (Operand.tmp 13) (Operand.tmp 79), type := 0, pos := "exact.go:3827", after := #[{ on := 5, ground := Ground.data }, { on := 4, ground := Ground.data }, { on := 4, ground := Ground.chain }, { on := 0, ground := Ground.phase }, { on := 1, ground := Ground.phase }, { on := 2, ground := Ground.phase }, { on := 3, ground := Ground.phase }, { on := 4, ground := Ground.phase }, { on := 5, ground := Ground.phase }], guard := none }) rfl (fun K hK => ?_) AllReadyH.nil
                obtain ⟨q8, q0, q1, q2, f0, f1, f2⟩ := id RR
                go_simp
                refine hK.out _ _ ?_ (fun hHeld => ?_)
                · first | exact CK.out _ (((bb.setCell hB0 _).setCell hB0 _).setCell hB0 _) | exact CK.out _ (keepB bb0 (alloc_below _ _))
                clear hK K
                refine wpAnyH_done (by kernel_rfl) ?_ _
                go_wp2_with fail
                go_meet
                first
                  | exact ⟨_, ga', da', gb', db', _, rfl, hidden (RR.sets _ _ _), hidden ⟨oo'.out.1.other3 _ _ _ _ (Nat.ne_of_gt hne), oo'.out.2.other3 _ _ _ _ (Nat.ne_of_gt (Nat.lt_trans hne hgl))⟩, ((bb.setCell hB0 _).setCell hB0 _).setCell hB0 _⟩
                  | exact ⟨_, ga', da', gb', db', _, rfl, hidden (Three.new _ _ _ _ _), hidden ⟨oo0.out.1.keep (alloc_below _ _), oo0.out.2.keep (alloc_below _ _)⟩, keepB bb0 (alloc_below _ _)⟩
              · go_simp
                have RR := Own3.new v6 (.int .i64 0) (.slice none 0 0) (.slice none 0 0) 49
                have hB0 := bb.size
                refine hK.out _ _ ?_ (fun hHeld => ?_)
                · exact CK.out _ (keepB bb (alloc_below _ _))
                clear hK K
                replace bb := keepB bb (alloc_below _ (.cells #[.int .i64 0, .slice none 0 0, .slice none 0 0] 49))
                replace m5' := m5'.keep (alloc_below _ (.cells #[.int .i64 0, .slice none 0 0, .slice none 0 0] 49))
                replace i6' := i6'.keep (alloc_below _ (.cells #[.int .i64 0, .slice none 0 0, .slice none 0 0] 49))
                replace i7' := i7'.keep (alloc_below _ (.cells #[.int .i64 0, .slice none 0 0, .slice none 0 0] 49))
                try simp only [Act.put, List.setIfInBounds_toArray, List.set_cons_zero, List.set_cons_succ]
                refine wpAnyH_ready (rs := [4]) (by kernel_rfl) (by simp) ?_
                refine AllReadyH.cons (o := { dst := some 79, op := Op.call { callee := Callee.value (Operand.func 24), args := #[Operand.tmp 76, Operand.tmp 78], argTypes := #[32, 43] }, type := 49, pos := "exact.go:3827", after := #[{ on := 1, ground := Ground.data }, { on := 3, ground := Ground.data }, { on := 3, ground := Ground.chain }], guard := none }) rfl (fun K hK => ?_) AllReadyH.nil
                go_simp
                go_at_call 24; with_reducible refine (S3.out _ _ _ _ bb m5' i6' i7').mono ?_; rintro e v7 ⟨⟨ga', da', gb', db', rfl, hga, hgl, oo'⟩, bb', hb5⟩
                try go_wp2_with fail
                refine hK.out _ _ ?_ (fun hHeld => ?_)
                · exact CK.out _ bb'
                clear hK K
                have hne := Nat.lt_of_lt_of_le RR.blk hga
                have oo0 := oo'
                replace RR := RR.keep hb5
                clear bb hb5
                have bb := bb'
                clear bb'
                try simp only [Act.put, List.setIfInBounds_toArray, List.set_cons_zero, List.set_cons_succ]
                have bb0 := bb
                refine wpAnyH_ready (rs := [6]) (by kernel_rfl) (by simp) ?_
                refine AllReadyH.cons (o := { dst := none, op := Op.store 49 (Operand.tmp 13) (Operand.tmp 79), type := 0, pos := "exact.go:3827", after := #[{ on := 5, ground := Ground.data }, { on := 4, ground := Ground.data }, { on := 4, ground := Ground.chain }, { on := 0, ground := Ground.phase }, { on := 1, ground := Ground.phase }, { on := 2, ground := Ground.phase }, { on := 3, ground := Ground.phase }, { on := 4, ground := Ground.phase }, { on := 5, ground := Ground.phase }], guard := none }) rfl (fun K hK => ?_) AllReadyH.nil
                obtain ⟨q8, q0, q1, q2, f0, f1, f2⟩ := id RR
                go_simp
                refine hK.out _ _ ?_ (fun hHeld => ?_)
                · first | exact CK.out _ (((bb.setCell hB0 _).setCell hB0 _).setCell hB0 _) | exact CK.out _ (keepB bb0 (alloc_below _ _))
                clear hK K
                refine wpAnyH_done (by kernel_rfl) ?_ _
                go_wp2_with fail
                go_meet
                first
                  | exact ⟨_, ga', da', gb', db', _, rfl, hidden (RR.sets _ _ _), hidden ⟨oo'.out.1.other3 _ _ _ _ (Nat.ne_of_gt hne), oo'.out.2.other3 _ _ _ _ (Nat.ne_of_gt (Nat.lt_trans hne hgl))⟩, ((bb.setCell hB0 _).setCell hB0 _).setCell hB0 _⟩
                  | exact ⟨_, ga', da', gb', db', _, rfl, hidden (Three.new _ _ _ _ _), hidden ⟨oo0.out.1.keep (alloc_below _ _), oo0.out.2.keep (alloc_below _ _)⟩, keepB bb0 (alloc_below _ _)⟩
            · go_simp
              have RR := Own3.new v5 (.int .i64 0) (.slice none 0 0) (.slice none 0 0) 49
              have hB0 := bb.size
              refine hK.out _ _ ?_ (fun hHeld => ?_)
              · exact CK.out _ (keepB bb (alloc_below _ _))
              clear hK K
              replace bb := keepB bb (alloc_below _ (.cells #[.int .i64 0, .slice none 0 0, .slice none 0 0] 49))
              replace m5' := m5'.keep (alloc_below _ (.cells #[.int .i64 0, .slice none 0 0, .slice none 0 0] 49))
              try simp only [Act.put, List.setIfInBounds_toArray, List.set_cons_zero, List.set_cons_succ]
              refine wpAnyH_ready (rs := [3]) (by kernel_rfl) (by simp) ?_
              refine AllReadyH.cons (o := { dst := some 78, op := Op.call { callee := Callee.value (Operand.func 18), args := #[Operand.tmp 77], argTypes := #[40] }, type := 43, pos := "exact.go:3827", after := #[{ on := 2, ground := Ground.data }, { on := 1, ground := Ground.chain }], guard := none }) rfl (fun K hK => ?_) AllReadyH.nil
              go_simp
              go_at_call 18; with_reducible refine (S2.out _ _ bb m5').mono ?_; rintro e v6 ⟨g6', g7', rfl, bb', m5', i6', i7', hb5⟩
              try go_wp2_with fail
              refine hK.out _ _ ?_ (fun hHeld => ?_)
              · exact CK.out _ bb'
              clear hK K
              replace RR := RR.keep hb5
              clear bb hb5
              have bb := bb'
              clear bb'
              try simp only [Act.put, List.setIfInBounds_toArray, List.set_cons_zero, List.set_cons_succ]
              refine wpAnyH_ready (rs := [4]) (by kernel_rfl) (by simp) ?_
              refine AllReadyH.cons (o := { dst := some 79, op := Op.call { callee := Callee.value (Operand.func 24), args := #[Operand.tmp 76, Operand.tmp 78], argTypes := #[32, 43] }, type := 49, pos := "exact.go:3827", after := #[{ on := 1, ground := Ground.data }, { on := 3, ground := Ground.data }, { on := 3, ground := Ground.chain }], guard := none }) rfl (fun K hK => ?_) AllReadyH.nil
              go_simp
              go_at_call 24; with_reducible refine (S3.out _ _ _ _ bb m5' i6' i7').mono ?_; rintro e v7 ⟨⟨ga', da', gb', db', rfl, hga, hgl, oo'⟩, bb', hb5⟩
              try go_wp2_with fail
              refine hK.out _ _ ?_ (fun hHeld => ?_)
              · exact CK.out _ bb'
              clear hK K
              have hne := Nat.lt_of_lt_of_le RR.blk hga
              have oo0 := oo'
              replace RR := RR.keep hb5
              clear bb hb5
              have bb := bb'
              clear bb'
              try simp only [Act.put, List.setIfInBounds_toArray, List.set_cons_zero, List.set_cons_succ]
              have bb0 := bb
              refine wpAnyH_ready (rs := [6]) (by kernel_rfl) (by simp) ?_
              refine AllReadyH.cons (o := { dst := none, op := Op.store 49 (Operand.tmp 13) (Operand.tmp 79), type := 0, pos := "exact.go:3827", after := #[{ on := 5, ground := Ground.data }, { on := 4, ground := Ground.data }, { on := 4, ground := Ground.chain }, { on := 0, ground := Ground.phase }, { on := 1, ground := Ground.phase }, { on := 2, ground := Ground.phase }, { on := 3, ground := Ground.phase }, { on := 4, ground := Ground.phase }, { on := 5, ground := Ground.phase }], guard := none }) rfl (fun K hK => ?_) AllReadyH.nil
              obtain ⟨q8, q0, q1, q2, f0, f1, f2⟩ := id RR
              go_simp
              refine hK.out _ _ ?_ (fun hHeld => ?_)
              · first | exact CK.out _ (((bb.setCell hB0 _).setCell hB0 _).setCell hB0 _) | exact CK.out _ (keepB bb0 (alloc_below _ _))
              clear hK K
              refine wpAnyH_done (by kernel_rfl) ?_ _
              go_wp2_with fail
              go_meet
              first
                | exact ⟨_, ga', da', gb', db', _, rfl, hidden (RR.sets _ _ _), hidden ⟨oo'.out.1.other3 _ _ _ _ (Nat.ne_of_gt hne), oo'.out.2.other3 _ _ _ _ (Nat.ne_of_gt (Nat.lt_trans hne hgl))⟩, ((bb.setCell hB0 _).setCell hB0 _).setCell hB0 _⟩
                | exact ⟨_, ga', da', gb', db', _, rfl, hidden (Three.new _ _ _ _ _), hidden ⟨oo0.out.1.keep (alloc_below _ _), oo0.out.2.keep (alloc_below _ _)⟩, keepB bb0 (alloc_below _ _)⟩
          · go_simp
            have RR := (Own3.new w14 (.int .i64 0) (.slice none 0 0) (.slice none 0 0) 49).keep (Below.refl _ _).drew
            have hB0 := bb.size
            refine hK.out _ _ ?_ (fun hHeld => ?_)
            · exact CK.out _ (alloc_below _ _).drew
            clear hK K
            replace bb := (alloc_below w14 (.cells #[.int .i64 0, .slice none 0 0, .slice none 0 0] 49)).drew
            try simp only [Act.put, List.setIfInBounds_toArray, List.set_cons_zero, List.set_cons_succ]
            refine wpAnyH_ready (rs := [1]) (by kernel_rfl) (by simp) ?_
            refine AllReadyH.cons (o := { dst := some 76, op := Op.call { callee := Callee.value (Operand.func 10), args := #[Operand.tmp 75], argTypes := #[24] }, type := 32, pos := "exact.go:3827", after := #[{ on := 0, ground := Ground.data }], guard := none }) rfl (fun K hK => ?_) AllReadyH.nil
            go_simp
            go_at_call 10; with_reducible refine (S1.out _ bb).mono ?_; rintro e v5 ⟨g5', rfl, bb', m5', hb5⟩
            try go_wp2_with fail
            refine hK.out _ _ ?_ (fun hHeld => ?_)
            · exact CK.out _ bb'
            clear hK K
            replace RR := RR.keep hb5
            clear bb hb5
            have bb := bb'
            clear bb'
            try simp only [Act.put, List.setIfInBounds_toArray, List.set_cons_zero, List.set_cons_succ]
            refine wpAnyH_ready (rs := [3]) (by kernel_rfl) (by simp) ?_
            refine AllReadyH.cons (o := { dst := some 78, op := Op.call { callee := Callee.value (Operand.func 18), args := #[Operand.tmp 77], argTypes := #[40] }, type := 43, pos := "exact.go:3827", after := #[{ on := 2, ground := Ground.data }, { on := 1, ground := Ground.chain }], guard := none }) rfl (fun K hK => ?_) AllReadyH.nil
            go_simp
            go_at_call 18; with_reducible refine (S2.out _ _ bb m5').mono ?_; rintro e v6 ⟨g6', g7', rfl, bb', m5', i6', i7', hb5⟩
            try go_wp2_with fail
            refine hK.out _ _ ?_ (fun hHeld => ?_)
            · exact CK.out _ bb'
            clear hK K
            replace RR := RR.keep hb5
            clear bb hb5
            have bb := bb'
            clear bb'
            try simp only [Act.put, List.setIfInBounds_toArray, List.set_cons_zero, List.set_cons_succ]
            refine wpAnyH_ready (rs := [4]) (by kernel_rfl) (by simp) ?_
            refine AllReadyH.cons (o := { dst := some 79, op := Op.call { callee := Callee.value (Operand.func 24), args := #[Operand.tmp 76, Operand.tmp 78], argTypes := #[32, 43] }, type := 49, pos := "exact.go:3827", after := #[{ on := 1, ground := Ground.data }, { on := 3, ground := Ground.data }, { on := 3, ground := Ground.chain }], guard := none }) rfl (fun K hK => ?_) AllReadyH.nil
            go_simp
            go_at_call 24; with_reducible refine (S3.out _ _ _ _ bb m5' i6' i7').mono ?_; rintro e v7 ⟨⟨ga', da', gb', db', rfl, hga, hgl, oo'⟩, bb', hb5⟩
            try go_wp2_with fail
            refine hK.out _ _ ?_ (fun hHeld => ?_)
            · exact CK.out _ bb'
            clear hK K
            have hne := Nat.lt_of_lt_of_le RR.blk hga
            have oo0 := oo'
            replace RR := RR.keep hb5
            clear bb hb5
            have bb := bb'
            clear bb'
            try simp only [Act.put, List.setIfInBounds_toArray, List.set_cons_zero, List.set_cons_succ]
            have bb0 := bb
            refine wpAnyH_ready (rs := [6]) (by kernel_rfl) (by simp) ?_
            refine AllReadyH.cons (o := { dst := none, op := Op.store 49 (Operand.tmp 13) (Operand.tmp 79), type := 0, pos := "exact.go:3827", after := #[{ on := 5, ground := Ground.data }, { on := 4, ground := Ground.data }, { on := 4, ground := Ground.chain }, { on := 0, ground := Ground.phase }, { on := 1, ground := Ground.phase }, { on := 2, ground := Ground.phase }, { on := 3, ground := Ground.phase }, { on := 4, ground := Ground.phase }, { on := 5, ground := Ground.phase }], guard := none }) rfl (fun K hK => ?_) AllReadyH.nil
            obtain ⟨q8, q0, q1, q2, f0, f1, f2⟩ := id RR
            go_simp
            refine hK.out _ _ ?_ (fun hHeld => ?_)
            · first | exact CK.out _ (((bb.setCell hB0 _).setCell hB0 _).setCell hB0 _) | exact CK.out _ (keepB bb0 (alloc_below _ _))
            clear hK K
            refine wpAnyH_done (by kernel_rfl) ?_ _
            go_wp2_with fail
            go_meet
            first
              | exact ⟨_, ga', da', gb', db', _, rfl, hidden (RR.sets _ _ _), hidden ⟨oo'.out.1.other3 _ _ _ _ (Nat.ne_of_gt hne), oo'.out.2.other3 _ _ _ _ (Nat.ne_of_gt (Nat.lt_trans hne hgl))⟩, ((bb.setCell hB0 _).setCell hB0 _).setCell hB0 _⟩
              | exact ⟨_, ga', da', gb', db', _, rfl, hidden (Three.new _ _ _ _ _), hidden ⟨oo0.out.1.keep (alloc_below _ _), oo0.out.2.keep (alloc_below _ _)⟩, keepB bb0 (alloc_below _ _)⟩
        case rest =>
          rename World => w15
          obtain ⟨R2b, ah, dah, bh, dbh, Bh, rfl, R2, x, hb⟩ := hcut
          replace D0 := hidden (D0.out.keep hb)
          replace B := hidden (keepB B.out hb)
          replace D1 := hidden (D1.out.keep hb)
          replace H := hidden (H.out.keep hb)
          replace H1 := hidden (H1.out.keep hb)
          replace H2 := hidden (H2.out.keep hb)
          replace R0 := hidden (R0.out.keep hb)
          replace LA1 := hidden (LA1.out.keep hb)
          replace LA2 := hidden (LA2.out.keep hb)
          replace X := hidden (X.out.keep hb)
          replace Y := hidden (Y.out.keep hb)
          replace G1 := hidden (G1.out.keep hb)
          replace G2 := hidden (G2.out.keep hb)
          replace R1 := hidden (R1.out.keep hb)
          have LH1 := hidden (x.out.1)
          have LH2 := hidden (x.out.2)
          clear d0 e0 e1 hb S1 S2 S3 CK x
          have r0 := R0.out.c0
          have r1 := R0.out.c1
          have r2 := R0.out.c2
          have r3 := R2.out.c0
          have r4 := R2.out.c1
          have r5 := R2.out.c2
          go_wp2_with fail
          with_reducible refine (eqEqR_eq _ _ _ _ _ _ _ _ _ _ U1 U2 _ LH1.out.ints LH2.out.ints LA1.out.ints LA2.out.ints M1.out M2.out).mono ?_
          rintro e w16 ⟨rfl, hb⟩
          replace D0 := hidden (D0.out.keep hb)
          replace B := hidden (keepB B.out hb)
          replace D1 := hidden (D1.out.keep hb)
          replace H := hidden (H.out.keep hb)
          replace H1 := hidden (H1.out.keep hb)
          replace H2 := hidden (H2.out.keep hb)
          replace R0 := hidden (R0.out.keep hb)
          replace LA1 := hidden (LA1.out.keep hb)
          replace LA2 := hidden (LA2.out.keep hb)
          replace X := hidden (X.out.keep hb)
          replace Y := hidden (Y.out.keep hb)
          replace G1 := hidden (G1.out.keep hb)
          replace G2 := hidden (G2.out.keep hb)
          replace R1 := hidden (R1.out.keep hb)
          replace R2 := hidden (R2.out.keep hb)
          replace LH1 := hidden (LH1.out.keep hb)
          replace LH2 := hidden (LH2.out.keep hb)
          clear r0 r1 r2 r3 r4 r5 hb
          have r3 := R1.out.c0
          have r4 := R1.out.c1
          have r5 := R1.out.c2
          go_wp2_with fail
          with_reducible refine (heldEqR_any ag m1 dag bg m2 dbg _ G1.out.ints G2.out.ints M1.out M2.out).mono ?_
          rintro e w17 ⟨rfl, hb⟩
          replace D0 := hidden (D0.out.keep hb)
          replace B := hidden (keepB B.out hb)
          replace D1 := hidden (D1.out.keep hb)
          replace H := hidden (H.out.keep hb)
          replace H1 := hidden (H1.out.keep hb)
          replace H2 := hidden (H2.out.keep hb)
          replace R0 := hidden (R0.out.keep hb)
          replace LA1 := hidden (LA1.out.keep hb)
          replace LA2 := hidden (LA2.out.keep hb)
          replace X := hidden (X.out.keep hb)
          replace Y := hidden (Y.out.keep hb)
          replace G1 := hidden (G1.out.keep hb)
          replace G2 := hidden (G2.out.keep hb)
          replace R1 := hidden (R1.out.keep hb)
          replace R2 := hidden (R2.out.keep hb)
          replace LH1 := hidden (LH1.out.keep hb)
          replace LH2 := hidden (LH2.out.keep hb)
          clear r3 r4 r5 hb
          go_wp2_with fail
          go_ret
          exact ⟨rfl, B.out⟩

set_option maxRecDepth 20000 in
set_option maxHeartbeats 12800000 in
theorem law_plain_bad (p : Option Addr) (n c : Nat) (N : Nat → ByteArray) (A : Nat → Int) (p1 : Option Addr) (m1 c1 : Nat) (L1 : Nat → Int) (p2 : Option Addr) (m2 c2 : Nat) (L2 : Nat → Int) (C : Int) (U1 U2 : Nat → Int) (hc : C ≠ 0) (w : World) (h : SrcS w p n N A) (h1 : SrcI w p1 m1 L1) (h2 : SrcI w p2 m2 L2) (hx1 : m1 ≤ maxLen) (hx2 : m2 ≤ maxLen)
    (SP : Hid (∀ b b1 b2 w, Syms w b 0 n N A → Ints w b1 0 m1 L1 → Ints w b2 0 m2 L2 → Kept n N A → m1 ≤ 1048576 → m2 ≤ 1048576 → Calls Try.prog 23 #[.agg #[.slice (some ⟨b, 0, none⟩) n n], .agg #[.slice (some ⟨b1, 0, none⟩) m1 m1, .slice (some ⟨b2, 0, none⟩) m2 m2]] w fun e w' => PAns w C m1 U1 m2 U2 e w' ∧ Below w.heap.size w w'))
    (IM : Hid (∀ b b1 b2 w, Syms w b 0 n N A → Ints w b1 0 m1 L1 → Ints w b2 0 m2 L2 → Kept n N A → m1 ≤ 1048576 → m2 ≤ 1048576 → Calls Try.prog 24 #[.agg #[.slice (some ⟨b, 0, none⟩) n n], .agg #[.slice (some ⟨b1, 0, none⟩) m1 m1, .slice (some ⟨b2, 0, none⟩) m2 m2]] w fun e w' => PAns w C m1 U1 m2 U2 e w' ∧ Below w.heap.size w w')) :
    Calls Try.prog 6 #[.agg #[.slice p n c], .agg #[.slice p1 m1 c1, .slice p2 m2 c2]] w fun e w' => e = .returned (.bool true) ∧ Below w.heap.size w w' := by
  have H0 := hidden h
  have K1 := hidden h1
  have K2 := hidden h2
  have X1 := hidden hx1
  have X2 := hidden hx2
  clear h h1 h2 hx1 hx2
  have HC := hidden hc
  clear hc
  have D0 := hidden (One.new w (.slice p n c) 24)
  have B := hidden (alloc_below w (.cells #[.slice p n c] 24))
  have hb := alloc_below (w.alloc (.cells #[.slice p n c] 24)) (.cells #[.slice p1 m1 c1, .slice p2 m2 c2] 40)
  replace D0 := hidden (D0.out.keep hb)
  replace B := hidden (keepB B.out hb)
  clear hb
  have D1 := hidden (Two.new (w.alloc (.cells #[.slice p n c] 24)) (.slice p1 m1 c1) (.slice p2 m2 c2) 40)
  simp only [World.size_alloc] at D1
  have H := hidden (H0.out.keep B.out)
  have H1 := hidden (K1.out.keep B.out)
  have H2 := hidden (K2.out.keep B.out)
  go_enter Try.func6, Try.ntmps6
  go_wp2_with fail
  with_reducible refine (szSignature_src p n c N A 1048576 _ H.out (by omega) (by omega)).mono ?_
  rintro e w1 ⟨⟨r1, rfl, hr⟩, hb⟩
  replace D0 := hidden (D0.out.keep hb)
  replace B := hidden (keepB B.out hb)
  replace D1 := hidden (D1.out.keep hb)
  replace H := hidden (H.out.keep hb)
  replace H1 := hidden (H1.out.keep hb)
  replace H2 := hidden (H2.out.keep hb)
  clear hb
  rcases hr with rfl | ⟨q0, q1, q2, q3⟩
  · go_wp2_with fail
    go_ret
    exact ⟨rfl, B.out⟩
  have HK := hidden (Kept.mk q2 q3 H.out.fits)
  clear q2 q3
  have e0 := D1.out.c0
  have e1 := D1.out.c1
  go_wp2_with fail
  with_reducible refine (szEquation_any p1 m1 c1 p2 m2 c2 _ _ X1.out X2.out q0 q1).mono ?_
  rintro e w2 ⟨⟨r2, rfl, hr⟩, hb⟩
  replace D0 := hidden (D0.out.keep hb)
  replace B := hidden (keepB B.out hb)
  replace D1 := hidden (D1.out.keep hb)
  replace H := hidden (H.out.keep hb)
  replace H1 := hidden (H1.out.keep hb)
  replace H2 := hidden (H2.out.keep hb)
  clear e0 e1 hb q0 q1
  rcases hr with rfl | ⟨q0, q1, q2, q3⟩
  · go_wp2_with fail
    go_ret
    exact ⟨rfl, B.out⟩
  have M1 := hidden q2
  have M2 := hidden q3
  clear q1 q2 q3
  have CK := hidden (show ∀ w', Below w2.heap.size w2 w' → (w'.cell? ⟨w.heap.size, 0, none⟩ = some (.slice p n c) ∧ w'.cell? ⟨w.heap.size + 1, 0, none⟩ = some (.slice p1 m1 c1) ∧ w'.cell? ⟨w.heap.size + 1, 1, none⟩ = some (.slice p2 m2 c2)) from fun w' hb => ⟨(D0.out.keep hb).c0, (D1.out.keep hb).c0, (D1.out.keep hb).c1⟩)
  have S1 := hidden (show ∀ wc, Below w2.heap.size w2 wc → Calls Try.prog 10 #[.agg #[.slice p n c]] wc fun e w' => ∃ g, e = .returned (.agg #[.slice (some ⟨g, 0, none⟩) n n]) ∧ Below w2.heap.size w2 w' ∧ Syms w' g 0 n N A ∧ Below wc.heap.size wc w' from fun wc hc => by
    refine (toSig_new p n c N A wc (H.out.keep hc) HK.out).mono ?_
    rintro e w' ⟨g, rfl, hg, hl, hs, hb⟩
    exact ⟨g, rfl, keepB hc hb, hs, hb⟩)
  have S2 := hidden (show ∀ wc g, Below w2.heap.size w2 wc → Syms wc g 0 n N A → Calls Try.prog 18 #[.agg #[.slice p1 m1 c1, .slice p2 m2 c2]] wc fun e w' => ∃ g1 g2, e = .returned (.agg #[.slice (some ⟨g1, 0, none⟩) m1 m1, .slice (some ⟨g2, 0, none⟩) m2 m2]) ∧ Below w2.heap.size w2 w' ∧ Syms w' g 0 n N A ∧ Ints w' g1 0 m1 L1 ∧ Ints w' g2 0 m2 L2 ∧ Below wc.heap.size wc w' from fun wc g hc hm => by
    refine (toEquation_src p1 m1 c1 L1 p2 m2 c2 L2 wc (H1.out.keep hc) (H2.out.keep hc) M1.out M2.out).mono ?_
    rintro e w' ⟨g1, g2, rfl, hg, hl, hs1, hs2, hb⟩
    exact ⟨g1, g2, rfl, keepB hc hb, hm.keep hb, hs1.ints, hs2.ints, hb⟩)
  have S3 := hidden (show ∀ wc g g1 g2, Below w2.heap.size w2 wc → Syms wc g 0 n N A → Ints wc g1 0 m1 L1 → Ints wc g2 0 m2 L2 → Calls Try.prog 23 #[.agg #[.slice (some ⟨g, 0, none⟩) n n], .agg #[.slice (some ⟨g1, 0, none⟩) m1 m1, .slice (some ⟨g2, 0, none⟩) m2 m2]] wc fun e w' => e = .returned (.agg #[.int .i64 C, .slice none 0 0, .slice none 0 0]) ∧ Below w2.heap.size w2 w' ∧ Below wc.heap.size wc w' from fun wc g g1 g2 hc hm hm1 hm2 => by
    refine (SP.out g g1 g2 wc hm hm1 hm2 HK.out M1.out M2.out).mono ?_
    rintro e w' ⟨ha, hb⟩
    rcases ha with ⟨-, rfl⟩ | ⟨ha, -⟩
    rotate_left
    · exact absurd ha HC.out
    exact ⟨rfl, keepB hc hb, hb⟩)
  have d0 := D0.out.c0
  have e0 := D1.out.c0
  have e1 := D1.out.c1
  go_wp2_with fail
  go_cut [6] (fun t wc => ∃ B0, t = .pointer (some ⟨B0, 0, none⟩) ∧ Hid (Three wc B0 (.int .i64 C) (.slice none 0 0) (.slice none 0 0)) ∧ Below w2.heap.size w2 wc)
  case first =>
    refine wp_region_held_drew (S := fun wz => wz.cell? ⟨w.heap.size, 0, none⟩ = some (.slice p n c) ∧ wz.cell? ⟨w.heap.size + 1, 0, none⟩ = some (.slice p1 m1 c1) ∧ wz.cell? ⟨w.heap.size + 1, 1, none⟩ = some (.slice p2 m2 c2)) (by kernel_rfl) ⟨d0, e0, e1⟩ (fun hHeld => ?_)
    have bb := (Below.refl w2.heap.size w2).drew
    refine wpAnyH_take (i := 0) (oi := { dst := some 24, op := Op.load 24 (Operand.tmp 2), type := 24, pos := "exact.go:3798", after := #[], guard := none }) (v := ?_) rfl (by kernel_rfl) (by kernel_rfl) (by kernel_rfl) (fun _ _ _ h => h) (Or.inl ⟨by rfl, ?_⟩) (by assumption) ?_
    rotate_left
    · (intro wv hSw; (try dsimp only at hSw); go_simp; try with_reducible rfl)
    try simp only [Act.put, List.setIfInBounds_toArray, List.set_cons_zero, List.set_cons_succ]
    refine wpAnyH_take (i := 2) (oi := { dst := some 26, op := Op.load 40 (Operand.tmp 3), type := 40, pos := "exact.go:3798", after := #[], guard := none }) (v := ?_) rfl (by kernel_rfl) (by kernel_rfl) (by kernel_rfl) (fun _ _ _ h => h) (Or.inl ⟨by rfl, ?_⟩) (by assumption) ?_
    rotate_left
    · (intro wv hSw; (try dsimp only at hSw); go_simp; try with_reducible rfl)
    try simp only [Act.put, List.setIfInBounds_toArray, List.set_cons_zero, List.set_cons_succ]
    refine wpAnyH_ready (rs := [1, 5]) (by kernel_rfl) (by simp) ?_
    refine AllReadyH.cons (o := { dst := some 25, op := Op.call { callee := Callee.value (Operand.func 10), args := #[Operand.tmp 24], argTypes := #[24] }, type := 32, pos := "exact.go:3798", after := #[{ on := 0, ground := Ground.data }], guard := none }) rfl (fun K hK => ?_) (AllReadyH.cons (o := { dst := some 6, op := Op.alloc 49, type := 0, pos := "exact.go:3798", after := #[], guard := none }) rfl (fun K hK => ?_) AllReadyH.nil)
    · go_simp
      go_at_call 10; with_reducible refine (S1.out _ bb).mono ?_; rintro e v5 ⟨g5', rfl, bb', m5', hb5⟩
      try go_wp2_with fail
      refine hK.out _ _ ?_ (fun hHeld => ?_)
      · exact CK.out _ bb'
      clear hK K
      clear bb hb5
      have bb := bb'
      clear bb'
      try simp only [Act.put, List.setIfInBounds_toArray, List.set_cons_zero, List.set_cons_succ]
      refine wpAnyH_ready (rs := [3, 5]) (by kernel_rfl) (by simp) ?_
      refine AllReadyH.cons (o := { dst := some 27, op := Op.call { callee := Callee.value (Operand.func 18), args := #[Operand.tmp 26], argTypes := #[40] }, type := 43, pos := "exact.go:3798", after := #[{ on := 2, ground := Ground.data }, { on := 1, ground := Ground.chain }], guard := none }) rfl (fun K hK => ?_) (AllReadyH.cons (o := { dst := some 6, op := Op.alloc 49, type := 0, pos := "exact.go:3798", after := #[], guard := none }) rfl (fun K hK => ?_) AllReadyH.nil)
      · go_simp
        go_at_call 18; with_reducible refine (S2.out _ _ bb m5').mono ?_; rintro e v6 ⟨g6', g7', rfl, bb', m5', i6', i7', hb5⟩
        try go_wp2_with fail
        refine hK.out _ _ ?_ (fun hHeld => ?_)
        · exact CK.out _ bb'
        clear hK K
        clear bb hb5
        have bb := bb'
        clear bb'
        try simp only [Act.put, List.setIfInBounds_toArray, List.set_cons_zero, List.set_cons_succ]
        refine wpAnyH_ready (rs := [4, 5]) (by kernel_rfl) (by simp) ?_
        refine AllReadyH.cons (o := { dst := some 28, op := Op.call { callee := Callee.value (Operand.func 23), args := #[Operand.tmp 25, Operand.tmp 27], argTypes := #[32, 43] }, type := 49, pos := "exact.go:3798", after := #[{ on := 1, ground := Ground.data }, { on := 3, ground := Ground.data }, { on := 3, ground := Ground.chain }], guard := none }) rfl (fun K hK => ?_) (AllReadyH.cons (o := { dst := some 6, op := Op.alloc 49, type := 0, pos := "exact.go:3798", after := #[], guard := none }) rfl (fun K hK => ?_) AllReadyH.nil)
        · go_simp
          go_at_call 23; with_reducible refine (S3.out _ _ _ _ bb m5' i6' i7').mono ?_; rintro e v7 ⟨rfl, bb', hb5⟩
          try go_wp2_with fail
          refine hK.out _ _ ?_ (fun hHeld => ?_)
          · exact CK.out _ bb'
          clear hK K
          clear bb hb5
          have bb := bb'
          clear bb'
          try simp only [Act.put, List.setIfInBounds_toArray, List.set_cons_zero, List.set_cons_succ]
          have bb0 := bb
          refine wpAnyH_ready (rs := [5]) (by kernel_rfl) (by simp) ?_
          refine AllReadyH.cons (o := { dst := some 6, op := Op.alloc 49, type := 0, pos := "exact.go:3798", after := #[], guard := none }) rfl (fun K hK => ?_) AllReadyH.nil
          go_simp
          have RR := Own3.new v7 (.int .i64 0) (.slice none 0 0) (.slice none 0 0) 49
          have hB0 := bb.size
          refine hK.out _ _ ?_ (fun hHeld => ?_)
          · exact CK.out _ (keepB bb (alloc_below _ _))
          clear hK K
          replace bb := keepB bb (alloc_below _ (.cells #[.int .i64 0, .slice none 0 0, .slice none 0 0] 49))
          replace m5' := m5'.keep (alloc_below _ (.cells #[.int .i64 0, .slice none 0 0, .slice none 0 0] 49))
          replace i6' := i6'.keep (alloc_below _ (.cells #[.int .i64 0, .slice none 0 0, .slice none 0 0] 49))
          replace i7' := i7'.keep (alloc_below _ (.cells #[.int .i64 0, .slice none 0 0, .slice none 0 0] 49))
          try simp only [Act.put, List.setIfInBounds_toArray, List.set_cons_zero, List.set_cons_succ]
          refine wpAnyH_ready (rs := [6]) (by kernel_rfl) (by simp) ?_
          refine AllReadyH.cons (o := { dst := none, op := Op.store 49 (Operand.tmp 6) (Operand.tmp 28), type := 0, pos := "exact.go:3798", after := #[{ on := 5, ground := Ground.data }, { on := 4, ground := Ground.data }, { on := 4, ground := Ground.chain }, { on := 0, ground := Ground.phase }, { on := 1, ground := Ground.phase }, { on := 2, ground := Ground.phase }, { on := 3, ground := Ground.phase }, { on := 4, ground := Ground.phase }, { on := 5, ground := Ground.phase }], guard := none }) rfl (fun K hK => ?_) AllReadyH.nil
          obtain ⟨q8, q0, q1, q2, f0, f1, f2⟩ := id RR
          go_simp
          refine hK.out _ _ ?_ (fun hHeld => ?_)
          · first | exact CK.out _ (((bb.setCell hB0 _).setCell hB0 _).setCell hB0 _) | exact CK.out _ (keepB bb0 (alloc_below _ _))
          clear hK K
          refine wpAnyH_done (by kernel_rfl) ?_ _
          go_wp2_with fail
          go_meet
          first
            | exact ⟨_, rfl, hidden (RR.sets _ _ _), ((bb.setCell hB0 _).setCell hB0 _).setCell hB0 _⟩
            | exact ⟨_, rfl, hidden (Three.new _ _ _ _ _), keepB bb0 (alloc_below _ _)⟩
        · go_simp
          have RR := Own3.new v6 (.int .i64 0) (.slice none 0 0) (.slice none 0 0) 49
          have hB0 := bb.size
          refine hK.out _ _ ?_ (fun hHeld => ?_)
          · exact CK.out _ (keepB bb (alloc_below _ _))
          clear hK K
          replace bb := keepB bb (alloc_below _ (.cells #[.int .i64 0, .slice none 0 0, .slice none 0 0] 49))
          replace m5' := m5'.keep (alloc_below _ (.cells #[.int .i64 0, .slice none 0 0, .slice none 0 0] 49))
          replace i6' := i6'.keep (alloc_below _ (.cells #[.int .i64 0, .slice none 0 0, .slice none 0 0] 49))
          replace i7' := i7'.keep (alloc_below _ (.cells #[.int .i64 0, .slice none 0 0, .slice none 0 0] 49))
          try simp only [Act.put, List.setIfInBounds_toArray, List.set_cons_zero, List.set_cons_succ]
          refine wpAnyH_ready (rs := [4]) (by kernel_rfl) (by simp) ?_
          refine AllReadyH.cons (o := { dst := some 28, op := Op.call { callee := Callee.value (Operand.func 23), args := #[Operand.tmp 25, Operand.tmp 27], argTypes := #[32, 43] }, type := 49, pos := "exact.go:3798", after := #[{ on := 1, ground := Ground.data }, { on := 3, ground := Ground.data }, { on := 3, ground := Ground.chain }], guard := none }) rfl (fun K hK => ?_) AllReadyH.nil
          go_simp
          go_at_call 23; with_reducible refine (S3.out _ _ _ _ bb m5' i6' i7').mono ?_; rintro e v7 ⟨rfl, bb', hb5⟩
          try go_wp2_with fail
          refine hK.out _ _ ?_ (fun hHeld => ?_)
          · exact CK.out _ bb'
          clear hK K
          replace RR := RR.keep hb5
          clear bb hb5
          have bb := bb'
          clear bb'
          try simp only [Act.put, List.setIfInBounds_toArray, List.set_cons_zero, List.set_cons_succ]
          have bb0 := bb
          refine wpAnyH_ready (rs := [6]) (by kernel_rfl) (by simp) ?_
          refine AllReadyH.cons (o := { dst := none, op := Op.store 49 (Operand.tmp 6) (Operand.tmp 28), type := 0, pos := "exact.go:3798", after := #[{ on := 5, ground := Ground.data }, { on := 4, ground := Ground.data }, { on := 4, ground := Ground.chain }, { on := 0, ground := Ground.phase }, { on := 1, ground := Ground.phase }, { on := 2, ground := Ground.phase }, { on := 3, ground := Ground.phase }, { on := 4, ground := Ground.phase }, { on := 5, ground := Ground.phase }], guard := none }) rfl (fun K hK => ?_) AllReadyH.nil
          obtain ⟨q8, q0, q1, q2, f0, f1, f2⟩ := id RR
          go_simp
          refine hK.out _ _ ?_ (fun hHeld => ?_)
          · first | exact CK.out _ (((bb.setCell hB0 _).setCell hB0 _).setCell hB0 _) | exact CK.out _ (keepB bb0 (alloc_below _ _))
          clear hK K
          refine wpAnyH_done (by kernel_rfl) ?_ _
          go_wp2_with fail
          go_meet
          first
            | exact ⟨_, rfl, hidden (RR.sets _ _ _), ((bb.setCell hB0 _).setCell hB0 _).setCell hB0 _⟩
            | exact ⟨_, rfl, hidden (Three.new _ _ _ _ _), keepB bb0 (alloc_below _ _)⟩
      · go_simp
        have RR := Own3.new v5 (.int .i64 0) (.slice none 0 0) (.slice none 0 0) 49
        have hB0 := bb.size
        refine hK.out _ _ ?_ (fun hHeld => ?_)
        · exact CK.out _ (keepB bb (alloc_below _ _))
        clear hK K
        replace bb := keepB bb (alloc_below _ (.cells #[.int .i64 0, .slice none 0 0, .slice none 0 0] 49))
        replace m5' := m5'.keep (alloc_below _ (.cells #[.int .i64 0, .slice none 0 0, .slice none 0 0] 49))
        try simp only [Act.put, List.setIfInBounds_toArray, List.set_cons_zero, List.set_cons_succ]
        refine wpAnyH_ready (rs := [3]) (by kernel_rfl) (by simp) ?_
        refine AllReadyH.cons (o := { dst := some 27, op := Op.call { callee := Callee.value (Operand.func 18), args := #[Operand.tmp 26], argTypes := #[40] }, type := 43, pos := "exact.go:3798", after := #[{ on := 2, ground := Ground.data }, { on := 1, ground := Ground.chain }], guard := none }) rfl (fun K hK => ?_) AllReadyH.nil
        go_simp
        go_at_call 18; with_reducible refine (S2.out _ _ bb m5').mono ?_; rintro e v6 ⟨g6', g7', rfl, bb', m5', i6', i7', hb5⟩
        try go_wp2_with fail
        refine hK.out _ _ ?_ (fun hHeld => ?_)
        · exact CK.out _ bb'
        clear hK K
        replace RR := RR.keep hb5
        clear bb hb5
        have bb := bb'
        clear bb'
        try simp only [Act.put, List.setIfInBounds_toArray, List.set_cons_zero, List.set_cons_succ]
        refine wpAnyH_ready (rs := [4]) (by kernel_rfl) (by simp) ?_
        refine AllReadyH.cons (o := { dst := some 28, op := Op.call { callee := Callee.value (Operand.func 23), args := #[Operand.tmp 25, Operand.tmp 27], argTypes := #[32, 43] }, type := 49, pos := "exact.go:3798", after := #[{ on := 1, ground := Ground.data }, { on := 3, ground := Ground.data }, { on := 3, ground := Ground.chain }], guard := none }) rfl (fun K hK => ?_) AllReadyH.nil
        go_simp
        go_at_call 23; with_reducible refine (S3.out _ _ _ _ bb m5' i6' i7').mono ?_; rintro e v7 ⟨rfl, bb', hb5⟩
        try go_wp2_with fail
        refine hK.out _ _ ?_ (fun hHeld => ?_)
        · exact CK.out _ bb'
        clear hK K
        replace RR := RR.keep hb5
        clear bb hb5
        have bb := bb'
        clear bb'
        try simp only [Act.put, List.setIfInBounds_toArray, List.set_cons_zero, List.set_cons_succ]
        have bb0 := bb
        refine wpAnyH_ready (rs := [6]) (by kernel_rfl) (by simp) ?_
        refine AllReadyH.cons (o := { dst := none, op := Op.store 49 (Operand.tmp 6) (Operand.tmp 28), type := 0, pos := "exact.go:3798", after := #[{ on := 5, ground := Ground.data }, { on := 4, ground := Ground.data }, { on := 4, ground := Ground.chain }, { on := 0, ground := Ground.phase }, { on := 1, ground := Ground.phase }, { on := 2, ground := Ground.phase }, { on := 3, ground := Ground.phase }, { on := 4, ground := Ground.phase }, { on := 5, ground := Ground.phase }], guard := none }) rfl (fun K hK => ?_) AllReadyH.nil
        obtain ⟨q8, q0, q1, q2, f0, f1, f2⟩ := id RR
        go_simp
        refine hK.out _ _ ?_ (fun hHeld => ?_)
        · first | exact CK.out _ (((bb.setCell hB0 _).setCell hB0 _).setCell hB0 _) | exact CK.out _ (keepB bb0 (alloc_below _ _))
        clear hK K
        refine wpAnyH_done (by kernel_rfl) ?_ _
        go_wp2_with fail
        go_meet
        first
          | exact ⟨_, rfl, hidden (RR.sets _ _ _), ((bb.setCell hB0 _).setCell hB0 _).setCell hB0 _⟩
          | exact ⟨_, rfl, hidden (Three.new _ _ _ _ _), keepB bb0 (alloc_below _ _)⟩
    · go_simp
      have RR := (Own3.new w2 (.int .i64 0) (.slice none 0 0) (.slice none 0 0) 49).keep (Below.refl _ _).drew
      have hB0 := bb.size
      refine hK.out _ _ ?_ (fun hHeld => ?_)
      · exact CK.out _ (alloc_below _ _).drew
      clear hK K
      replace bb := (alloc_below w2 (.cells #[.int .i64 0, .slice none 0 0, .slice none 0 0] 49)).drew
      try simp only [Act.put, List.setIfInBounds_toArray, List.set_cons_zero, List.set_cons_succ]
      refine wpAnyH_ready (rs := [1]) (by kernel_rfl) (by simp) ?_
      refine AllReadyH.cons (o := { dst := some 25, op := Op.call { callee := Callee.value (Operand.func 10), args := #[Operand.tmp 24], argTypes := #[24] }, type := 32, pos := "exact.go:3798", after := #[{ on := 0, ground := Ground.data }], guard := none }) rfl (fun K hK => ?_) AllReadyH.nil
      go_simp
      go_at_call 10; with_reducible refine (S1.out _ bb).mono ?_; rintro e v5 ⟨g5', rfl, bb', m5', hb5⟩
      try go_wp2_with fail
      refine hK.out _ _ ?_ (fun hHeld => ?_)
      · exact CK.out _ bb'
      clear hK K
      replace RR := RR.keep hb5
      clear bb hb5
      have bb := bb'
      clear bb'
      try simp only [Act.put, List.setIfInBounds_toArray, List.set_cons_zero, List.set_cons_succ]
      refine wpAnyH_ready (rs := [3]) (by kernel_rfl) (by simp) ?_
      refine AllReadyH.cons (o := { dst := some 27, op := Op.call { callee := Callee.value (Operand.func 18), args := #[Operand.tmp 26], argTypes := #[40] }, type := 43, pos := "exact.go:3798", after := #[{ on := 2, ground := Ground.data }, { on := 1, ground := Ground.chain }], guard := none }) rfl (fun K hK => ?_) AllReadyH.nil
      go_simp
      go_at_call 18; with_reducible refine (S2.out _ _ bb m5').mono ?_; rintro e v6 ⟨g6', g7', rfl, bb', m5', i6', i7', hb5⟩
      try go_wp2_with fail
      refine hK.out _ _ ?_ (fun hHeld => ?_)
      · exact CK.out _ bb'
      clear hK K
      replace RR := RR.keep hb5
      clear bb hb5
      have bb := bb'
      clear bb'
      try simp only [Act.put, List.setIfInBounds_toArray, List.set_cons_zero, List.set_cons_succ]
      refine wpAnyH_ready (rs := [4]) (by kernel_rfl) (by simp) ?_
      refine AllReadyH.cons (o := { dst := some 28, op := Op.call { callee := Callee.value (Operand.func 23), args := #[Operand.tmp 25, Operand.tmp 27], argTypes := #[32, 43] }, type := 49, pos := "exact.go:3798", after := #[{ on := 1, ground := Ground.data }, { on := 3, ground := Ground.data }, { on := 3, ground := Ground.chain }], guard := none }) rfl (fun K hK => ?_) AllReadyH.nil
      go_simp
      go_at_call 23; with_reducible refine (S3.out _ _ _ _ bb m5' i6' i7').mono ?_; rintro e v7 ⟨rfl, bb', hb5⟩
      try go_wp2_with fail
      refine hK.out _ _ ?_ (fun hHeld => ?_)
      · exact CK.out _ bb'
      clear hK K
      replace RR := RR.keep hb5
      clear bb hb5
      have bb := bb'
      clear bb'
      try simp only [Act.put, List.setIfInBounds_toArray, List.set_cons_zero, List.set_cons_succ]
      have bb0 := bb
      refine wpAnyH_ready (rs := [6]) (by kernel_rfl) (by simp) ?_
      refine AllReadyH.cons (o := { dst := none, op := Op.store 49 (Operand.tmp 6) (Operand.tmp 28), type := 0, pos := "exact.go:3798", after := #[{ on := 5, ground := Ground.data }, { on := 4, ground := Ground.data }, { on := 4, ground := Ground.chain }, { on := 0, ground := Ground.phase }, { on := 1, ground := Ground.phase }, { on := 2, ground := Ground.phase }, { on := 3, ground := Ground.phase }, { on := 4, ground := Ground.phase }, { on := 5, ground := Ground.phase }], guard := none }) rfl (fun K hK => ?_) AllReadyH.nil
      obtain ⟨q8, q0, q1, q2, f0, f1, f2⟩ := id RR
      go_simp
      refine hK.out _ _ ?_ (fun hHeld => ?_)
      · first | exact CK.out _ (((bb.setCell hB0 _).setCell hB0 _).setCell hB0 _) | exact CK.out _ (keepB bb0 (alloc_below _ _))
      clear hK K
      refine wpAnyH_done (by kernel_rfl) ?_ _
      go_wp2_with fail
      go_meet
      first
        | exact ⟨_, rfl, hidden (RR.sets _ _ _), ((bb.setCell hB0 _).setCell hB0 _).setCell hB0 _⟩
        | exact ⟨_, rfl, hidden (Three.new _ _ _ _ _), keepB bb0 (alloc_below _ _)⟩
  case rest =>
    rename World => w3
    obtain ⟨R0b, rfl, R0, hb⟩ := hcut
    replace D0 := hidden (D0.out.keep hb)
    replace B := hidden (keepB B.out hb)
    replace D1 := hidden (D1.out.keep hb)
    replace H := hidden (H.out.keep hb)
    replace H1 := hidden (H1.out.keep hb)
    replace H2 := hidden (H2.out.keep hb)
    clear d0 e0 e1 hb S1 S2 S3 CK
    have d0 := D0.out.c0
    go_wp2_with fail
    have BSx := hidden B.out.size
    with_reducible refine (toSignature_src p n c N A _ H.out HK.out).mono ?_
    rintro e w4 ⟨gx, rfl, hgx, hs, hb⟩
    have L_D0_Q := hidden (Nat.lt_of_lt_of_le D0.out.blk hgx)
    have L_D1_Q := hidden (Nat.lt_of_lt_of_le D1.out.blk hgx)
    have L_R0_Q := hidden (Nat.lt_of_lt_of_le R0.out.blk hgx)
    replace D0 := hidden (D0.out.keep hb)
    replace B := hidden (keepB B.out hb)
    replace D1 := hidden (D1.out.keep hb)
    replace H := hidden (H.out.keep hb)
    replace H1 := hidden (H1.out.keep hb)
    replace H2 := hidden (H2.out.keep hb)
    replace R0 := hidden (R0.out.keep hb)
    have Q := hidden (hs)
    clear d0 hb
    have GX := hidden (Nat.le_trans BSx.out hgx)
    clear hs hgx BSx
    have L_Q_X := hidden (Nat.lt_of_lt_of_le Q.out.lt (Nat.le_refl _))
    have hb := alloc_below w4 (.cells #[.slice (some ⟨gx, 0, none⟩) n n] 32)
    replace D0 := hidden (D0.out.keep hb)
    replace B := hidden (keepB B.out hb)
    replace D1 := hidden (D1.out.keep hb)
    replace H := hidden (H.out.keep hb)
    replace H1 := hidden (H1.out.keep hb)
    replace H2 := hidden (H2.out.keep hb)
    replace R0 := hidden (R0.out.keep hb)
    replace Q := hidden (Q.out.keep hb)
    clear hb
    have X := hidden (One.new w4 (.slice (some ⟨gx, 0, none⟩) n n) 32)
    have BSx := hidden B.out.size
    have e0 := D1.out.c0
    have e1 := D1.out.c1
    go_wp2_with fail
    with_reducible refine (toEquation_src p1 m1 c1 L1 p2 m2 c2 L2 _ H1.out H2.out M1.out M2.out).mono ?_
    rintro e w5 ⟨gy, gz, rfl, hg, hl, hs1, hs2, hb⟩
    have L_D0_Q1 := hidden (Nat.lt_of_lt_of_le D0.out.blk hg)
    have L_D1_Q1 := hidden (Nat.lt_of_lt_of_le D1.out.blk hg)
    have L_R0_Q1 := hidden (Nat.lt_of_lt_of_le R0.out.blk hg)
    have L_Q_Q1 := hidden (Nat.lt_of_lt_of_le Q.out.lt hg)
    have L_X_Q1 := hidden (Nat.lt_of_lt_of_le X.out.blk hg)
    have L_D0_Q2 := hidden (Nat.lt_of_lt_of_le D0.out.blk (Nat.le_of_lt (Nat.lt_of_le_of_lt hg hl)))
    have L_D1_Q2 := hidden (Nat.lt_of_lt_of_le D1.out.blk (Nat.le_of_lt (Nat.lt_of_le_of_lt hg hl)))
    have L_R0_Q2 := hidden (Nat.lt_of_lt_of_le R0.out.blk (Nat.le_of_lt (Nat.lt_of_le_of_lt hg hl)))
    have L_Q_Q2 := hidden (Nat.lt_of_lt_of_le Q.out.lt (Nat.le_of_lt (Nat.lt_of_le_of_lt hg hl)))
    have L_X_Q2 := hidden (Nat.lt_of_lt_of_le X.out.blk (Nat.le_of_lt (Nat.lt_of_le_of_lt hg hl)))
    replace D0 := hidden (D0.out.keep hb)
    replace B := hidden (keepB B.out hb)
    replace D1 := hidden (D1.out.keep hb)
    replace H := hidden (H.out.keep hb)
    replace H1 := hidden (H1.out.keep hb)
    replace H2 := hidden (H2.out.keep hb)
    replace R0 := hidden (R0.out.keep hb)
    replace Q := hidden (Q.out.keep hb)
    replace X := hidden (X.out.keep hb)
    have Q1 := hidden (hs1)
    have Q2 := hidden (hs2)
    clear e0 e1 hb
    have GY := hidden (Nat.le_trans BSx.out hg)
    have L_Q1_Q2 := hidden hl
    have GZ := hidden (Nat.le_of_lt (Nat.lt_of_le_of_lt GY.out hl))
    clear hs1 hs2 hg hl BSx
    have L_Q_Y := hidden (Nat.lt_of_lt_of_le Q.out.lt (Nat.le_refl _))
    have L_Q1_Y := hidden (Nat.lt_of_lt_of_le Q1.out.lt (Nat.le_refl _))
    have L_Q2_Y := hidden (Nat.lt_of_lt_of_le Q2.out.lt (Nat.le_refl _))
    have hb := alloc_below w5 (.cells #[.slice (some ⟨gy, 0, none⟩) m1 m1, .slice (some ⟨gz, 0, none⟩) m2 m2] 43)
    replace D0 := hidden (D0.out.keep hb)
    replace B := hidden (keepB B.out hb)
    replace D1 := hidden (D1.out.keep hb)
    replace H := hidden (H.out.keep hb)
    replace H1 := hidden (H1.out.keep hb)
    replace H2 := hidden (H2.out.keep hb)
    replace R0 := hidden (R0.out.keep hb)
    replace Q := hidden (Q.out.keep hb)
    replace X := hidden (X.out.keep hb)
    replace Q1 := hidden (Q1.out.keep hb)
    replace Q2 := hidden (Q2.out.keep hb)
    clear hb
    have Y := hidden (Two.new w5 (.slice (some ⟨gy, 0, none⟩) m1 m1) (.slice (some ⟨gz, 0, none⟩) m2 m2) 43)
    have x0 := X.out.c0
    have y0 := Y.out.c0
    have y1 := Y.out.c1
    go_wp2_with fail
    have BSx := hidden B.out.size
    with_reducible refine (IM.out _ _ _ _ (Q.out.syms HK.out.big HK.out.fits) Q1.out.ints Q2.out.ints HK.out M1.out M2.out).mono ?_
    rintro e w6 ⟨ha, hb⟩
    rcases ha with ⟨-, rfl⟩ | ⟨ha, -⟩
    rotate_left
    · exact absurd ha HC.out
    replace D0 := hidden (D0.out.keep hb)
    replace B := hidden (keepB B.out hb)
    replace D1 := hidden (D1.out.keep hb)
    replace H := hidden (H.out.keep hb)
    replace H1 := hidden (H1.out.keep hb)
    replace H2 := hidden (H2.out.keep hb)
    replace R0 := hidden (R0.out.keep hb)
    replace Q := hidden (Q.out.keep hb)
    replace X := hidden (X.out.keep hb)
    replace Q1 := hidden (Q1.out.keep hb)
    replace Q2 := hidden (Q2.out.keep hb)
    replace Y := hidden (Y.out.keep hb)
    clear x0 y0 y1 hb BSx
    have L_Q_R1 := hidden (Nat.lt_of_lt_of_le Q.out.lt (Nat.le_refl _))
    have L_Q1_R1 := hidden (Nat.lt_of_lt_of_le Q1.out.lt (Nat.le_refl _))
    have L_Q2_R1 := hidden (Nat.lt_of_lt_of_le Q2.out.lt (Nat.le_refl _))
    have hb := alloc_below w6 (.cells #[.int .i64 C, .slice none 0 0, .slice none 0 0] 49)
    replace D0 := hidden (D0.out.keep hb)
    replace B := hidden (keepB B.out hb)
    replace D1 := hidden (D1.out.keep hb)
    replace H := hidden (H.out.keep hb)
    replace H1 := hidden (H1.out.keep hb)
    replace H2 := hidden (H2.out.keep hb)
    replace R0 := hidden (R0.out.keep hb)
    replace Q := hidden (Q.out.keep hb)
    replace X := hidden (X.out.keep hb)
    replace Q1 := hidden (Q1.out.keep hb)
    replace Q2 := hidden (Q2.out.keep hb)
    replace Y := hidden (Y.out.keep hb)
    clear hb
    have R1 := hidden (Three.new w6 (.int .i64 C) (.slice none 0 0) (.slice none 0 0) 49)
    have r0 := R0.out.c0
    have r1 := R0.out.c1
    have r2 := R0.out.c2
    have r3 := R1.out.c0
    have r4 := R1.out.c1
    have r5 := R1.out.c2
    go_wp2_with fail
    with_reducible refine (eqEqR_none _ _).mono ?_
    rintro e w7 ⟨rfl, hb⟩
    replace D0 := hidden (D0.out.keep hb)
    replace B := hidden (keepB B.out hb)
    replace D1 := hidden (D1.out.keep hb)
    replace H := hidden (H.out.keep hb)
    replace H1 := hidden (H1.out.keep hb)
    replace H2 := hidden (H2.out.keep hb)
    replace R0 := hidden (R0.out.keep hb)
    replace Q := hidden (Q.out.keep hb)
    replace X := hidden (X.out.keep hb)
    replace Q1 := hidden (Q1.out.keep hb)
    replace Q2 := hidden (Q2.out.keep hb)
    replace Y := hidden (Y.out.keep hb)
    replace R1 := hidden (R1.out.keep hb)
    clear r0 r1 r2 r3 r4 r5 hb
    have QS := hidden (Q.out.syms HK.out.big HK.out.fits)
    have S1 := hidden (show ∀ wc, Below w7.heap.size w7 wc → Calls Try.prog 10 #[.agg #[.slice p n c]] wc fun e w' => ∃ g, e = .returned (.agg #[.slice (some ⟨g, 0, none⟩) n n]) ∧ Below w7.heap.size w7 w' ∧ Syms w' g 0 n N A ∧ w'.cell? ⟨w4.heap.size, 0, none⟩ = some (.slice (some ⟨gx, 0, none⟩) n n) from fun wc hc => by
      refine (toSig_new p n c N A wc (H.out.keep hc) HK.out).mono ?_
      rintro e w' ⟨g, rfl, hg, hl, hs, hb⟩
      exact ⟨g, rfl, keepB hc hb, hs, (X.out.keep (keepB hc hb)).c0⟩)
    have S2 := hidden (show ∀ wc g, Below w7.heap.size w7 wc → Syms wc g 0 n N A → Calls Try.prog 14 #[.agg #[.slice (some ⟨gx, 0, none⟩) n n], .agg #[.slice (some ⟨g, 0, none⟩) n n]] wc fun e w' => e = .returned (.bool true) ∧ Below w7.heap.size w7 w' from fun wc g hc hm => by
      refine (eqSignature_eq gx 0 g 0 n n n N A wc (QS.out.keep hc) hm HK.out.most).mono ?_
      rintro e w' ⟨rfl, hb⟩
      exact ⟨rfl, keepB hc hb⟩)
    have x0 := X.out.c0
    have d0 := D0.out.c0
    go_wp2_with fail
    go_cut [44] (fun t wc => t = .bool false ∧ Below w7.heap.size w7 wc)
    case first =>
      go_region_with (first
        | (go_at_call 10; with_reducible refine (S1.out _ ?_).mono ?_; exact (Below.refl _ _).drew; rintro e v5 ⟨g5', rfl, b5', m5', d5'⟩)
        | (go_at_call 14; with_reducible refine (S2.out _ _ b5' m5').mono ?_; rintro e v6 ⟨rfl, b6'⟩))
      all_goals (go_wp2_with fail; go_meet)
      all_goals exact ⟨rfl, b6'⟩
    case rest =>
      rename World => w8
      obtain ⟨rfl, hb⟩ := hcut
      replace D0 := hidden (D0.out.keep hb)
      replace B := hidden (keepB B.out hb)
      replace D1 := hidden (D1.out.keep hb)
      replace H := hidden (H.out.keep hb)
      replace H1 := hidden (H1.out.keep hb)
      replace H2 := hidden (H2.out.keep hb)
      replace R0 := hidden (R0.out.keep hb)
      replace Q := hidden (Q.out.keep hb)
      replace X := hidden (X.out.keep hb)
      replace Q1 := hidden (Q1.out.keep hb)
      replace Q2 := hidden (Q2.out.keep hb)
      replace Y := hidden (Y.out.keep hb)
      replace R1 := hidden (R1.out.keep hb)
      replace QS := hidden (QS.out.keep hb)
      clear x0 d0 hb S1 S2
      clear QS
      have QA := hidden Q1.out.ints
      have QB := hidden Q2.out.ints
      have S1 := hidden (show ∀ wc, Below w8.heap.size w8 wc → Calls Try.prog 18 #[.agg #[.slice p1 m1 c1, .slice p2 m2 c2]] wc fun e w' => ∃ h1 h2, e = .returned (.agg #[.slice (some ⟨h1, 0, none⟩) m1 m1, .slice (some ⟨h2, 0, none⟩) m2 m2]) ∧ Below w8.heap.size w8 w' ∧ Ints w' h1 0 m1 L1 ∧ Ints w' h2 0 m2 L2 ∧ w'.cell? ⟨w5.heap.size, 0, none⟩ = some (.slice (some ⟨gy, 0, none⟩) m1 m1) ∧ w'.cell? ⟨w5.heap.size, 1, none⟩ = some (.slice (some ⟨gz, 0, none⟩) m2 m2) from fun wc hc => by
        refine (toEquation_src p1 m1 c1 L1 p2 m2 c2 L2 wc (H1.out.keep hc) (H2.out.keep hc) M1.out M2.out).mono ?_
        rintro e w' ⟨h1, h2, rfl, hg, hl, hs1, hs2, hb⟩
        exact ⟨h1, h2, rfl, keepB hc hb, hs1.ints, hs2.ints, (Y.out.keep (keepB hc hb)).c0, (Y.out.keep (keepB hc hb)).c1⟩)
      have S2 := hidden (show ∀ wc h1 h2, Below w8.heap.size w8 wc → Ints wc h1 0 m1 L1 → Ints wc h2 0 m2 L2 → Calls Try.prog 20 #[.agg #[.slice (some ⟨gy, 0, none⟩) m1 m1, .slice (some ⟨gz, 0, none⟩) m2 m2], .agg #[.slice (some ⟨h1, 0, none⟩) m1 m1, .slice (some ⟨h2, 0, none⟩) m2 m2]] wc fun e w' => e = .returned (.bool true) ∧ Below w8.heap.size w8 w' from fun wc h1 h2 hc hm1 hm2 => by
        refine (eqEquation_eq _ _ _ _ _ _ _ _ _ _ _ _ _ _ L1 L2 wc (QA.out.keep hc) (QB.out.keep hc) hm1 hm2 M1.out M2.out).mono ?_
        rintro e w' ⟨rfl, hb⟩
        exact ⟨rfl, keepB hc hb⟩)
      have x0 := Y.out.c0
      have x1 := Y.out.c1
      have e0 := D1.out.c0
      have e1 := D1.out.c1
      go_wp2_with fail
      go_cut [49] (fun t wc => t = .bool false ∧ Below w8.heap.size w8 wc)
      case first =>
        go_region_with (first
          | (go_at_call 18; with_reducible refine (S1.out _ ?_).mono ?_; exact (Below.refl _ _).drew; rintro e v5 ⟨g5', g6', rfl, b5', m5', m6', d5', d6'⟩)
          | (go_at_call 20; with_reducible refine (S2.out _ _ _ b5' m5' m6').mono ?_; rintro e v6 ⟨rfl, b6'⟩))
        all_goals (go_wp2_with fail; go_meet)
        all_goals exact ⟨rfl, b6'⟩
      case rest =>
        rename World => w9
        obtain ⟨rfl, hb⟩ := hcut
        replace D0 := hidden (D0.out.keep hb)
        replace B := hidden (keepB B.out hb)
        replace D1 := hidden (D1.out.keep hb)
        replace H := hidden (H.out.keep hb)
        replace H1 := hidden (H1.out.keep hb)
        replace H2 := hidden (H2.out.keep hb)
        replace R0 := hidden (R0.out.keep hb)
        replace Q := hidden (Q.out.keep hb)
        replace X := hidden (X.out.keep hb)
        replace Q1 := hidden (Q1.out.keep hb)
        replace Q2 := hidden (Q2.out.keep hb)
        replace Y := hidden (Y.out.keep hb)
        replace R1 := hidden (R1.out.keep hb)
        replace QA := hidden (QA.out.keep hb)
        replace QB := hidden (QB.out.keep hb)
        clear x0 x1 e0 e1 hb S1 S2
        clear QA QB
        have x0 := X.out.c0
        go_wp2_with fail
        with_reducible refine (markSignature_z _ gx n n 1 N A _ Q.out HK.out.most (by omega) (by omega)).mono ?_
        rintro e w10 ⟨rfl, -, hg⟩
        replace B := hidden (grownB B.out hg GX.out)
        replace D0 := hidden (D0.out.grown hg (Nat.ne_of_lt L_D0_Q.out))
        replace D1 := hidden (D1.out.grown hg (Nat.ne_of_lt L_D1_Q.out))
        replace H := hidden (H0.out.keep B.out)
        replace H1 := hidden (K1.out.keep B.out)
        replace H2 := hidden (K2.out.keep B.out)
        replace R0 := hidden (R0.out.grown hg (Nat.ne_of_lt L_R0_Q.out))
        replace X := hidden (X.out.grown hg (Nat.ne_of_gt L_Q_X.out))
        replace Q1 := hidden (Q1.out.grown hg (Nat.ne_of_gt L_Q_Q1.out))
        replace Q2 := hidden (Q2.out.grown hg (Nat.ne_of_gt L_Q_Q2.out))
        replace Y := hidden (Y.out.grown hg (Nat.ne_of_gt L_Q_Y.out))
        replace R1 := hidden (R1.out.grown hg (Nat.ne_of_gt L_Q_R1.out))
        clear Q
        clear x0 hg
        have HN1 := HK.out.most
        have y0 := Y.out.c0
        have y1 := Y.out.c1
        go_wp2_with fail
        have HM1x := M1.out
        have HM2x := M2.out
        with_reducible refine (markEq_z _ _ gy m1 m1 gz m2 m2 (1 + 2 * n) L1 L2 _ Q1.out Q2.out L_Q1_Q2.out M1.out M2.out (by omega) (by omega)).mono ?_
        rintro e w11 ⟨rfl, wm, hga, hgb⟩
        replace B := hidden (grownB (grownB B.out hga GY.out) hgb GZ.out)
        replace D0 := hidden ((D0.out.grown hga (Nat.ne_of_lt L_D0_Q1.out)).grown hgb (Nat.ne_of_lt L_D0_Q2.out))
        replace D1 := hidden ((D1.out.grown hga (Nat.ne_of_lt L_D1_Q1.out)).grown hgb (Nat.ne_of_lt L_D1_Q2.out))
        replace H := hidden (H0.out.keep B.out)
        replace H1 := hidden (K1.out.keep B.out)
        replace H2 := hidden (K2.out.keep B.out)
        replace R0 := hidden ((R0.out.grown hga (Nat.ne_of_lt L_R0_Q1.out)).grown hgb (Nat.ne_of_lt L_R0_Q2.out))
        replace X := hidden ((X.out.grown hga (Nat.ne_of_lt L_X_Q1.out)).grown hgb (Nat.ne_of_lt L_X_Q2.out))
        replace Y := hidden ((Y.out.grown hga (Nat.ne_of_gt L_Q1_Y.out)).grown hgb (Nat.ne_of_gt L_Q2_Y.out))
        replace R1 := hidden ((R1.out.grown hga (Nat.ne_of_gt L_Q1_R1.out)).grown hgb (Nat.ne_of_gt L_Q2_R1.out))
        clear Q1 Q2
        clear y0 y1 hga hgb
        have r0 := R0.out.c0
        have r1 := R0.out.c1
        have r2 := R0.out.c2
        have r3 := R1.out.c0
        have r4 := R1.out.c1
        have r5 := R1.out.c2
        have hkk : decide ((1 : Int) + 2 * n + m1 + m2 < 0) = false := by simp; omega
        go_wp2_with fail
        with_reducible refine (eqEqR_none _ _).mono ?_
        rintro e w12 ⟨rfl, hb⟩
        replace D0 := hidden (D0.out.keep hb)
        replace B := hidden (keepB B.out hb)
        replace D1 := hidden (D1.out.keep hb)
        replace H := hidden (H.out.keep hb)
        replace H1 := hidden (H1.out.keep hb)
        replace H2 := hidden (H2.out.keep hb)
        replace R0 := hidden (R0.out.keep hb)
        replace X := hidden (X.out.keep hb)
        replace Y := hidden (Y.out.keep hb)
        replace R1 := hidden (R1.out.keep hb)
        clear r0 r1 r2 r3 r4 r5 hb
        have r3 := R1.out.c0
        have r4 := R1.out.c1
        have r5 := R1.out.c2
        go_wp2_with fail
        with_reducible refine (markEqR_none _ _).mono ?_
        rintro e w13 ⟨rfl, hb⟩
        replace D0 := hidden (D0.out.keep hb)
        replace B := hidden (keepB B.out hb)
        replace D1 := hidden (D1.out.keep hb)
        replace H := hidden (H.out.keep hb)
        replace H1 := hidden (H1.out.keep hb)
        replace H2 := hidden (H2.out.keep hb)
        replace R0 := hidden (R0.out.keep hb)
        replace X := hidden (X.out.keep hb)
        replace Y := hidden (Y.out.keep hb)
        replace R1 := hidden (R1.out.keep hb)
        clear r3 r4 r5 hb
        have r3 := R1.out.c0
        have r4 := R1.out.c1
        have r5 := R1.out.c2
        go_wp2_with fail
        with_reducible refine (heldEqR_none _ _).mono ?_
        rintro e w14 ⟨rfl, hb⟩
        replace D0 := hidden (D0.out.keep hb)
        replace B := hidden (keepB B.out hb)
        replace D1 := hidden (D1.out.keep hb)
        replace H := hidden (H.out.keep hb)
        replace H1 := hidden (H1.out.keep hb)
        replace H2 := hidden (H2.out.keep hb)
        replace R0 := hidden (R0.out.keep hb)
        replace X := hidden (X.out.keep hb)
        replace Y := hidden (Y.out.keep hb)
        replace R1 := hidden (R1.out.keep hb)
        clear r3 r4 r5 hb
        have CK := hidden (show ∀ w', Below w14.heap.size w14 w' → (w'.cell? ⟨w.heap.size, 0, none⟩ = some (.slice p n c) ∧ w'.cell? ⟨w.heap.size + 1, 0, none⟩ = some (.slice p1 m1 c1) ∧ w'.cell? ⟨w.heap.size + 1, 1, none⟩ = some (.slice p2 m2 c2)) from fun w' hb => ⟨(D0.out.keep hb).c0, (D1.out.keep hb).c0, (D1.out.keep hb).c1⟩)
        have S1 := hidden (show ∀ wc, Below w14.heap.size w14 wc → Calls Try.prog 10 #[.agg #[.slice p n c]] wc fun e w' => ∃ g, e = .returned (.agg #[.slice (some ⟨g, 0, none⟩) n n]) ∧ Below w14.heap.size w14 w' ∧ Syms w' g 0 n N A ∧ Below wc.heap.size wc w' from fun wc hc => by
          refine (toSig_new p n c N A wc (H.out.keep hc) HK.out).mono ?_
          rintro e w' ⟨g, rfl, hg, hl, hs, hb⟩
          exact ⟨g, rfl, keepB hc hb, hs, hb⟩)
        have S2 := hidden (show ∀ wc g, Below w14.heap.size w14 wc → Syms wc g 0 n N A → Calls Try.prog 18 #[.agg #[.slice p1 m1 c1, .slice p2 m2 c2]] wc fun e w' => ∃ g1 g2, e = .returned (.agg #[.slice (some ⟨g1, 0, none⟩) m1 m1, .slice (some ⟨g2, 0, none⟩) m2 m2]) ∧ Below w14.heap.size w14 w' ∧ Syms w' g 0 n N A ∧ Ints w' g1 0 m1 L1 ∧ Ints w' g2 0 m2 L2 ∧ Below wc.heap.size wc w' from fun wc g hc hm => by
          refine (toEquation_src p1 m1 c1 L1 p2 m2 c2 L2 wc (H1.out.keep hc) (H2.out.keep hc) M1.out M2.out).mono ?_
          rintro e w' ⟨g1, g2, rfl, hg, hl, hs1, hs2, hb⟩
          exact ⟨g1, g2, rfl, keepB hc hb, hm.keep hb, hs1.ints, hs2.ints, hb⟩)
        have S3 := hidden (show ∀ wc g g1 g2, Below w14.heap.size w14 wc → Syms wc g 0 n N A → Ints wc g1 0 m1 L1 → Ints wc g2 0 m2 L2 → Calls Try.prog 24 #[.agg #[.slice (some ⟨g, 0, none⟩) n n], .agg #[.slice (some ⟨g1, 0, none⟩) m1 m1, .slice (some ⟨g2, 0, none⟩) m2 m2]] wc fun e w' => e = .returned (.agg #[.int .i64 C, .slice none 0 0, .slice none 0 0]) ∧ Below w14.heap.size w14 w' ∧ Below wc.heap.size wc w' from fun wc g g1 g2 hc hm hm1 hm2 => by
          refine (IM.out g g1 g2 wc hm hm1 hm2 HK.out M1.out M2.out).mono ?_
          rintro e w' ⟨ha, hb⟩
          rcases ha with ⟨-, rfl⟩ | ⟨ha, -⟩
          rotate_left
          · exact absurd ha HC.out
          exact ⟨rfl, keepB hc hb, hb⟩)
        have d0 := D0.out.c0
        have e0 := D1.out.c0
        have e1 := D1.out.c1
        go_wp2_with fail
        go_cut [13] (fun t wc => ∃ B0, t = .pointer (some ⟨B0, 0, none⟩) ∧ Hid (Three wc B0 (.int .i64 C) (.slice none 0 0) (.slice none 0 0)) ∧ Below w14.heap.size w14 wc)
        case first =>
          refine wp_region_held_drew (S := fun wz => wz.cell? ⟨w.heap.size, 0, none⟩ = some (.slice p n c) ∧ wz.cell? ⟨w.heap.size + 1, 0, none⟩ = some (.slice p1 m1 c1) ∧ wz.cell? ⟨w.heap.size + 1, 1, none⟩ = some (.slice p2 m2 c2)) (by kernel_rfl) ⟨d0, e0, e1⟩ (fun hHeld => ?_)
          have bb := (Below.refl w14.heap.size w14).drew
          refine wpAnyH_take (i := 0) (oi := { dst := some 75, op := Op.load 24 (Operand.tmp 2), type := 24, pos := "exact.go:3827", after := #[], guard := none }) (v := ?_) rfl (by kernel_rfl) (by kernel_rfl) (by kernel_rfl) (fun _ _ _ h => h) (Or.inl ⟨by rfl, ?_⟩) (by assumption) ?_
          rotate_left
          · (intro wv hSw; (try dsimp only at hSw); go_simp; try with_reducible rfl)
          try simp only [Act.put, List.setIfInBounds_toArray, List.set_cons_zero, List.set_cons_succ]
          refine wpAnyH_take (i := 2) (oi := { dst := some 77, op := Op.load 40 (Operand.tmp 3), type := 40, pos := "exact.go:3827", after := #[], guard := none }) (v := ?_) rfl (by kernel_rfl) (by kernel_rfl) (by kernel_rfl) (fun _ _ _ h => h) (Or.inl ⟨by rfl, ?_⟩) (by assumption) ?_
          rotate_left
          · (intro wv hSw; (try dsimp only at hSw); go_simp; try with_reducible rfl)
          try simp only [Act.put, List.setIfInBounds_toArray, List.set_cons_zero, List.set_cons_succ]
          refine wpAnyH_ready (rs := [1, 5]) (by kernel_rfl) (by simp) ?_
          refine AllReadyH.cons (o := { dst := some 76, op := Op.call { callee := Callee.value (Operand.func 10), args := #[Operand.tmp 75], argTypes := #[24] }, type := 32, pos := "exact.go:3827", after := #[{ on := 0, ground := Ground.data }], guard := none }) rfl (fun K hK => ?_) (AllReadyH.cons (o := { dst := some 13, op := Op.alloc 49, type := 0, pos := "exact.go:3827", after := #[], guard := none }) rfl (fun K hK => ?_) AllReadyH.nil)
          · go_simp
            go_at_call 10; with_reducible refine (S1.out _ bb).mono ?_; rintro e v5 ⟨g5', rfl, bb', m5', hb5⟩
            try go_wp2_with fail
            refine hK.out _ _ ?_ (fun hHeld => ?_)
            · exact CK.out _ bb'
            clear hK K
            clear bb hb5
            have bb := bb'
            clear bb'
            try simp only [Act.put, List.setIfInBounds_toArray, List.set_cons_zero, List.set_cons_succ]
            refine wpAnyH_ready (rs := [3, 5]) (by kernel_rfl) (by simp) ?_
            refine AllReadyH.cons (o := { dst := some 78, op := Op.call { callee := Callee.value (Operand.func 18), args := #[Operand.tmp 77], argTypes := #[40] }, type := 43, pos := "exact.go:3827", after := #[{ on := 2, ground := Ground.data }, { on := 1, ground := Ground.chain }], guard := none }) rfl (fun K hK => ?_) (AllReadyH.cons (o := { dst := some 13, op := Op.alloc 49, type := 0, pos := "exact.go:3827", after := #[], guard := none }) rfl (fun K hK => ?_) AllReadyH.nil)
            · go_simp
              go_at_call 18; with_reducible refine (S2.out _ _ bb m5').mono ?_; rintro e v6 ⟨g6', g7', rfl, bb', m5', i6', i7', hb5⟩
              try go_wp2_with fail
              refine hK.out _ _ ?_ (fun hHeld => ?_)
              · exact CK.out _ bb'
              clear hK K
              clear bb hb5
              have bb := bb'
              clear bb'
              try simp only [Act.put, List.setIfInBounds_toArray, List.set_cons_zero, List.set_cons_succ]
              refine wpAnyH_ready (rs := [4, 5]) (by kernel_rfl) (by simp) ?_
              refine AllReadyH.cons (o := { dst := some 79, op := Op.call { callee := Callee.value (Operand.func 24), args := #[Operand.tmp 76, Operand.tmp 78], argTypes := #[32, 43] }, type := 49, pos := "exact.go:3827", after := #[{ on := 1, ground := Ground.data }, { on := 3, ground := Ground.data }, { on := 3, ground := Ground.chain }], guard := none }) rfl (fun K hK => ?_) (AllReadyH.cons (o := { dst := some 13, op := Op.alloc 49, type := 0, pos := "exact.go:3827", after := #[], guard := none }) rfl (fun K hK => ?_) AllReadyH.nil)
              · go_simp
                go_at_call 24; with_reducible refine (S3.out _ _ _ _ bb m5' i6' i7').mono ?_; rintro e v7 ⟨rfl, bb', hb5⟩
                try go_wp2_with fail
                refine hK.out _ _ ?_ (fun hHeld => ?_)
                · exact CK.out _ bb'
                clear hK K
                clear bb hb5
                have bb := bb'
                clear bb'
                try simp only [Act.put, List.setIfInBounds_toArray, List.set_cons_zero, List.set_cons_succ]
                have bb0 := bb
                refine wpAnyH_ready (rs := [5]) (by kernel_rfl) (by simp) ?_
                refine AllReadyH.cons (o := { dst := some 13, op := Op.alloc 49, type := 0, pos := "exact.go:3827", after := #[], guard := none }) rfl (fun K hK => ?_) AllReadyH.nil
                go_simp
                have RR := Own3.new v7 (.int .i64 0) (.slice none 0 0) (.slice none 0 0) 49
                have hB0 := bb.size
                refine hK.out _ _ ?_ (fun hHeld => ?_)
                · exact CK.out _ (keepB bb (alloc_below _ _))
                clear hK K
                replace bb := keepB bb (alloc_below _ (.cells #[.int .i64 0, .slice none 0 0, .slice none 0 0] 49))
                replace m5' := m5'.keep (alloc_below _ (.cells #[.int .i64 0, .slice none 0 0, .slice none 0 0] 49))
                replace i6' := i6'.keep (alloc_below _ (.cells #[.int .i64 0, .slice none 0 0, .slice none 0 0] 49))
                replace i7' := i7'.keep (alloc_below _ (.cells #[.int .i64 0, .slice none 0 0, .slice none 0 0] 49))
                try simp only [Act.put, List.setIfInBounds_toArray, List.set_cons_zero, List.set_cons_succ]
                refine wpAnyH_ready (rs := [6]) (by kernel_rfl) (by simp) ?_
                refine AllReadyH.cons (o := { dst := none, op := Op.store 49 (Operand.tmp 13) (Operand.tmp 79), type := 0, pos := "exact.go:3827", after := #[{ on := 5, ground := Ground.data }, { on := 4, ground := Ground.data }, { on := 4, ground := Ground.chain }, { on := 0, ground := Ground.phase }, { on := 1, ground := Ground.phase }, { on := 2, ground := Ground.phase }, { on := 3, ground := Ground.phase }, { on := 4, ground := Ground.phase }, { on := 5, ground := Ground.phase }], guard := none }) rfl (fun K hK => ?_) AllReadyH.nil
                obtain ⟨q8, q0, q1, q2, f0, f1, f2⟩ := id RR
                go_simp
                refine hK.out _ _ ?_ (fun hHeld => ?_)
                · first | exact CK.out _ (((bb.setCell hB0 _).setCell hB0 _).setCell hB0 _) | exact CK.out _ (keepB bb0 (alloc_below _ _))
                clear hK K
                refine wpAnyH_done (by kernel_rfl) ?_ _
                go_wp2_with fail
                go_meet
                first
                  | exact ⟨_, rfl, hidden (RR.sets _ _ _), ((bb.setCell hB0 _).setCell hB0 _).setCell hB0 _⟩
                  | exact ⟨_, rfl, hidden (Three.new _ _ _ _ _), keepB bb0 (alloc_below _ _)⟩
              · go_simp
                have RR := Own3.new v6 (.int .i64 0) (.slice none 0 0) (.slice none 0 0) 49
                have hB0 := bb.size
                refine hK.out _ _ ?_ (fun hHeld => ?_)
                · exact CK.out _ (keepB bb (alloc_below _ _))
                clear hK K
                replace bb := keepB bb (alloc_below _ (.cells #[.int .i64 0, .slice none 0 0, .slice none 0 0] 49))
                replace m5' := m5'.keep (alloc_below _ (.cells #[.int .i64 0, .slice none 0 0, .slice none 0 0] 49))
                replace i6' := i6'.keep (alloc_below _ (.cells #[.int .i64 0, .slice none 0 0, .slice none 0 0] 49))
                replace i7' := i7'.keep (alloc_below _ (.cells #[.int .i64 0, .slice none 0 0, .slice none 0 0] 49))
                try simp only [Act.put, List.setIfInBounds_toArray, List.set_cons_zero, List.set_cons_succ]
                refine wpAnyH_ready (rs := [4]) (by kernel_rfl) (by simp) ?_
                refine AllReadyH.cons (o := { dst := some 79, op := Op.call { callee := Callee.value (Operand.func 24), args := #[Operand.tmp 76, Operand.tmp 78], argTypes := #[32, 43] }, type := 49, pos := "exact.go:3827", after := #[{ on := 1, ground := Ground.data }, { on := 3, ground := Ground.data }, { on := 3, ground := Ground.chain }], guard := none }) rfl (fun K hK => ?_) AllReadyH.nil
                go_simp
                go_at_call 24; with_reducible refine (S3.out _ _ _ _ bb m5' i6' i7').mono ?_; rintro e v7 ⟨rfl, bb', hb5⟩
                try go_wp2_with fail
                refine hK.out _ _ ?_ (fun hHeld => ?_)
                · exact CK.out _ bb'
                clear hK K
                replace RR := RR.keep hb5
                clear bb hb5
                have bb := bb'
                clear bb'
                try simp only [Act.put, List.setIfInBounds_toArray, List.set_cons_zero, List.set_cons_succ]
                have bb0 := bb
                refine wpAnyH_ready (rs := [6]) (by kernel_rfl) (by simp) ?_
                refine AllReadyH.cons (o := { dst := none, op := Op.store 49 (Operand.tmp 13) (Operand.tmp 79), type := 0, pos := "exact.go:3827", after := #[{ on := 5, ground := Ground.data }, { on := 4, ground := Ground.data }, { on := 4, ground := Ground.chain }, { on := 0, ground := Ground.phase }, { on := 1, ground := Ground.phase }, { on := 2, ground := Ground.phase }, { on := 3, ground := Ground.phase }, { on := 4, ground := Ground.phase }, { on := 5, ground := Ground.phase }], guard := none }) rfl (fun K hK => ?_) AllReadyH.nil
                obtain ⟨q8, q0, q1, q2, f0, f1, f2⟩ := id RR
                go_simp
                refine hK.out _ _ ?_ (fun hHeld => ?_)
                · first | exact CK.out _ (((bb.setCell hB0 _).setCell hB0 _).setCell hB0 _) | exact CK.out _ (keepB bb0 (alloc_below _ _))
                clear hK K
                refine wpAnyH_done (by kernel_rfl) ?_ _
                go_wp2_with fail
                go_meet
                first
                  | exact ⟨_, rfl, hidden (RR.sets _ _ _), ((bb.setCell hB0 _).setCell hB0 _).setCell hB0 _⟩
                  | exact ⟨_, rfl, hidden (Three.new _ _ _ _ _), keepB bb0 (alloc_below _ _)⟩
            · go_simp
              have RR := Own3.new v5 (.int .i64 0) (.slice none 0 0) (.slice none 0 0) 49
              have hB0 := bb.size
              refine hK.out _ _ ?_ (fun hHeld => ?_)
              · exact CK.out _ (keepB bb (alloc_below _ _))
              clear hK K
              replace bb := keepB bb (alloc_below _ (.cells #[.int .i64 0, .slice none 0 0, .slice none 0 0] 49))
              replace m5' := m5'.keep (alloc_below _ (.cells #[.int .i64 0, .slice none 0 0, .slice none 0 0] 49))
              try simp only [Act.put, List.setIfInBounds_toArray, List.set_cons_zero, List.set_cons_succ]
              refine wpAnyH_ready (rs := [3]) (by kernel_rfl) (by simp) ?_
              refine AllReadyH.cons (o := { dst := some 78, op := Op.call { callee := Callee.value (Operand.func 18), args := #[Operand.tmp 77], argTypes := #[40] }, type := 43, pos := "exact.go:3827", after := #[{ on := 2, ground := Ground.data }, { on := 1, ground := Ground.chain }], guard := none }) rfl (fun K hK => ?_) AllReadyH.nil
              go_simp
              go_at_call 18; with_reducible refine (S2.out _ _ bb m5').mono ?_; rintro e v6 ⟨g6', g7', rfl, bb', m5', i6', i7', hb5⟩
              try go_wp2_with fail
              refine hK.out _ _ ?_ (fun hHeld => ?_)
              · exact CK.out _ bb'
              clear hK K
              replace RR := RR.keep hb5
              clear bb hb5
              have bb := bb'
              clear bb'
              try simp only [Act.put, List.setIfInBounds_toArray, List.set_cons_zero, List.set_cons_succ]
              refine wpAnyH_ready (rs := [4]) (by kernel_rfl) (by simp) ?_
              refine AllReadyH.cons (o := { dst := some 79, op := Op.call { callee := Callee.value (Operand.func 24), args := #[Operand.tmp 76, Operand.tmp 78], argTypes := #[32, 43] }, type := 49, pos := "exact.go:3827", after := #[{ on := 1, ground := Ground.data }, { on := 3, ground := Ground.data }, { on := 3, ground := Ground.chain }], guard := none }) rfl (fun K hK => ?_) AllReadyH.nil
              go_simp
              go_at_call 24; with_reducible refine (S3.out _ _ _ _ bb m5' i6' i7').mono ?_; rintro e v7 ⟨rfl, bb', hb5⟩
              try go_wp2_with fail
              refine hK.out _ _ ?_ (fun hHeld => ?_)
              · exact CK.out _ bb'
              clear hK K
              replace RR := RR.keep hb5
              clear bb hb5
              have bb := bb'
              clear bb'
              try simp only [Act.put, List.setIfInBounds_toArray, List.set_cons_zero, List.set_cons_succ]
              have bb0 := bb
              refine wpAnyH_ready (rs := [6]) (by kernel_rfl) (by simp) ?_
              refine AllReadyH.cons (o := { dst := none, op := Op.store 49 (Operand.tmp 13) (Operand.tmp 79), type := 0, pos := "exact.go:3827", after := #[{ on := 5, ground := Ground.data }, { on := 4, ground := Ground.data }, { on := 4, ground := Ground.chain }, { on := 0, ground := Ground.phase }, { on := 1, ground := Ground.phase }, { on := 2, ground := Ground.phase }, { on := 3, ground := Ground.phase }, { on := 4, ground := Ground.phase }, { on := 5, ground := Ground.phase }], guard := none }) rfl (fun K hK => ?_) AllReadyH.nil
              obtain ⟨q8, q0, q1, q2, f0, f1, f2⟩ := id RR
              go_simp
              refine hK.out _ _ ?_ (fun hHeld => ?_)
              · first | exact CK.out _ (((bb.setCell hB0 _).setCell hB0 _).setCell hB0 _) | exact CK.out _ (keepB bb0 (alloc_below _ _))
              clear hK K
              refine wpAnyH_done (by kernel_rfl) ?_ _
              go_wp2_with fail
              go_meet
              first
                | exact ⟨_, rfl, hidden (RR.sets _ _ _), ((bb.setCell hB0 _).setCell hB0 _).setCell hB0 _⟩
                | exact ⟨_, rfl, hidden (Three.new _ _ _ _ _), keepB bb0 (alloc_below _ _)⟩
          · go_simp
            have RR := (Own3.new w14 (.int .i64 0) (.slice none 0 0) (.slice none 0 0) 49).keep (Below.refl _ _).drew
            have hB0 := bb.size
            refine hK.out _ _ ?_ (fun hHeld => ?_)
            · exact CK.out _ (alloc_below _ _).drew
            clear hK K
            replace bb := (alloc_below w14 (.cells #[.int .i64 0, .slice none 0 0, .slice none 0 0] 49)).drew
            try simp only [Act.put, List.setIfInBounds_toArray, List.set_cons_zero, List.set_cons_succ]
            refine wpAnyH_ready (rs := [1]) (by kernel_rfl) (by simp) ?_
            refine AllReadyH.cons (o := { dst := some 76, op := Op.call { callee := Callee.value (Operand.func 10), args := #[Operand.tmp 75], argTypes := #[24] }, type := 32, pos := "exact.go:3827", after := #[{ on := 0, ground := Ground.data }], guard := none }) rfl (fun K hK => ?_) AllReadyH.nil
            go_simp
            go_at_call 10; with_reducible refine (S1.out _ bb).mono ?_; rintro e v5 ⟨g5', rfl, bb', m5', hb5⟩
            try go_wp2_with fail
            refine hK.out _ _ ?_ (fun hHeld => ?_)
            · exact CK.out _ bb'
            clear hK K
            replace RR := RR.keep hb5
            clear bb hb5
            have bb := bb'
            clear bb'
            try simp only [Act.put, List.setIfInBounds_toArray, List.set_cons_zero, List.set_cons_succ]
            refine wpAnyH_ready (rs := [3]) (by kernel_rfl) (by simp) ?_
            refine AllReadyH.cons (o := { dst := some 78, op := Op.call { callee := Callee.value (Operand.func 18), args := #[Operand.tmp 77], argTypes := #[40] }, type := 43, pos := "exact.go:3827", after := #[{ on := 2, ground := Ground.data }, { on := 1, ground := Ground.chain }], guard := none }) rfl (fun K hK => ?_) AllReadyH.nil
            go_simp
            go_at_call 18; with_reducible refine (S2.out _ _ bb m5').mono ?_; rintro e v6 ⟨g6', g7', rfl, bb', m5', i6', i7', hb5⟩
            try go_wp2_with fail
            refine hK.out _ _ ?_ (fun hHeld => ?_)
            · exact CK.out _ bb'
            clear hK K
            replace RR := RR.keep hb5
            clear bb hb5
            have bb := bb'
            clear bb'
            try simp only [Act.put, List.setIfInBounds_toArray, List.set_cons_zero, List.set_cons_succ]
            refine wpAnyH_ready (rs := [4]) (by kernel_rfl) (by simp) ?_
            refine AllReadyH.cons (o := { dst := some 79, op := Op.call { callee := Callee.value (Operand.func 24), args := #[Operand.tmp 76, Operand.tmp 78], argTypes := #[32, 43] }, type := 49, pos := "exact.go:3827", after := #[{ on := 1, ground := Ground.data }, { on := 3, ground := Ground.data }, { on := 3, ground := Ground.chain }], guard := none }) rfl (fun K hK => ?_) AllReadyH.nil
            go_simp
            go_at_call 24; with_reducible refine (S3.out _ _ _ _ bb m5' i6' i7').mono ?_; rintro e v7 ⟨rfl, bb', hb5⟩
            try go_wp2_with fail
            refine hK.out _ _ ?_ (fun hHeld => ?_)
            · exact CK.out _ bb'
            clear hK K
            replace RR := RR.keep hb5
            clear bb hb5
            have bb := bb'
            clear bb'
            try simp only [Act.put, List.setIfInBounds_toArray, List.set_cons_zero, List.set_cons_succ]
            have bb0 := bb
            refine wpAnyH_ready (rs := [6]) (by kernel_rfl) (by simp) ?_
            refine AllReadyH.cons (o := { dst := none, op := Op.store 49 (Operand.tmp 13) (Operand.tmp 79), type := 0, pos := "exact.go:3827", after := #[{ on := 5, ground := Ground.data }, { on := 4, ground := Ground.data }, { on := 4, ground := Ground.chain }, { on := 0, ground := Ground.phase }, { on := 1, ground := Ground.phase }, { on := 2, ground := Ground.phase }, { on := 3, ground := Ground.phase }, { on := 4, ground := Ground.phase }, { on := 5, ground := Ground.phase }], guard := none }) rfl (fun K hK => ?_) AllReadyH.nil
            obtain ⟨q8, q0, q1, q2, f0, f1, f2⟩ := id RR
            go_simp
            refine hK.out _ _ ?_ (fun hHeld => ?_)
            · first | exact CK.out _ (((bb.setCell hB0 _).setCell hB0 _).setCell hB0 _) | exact CK.out _ (keepB bb0 (alloc_below _ _))
            clear hK K
            refine wpAnyH_done (by kernel_rfl) ?_ _
            go_wp2_with fail
            go_meet
            first
              | exact ⟨_, rfl, hidden (RR.sets _ _ _), ((bb.setCell hB0 _).setCell hB0 _).setCell hB0 _⟩
              | exact ⟨_, rfl, hidden (Three.new _ _ _ _ _), keepB bb0 (alloc_below _ _)⟩
        case rest =>
          rename World => w15
          obtain ⟨R2b, rfl, R2, hb⟩ := hcut
          replace D0 := hidden (D0.out.keep hb)
          replace B := hidden (keepB B.out hb)
          replace D1 := hidden (D1.out.keep hb)
          replace H := hidden (H.out.keep hb)
          replace H1 := hidden (H1.out.keep hb)
          replace H2 := hidden (H2.out.keep hb)
          replace R0 := hidden (R0.out.keep hb)
          replace X := hidden (X.out.keep hb)
          replace Y := hidden (Y.out.keep hb)
          replace R1 := hidden (R1.out.keep hb)
          clear d0 e0 e1 hb S1 S2 S3 CK
          have r0 := R0.out.c0
          have r1 := R0.out.c1
          have r2 := R0.out.c2
          have r3 := R2.out.c0
          have r4 := R2.out.c1
          have r5 := R2.out.c2
          go_wp2_with fail
          with_reducible refine (eqEqR_none _ _).mono ?_
          rintro e w16 ⟨rfl, hb⟩
          replace D0 := hidden (D0.out.keep hb)
          replace B := hidden (keepB B.out hb)
          replace D1 := hidden (D1.out.keep hb)
          replace H := hidden (H.out.keep hb)
          replace H1 := hidden (H1.out.keep hb)
          replace H2 := hidden (H2.out.keep hb)
          replace R0 := hidden (R0.out.keep hb)
          replace X := hidden (X.out.keep hb)
          replace Y := hidden (Y.out.keep hb)
          replace R1 := hidden (R1.out.keep hb)
          replace R2 := hidden (R2.out.keep hb)
          clear r0 r1 r2 r3 r4 r5 hb
          have r3 := R1.out.c0
          have r4 := R1.out.c1
          have r5 := R1.out.c2
          go_wp2_with fail
          with_reducible refine (heldEqR_none _ _).mono ?_
          rintro e w17 ⟨rfl, hb⟩
          replace D0 := hidden (D0.out.keep hb)
          replace B := hidden (keepB B.out hb)
          replace D1 := hidden (D1.out.keep hb)
          replace H := hidden (H.out.keep hb)
          replace H1 := hidden (H1.out.keep hb)
          replace H2 := hidden (H2.out.keep hb)
          replace R0 := hidden (R0.out.keep hb)
          replace X := hidden (X.out.keep hb)
          replace Y := hidden (Y.out.keep hb)
          replace R1 := hidden (R1.out.keep hb)
          replace R2 := hidden (R2.out.keep hb)
          clear r3 r4 r5 hb
          go_wp2_with fail
          go_ret
          exact ⟨rfl, B.out⟩

theorem law_plain (p : Option Addr) (n c : Nat) (N : Nat → ByteArray) (A : Nat → Int) (p1 : Option Addr) (m1 c1 : Nat) (L1 : Nat → Int) (p2 : Option Addr) (m2 c2 : Nat) (L2 : Nat → Int) (w : World) (h : SrcS w p n N A) (h1 : SrcI w p1 m1 L1) (h2 : SrcI w p2 m2 L2) (hx1 : m1 ≤ maxLen) (hx2 : m2 ≤ maxLen) :
    Calls Try.prog 6 #[.agg #[.slice p n c], .agg #[.slice p1 m1 c1, .slice p2 m2 c2]] w fun e w' => e = .returned (.bool true) ∧ Below w.heap.size w w' := by
  have SP := hidden (fun b b1 b2 w h h1 h2 hk hm1 hm2 => specPlain_any b 0 n n b1 0 m1 m1 b2 0 m2 m2 N A L1 L2 w h h1 h2 hk hm1 hm2)
  have IM := hidden (fun b b1 b2 w h h1 h2 hk hm1 hm2 => implPlain_any b 0 n n b1 0 m1 m1 b2 0 m2 m2 N A L1 L2 w h h1 h2 hk hm1 hm2)
  by_cases hc : plC n N A m1 L1 m2 L2 = 0
  · exact law_plain_ok p n c N A p1 m1 c1 L1 p2 m2 c2 L2 _ _ _ hc w h h1 h2 hx1 hx2 SP IM
  · exact law_plain_bad p n c N A p1 m1 c1 L1 p2 m2 c2 L2 _ _ _ hc w h h1 h2 hx1 hx2 SP IM

end Go.Proofs.Ytkaoafdemckagaa
