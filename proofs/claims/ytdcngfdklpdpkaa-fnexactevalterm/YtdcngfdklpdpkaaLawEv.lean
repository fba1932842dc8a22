/- Law FnExactEvalTerm: at every signature, algebra, list of values and list of nodes the program's EvalTerm answers as the model's, and leaves all as they were. -/
import Derived.Test.YtdcngfdklpdpkaaAlM
import Derived.Test.YtdcngfdklpdpkaaArity
import Derived.Test.YtdcngfdklpdpkaaEqn
import Derived.Deep.RegionHeld3
namespace Go.Proofs.Ytdcngfdklpdpkaa
open Go.RowKit

set_option maxRecDepth 20000 in
set_option maxHeartbeats 12800000 in
theorem law_ev (p : Option Addr) (n c : Nat) (N : Nat → ByteArray) (A : Nat → Int) (za : Int) (p2a : Option Addr) (m2a c2a : Nat) (D2a : LsL) (p1 : Option Addr) (m1 c1 : Nat) (L1 : Nat → Int) (p2 : Option Addr) (m2 c2 : Nat) (L2 : Nat → Int) (w : World) (h : SrcS w p n N A) (h2a : SrcM w p2a m2a D2a) (h1 : SrcI w p1 m1 L1) (h2 : SrcI w p2 m2 L2) (hm1 : m1 ≤ 1048576) (hm2 : m2 ≤ 1048576) :
    Calls Try.prog 5 #[.agg #[.slice p n c], .agg #[.int .i64 za, .slice p2a m2a c2a], .slice p1 m1 c1, .slice p2 m2 c2] w fun e w' => e = .returned (.bool true) ∧ Below w.heap.size w w' := by
  obtain ⟨z0, hz0⟩ : ∃ z, z = etC n N A za m2a D2a m1 L1 m2 L2 := ⟨_, rfl⟩
  obtain ⟨z1, hz1⟩ : ∃ z, z = etV n N A za m2a D2a m1 L1 m2 L2 := ⟨_, rfl⟩
  have HZ := hidden (And.intro hz0 hz1)
  clear hz0 hz1
  have SP : Hid (∀ b b2 b3 b4 w, Syms w b 0 n N A → Mats w b2 0 m2a D2a → Ints w b3 0 m1 L1 → Ints w b4 0 m2 L2 → Kept n N A → KeptM m2a D2a → Calls Try.prog 22 #[.agg #[.slice (some ⟨b, 0, none⟩) n n], .agg #[.int .i64 za, .slice (some ⟨b2, 0, none⟩) m2a m2a], .slice (some ⟨b3, 0, none⟩) m1 m1, .slice (some ⟨b4, 0, none⟩) m2 m2] w fun e w' => e = .returned (.agg #[.int .i64 z0, .int .i64 z1]) ∧ Below w.heap.size w w') := hidden (fun b b2 b3 b4 w h hb2 h3 h4 hk hkm => by
    have := specEval_any b 0 n n b2 0 m2a m2a b3 0 m1 m1 b4 0 m2 m2 N A za D2a L1 L2 w h hb2 h3 h4 hk hkm hm1 hm2
    rwa [← HZ.out.1, ← HZ.out.2] at this)
  have IM : Hid (∀ b b2 b3 b4 w, Syms w b 0 n N A → Mats w b2 0 m2a D2a → Ints w b3 0 m1 L1 → Ints w b4 0 m2 L2 → Kept n N A → KeptM m2a D2a → Calls Try.prog 24 #[.agg #[.slice (some ⟨b, 0, none⟩) n n], .agg #[.int .i64 za, .slice (some ⟨b2, 0, none⟩) m2a m2a], .slice (some ⟨b3, 0, none⟩) m1 m1, .slice (some ⟨b4, 0, none⟩) m2 m2] w fun e w' => e = .returned (.agg #[.int .i64 z0, .int .i64 z1]) ∧ Below w.heap.size w w') := hidden (fun b b2 b3 b4 w h hb2 h3 h4 hk hkm => by
    have := implEval_any b 0 n n b2 0 m2a m2a b3 0 m1 m1 b4 0 m2 m2 N A za D2a L1 L2 w h hb2 h3 h4 hk hkm hm1 hm2
    rwa [← HZ.out.1, ← HZ.out.2] at this)
  have H0 := hidden h
  have K2 := hidden h2a
  have K3 := hidden h1
  have K4 := hidden h2
  have HM1 := hidden hm1
  have HM2 := hidden hm2
  clear h h2a h1 h2
  have D0 := hidden (One.new w (.slice p n c) 24)
  have B := hidden (alloc_below w (.cells #[.slice p n c] 24))
  have hb := alloc_below (w.alloc (.cells #[.slice p n c] 24)) (.cells #[.int .i64 za, .slice p2a m2a c2a] 27)
  replace D0 := hidden (D0.out.keep hb)
  replace B := hidden (keepB B.out hb)
  clear hb
  have Da := hidden (Two.new (w.alloc (.cells #[.slice p n c] 24)) (.int .i64 za) (.slice p2a m2a c2a) 27)
  simp only [World.size_alloc] at Da
  have H := hidden (H0.out.keep B.out)
  have H2a := hidden (K2.out.keep B.out)
  have H1 := hidden (K3.out.keep B.out)
  have H2 := hidden (K4.out.keep B.out)
  have d0 := D0.out.c0
  go_enter Try.func5, Try.ntmps5
  go_wp2_with fail
  with_reducible refine (szSignature_src p n c N A 1048576 _ H.out (by omega) (by omega)).mono ?_
  rintro e w1 ⟨⟨r1, rfl, hr⟩, hb⟩
  replace D0 := hidden (D0.out.keep hb)
  replace B := hidden (keepB B.out hb)
  replace Da := hidden (Da.out.keep hb)
  replace H := hidden (H.out.keep hb)
  replace H2a := hidden (H2a.out.keep hb)
  replace H1 := hidden (H1.out.keep hb)
  replace H2 := hidden (H2.out.keep hb)
  clear d0 hb
  rcases hr with rfl | ⟨q0, q1, q2, q3⟩
  · go_wp2_with fail
    go_ret
    exact ⟨rfl, B.out⟩
  have HK := hidden (Kept.mk q2 q3 H.out.fits)
  clear q2 q3
  have e0 := Da.out.c0
  have e1 := Da.out.c1
  go_wp2_with fail
  with_reducible refine (szAlgebra_any za p2a m2a c2a D2a _ _ H2a.out q0 q1).mono ?_
  rintro e w2 ⟨⟨r2, rfl, hr⟩, hb⟩
  replace D0 := hidden (D0.out.keep hb)
  replace B := hidden (keepB B.out hb)
  replace Da := hidden (Da.out.keep hb)
  replace H := hidden (H.out.keep hb)
  replace H2a := hidden (H2a.out.keep hb)
  replace H1 := hidden (H1.out.keep hb)
  replace H2 := hidden (H2.out.keep hb)
  clear e0 e1 hb
  clear q0 q1
  rcases hr with rfl | ⟨q0, q1, q3⟩
  · go_wp2_with fail
    go_ret
    exact ⟨rfl, B.out⟩
  have M2a := hidden q3
  clear q3
  clear q1
  have CK := hidden (show ∀ w', Below w2.heap.size w2 w' → (w'.cell? ⟨w.heap.size, 0, none⟩ = some (.slice p n c) ∧ w'.cell? ⟨w.heap.size + 1, 0, none⟩ = some (.int .i64 za) ∧ w'.cell? ⟨w.heap.size + 1, 1, none⟩ = some (.slice p2a m2a c2a)) from fun w' hb => ⟨(D0.out.keep hb).c0, (Da.out.keep hb).c0, (Da.out.keep hb).c1⟩)
  have S0 := hidden (show ∀ wc, Below w2.heap.size w2 wc → Calls Try.prog 11 #[.agg #[.slice p n c]] wc fun e w' => ∃ g, e = .returned (.agg #[.slice (some ⟨g, 0, none⟩) n n]) ∧ Below w2.heap.size w2 w' ∧ Syms w' g 0 n N A ∧ Below wc.heap.size wc w' from fun wc hc => by
    refine (toSig_new p n c N A wc (H.out.keep hc) HK.out).mono ?_
    rintro e w' ⟨g, rfl, hg, hl, hs, hb⟩
    exact ⟨g, rfl, keepB hc hb, hs, hb⟩)
  have S1 := hidden (show ∀ wc, Below w2.heap.size w2 wc → Calls Try.prog 12 #[.agg #[.int .i64 za, .slice p2a m2a c2a]] wc fun e w' => ∃ g2a, e = .returned (.agg #[.int .i64 za, .slice (some ⟨g2a, 0, none⟩) m2a m2a]) ∧ Below w2.heap.size w2 w' ∧ Mats w' g2a 0 m2a D2a ∧ Below wc.heap.size wc w' from fun wc hc => by
    refine (toAlgebra_src za p2a m2a c2a D2a wc (H2a.out.keep hc) M2a.out).mono ?_
    rintro e w' ⟨g2, rfl, hg, hs2, hb⟩
    exact ⟨g2, rfl, keepB hc hb, hs2.mats, hb⟩)
  have S2 := hidden (show ∀ wc, Below w2.heap.size w2 wc → Calls Try.prog 23 #[.slice p1 m1 c1] wc fun e w' => ∃ g1, e = .returned (.slice (some ⟨g1, 0, none⟩) m1 m1) ∧ Below w2.heap.size w2 w' ∧ Ints w' g1 0 m1 L1 ∧ Below wc.heap.size wc w' from fun wc hc => by
    refine (toInts_new p1 m1 c1 L1 wc (H1.out.keep hc) HM1.out).mono ?_
    rintro e w' ⟨g, rfl, hs, hb⟩
    exact ⟨g, rfl, keepB hc hb, hs, hb⟩)
  have S3 := hidden (show ∀ wc, Below w2.heap.size w2 wc → Calls Try.prog 23 #[.slice p2 m2 c2] wc fun e w' => ∃ g2, e = .returned (.slice (some ⟨g2, 0, none⟩) m2 m2) ∧ Below w2.heap.size w2 w' ∧ Ints w' g2 0 m2 L2 ∧ Below wc.heap.size wc w' from fun wc hc => by
    refine (toInts_new p2 m2 c2 L2 wc (H2.out.keep hc) HM2.out).mono ?_
    rintro e w' ⟨g, rfl, hs, hb⟩
    exact ⟨g, rfl, keepB hc hb, hs, hb⟩)
  have SF := hidden (show ∀ wc g g2a g1 g2, Below w2.heap.size w2 wc → Syms wc g 0 n N A → Mats wc g2a 0 m2a D2a → Ints wc g1 0 m1 L1 → Ints wc g2 0 m2 L2 → Calls Try.prog 22 #[.agg #[.slice (some ⟨g, 0, none⟩) n n], .agg #[.int .i64 za, .slice (some ⟨g2a, 0, none⟩) m2a m2a], .slice (some ⟨g1, 0, none⟩) m1 m1, .slice (some ⟨g2, 0, none⟩) m2 m2] wc fun e w' => e = .returned (.agg #[.int .i64 z0, .int .i64 z1]) ∧ Below w2.heap.size w2 w' ∧ Below wc.heap.size wc w' from fun wc g g2a g1 g2 hc zfs zfta zfi1 zfi2 => by
    refine (SP.out g g2a g1 g2 wc zfs zfta zfi1 zfi2 HK.out M2a.out).mono ?_
    rintro e w' ⟨rfl, hb⟩
    exact ⟨rfl, keepB hc hb, hb⟩)
  have d0 := D0.out.c0
  have e0 := Da.out.c0
  have e1 := Da.out.c1
  go_wp2_with fail
  go_cut [10] (fun t wc => ∃ B0, t = .pointer (some ⟨B0, 0, none⟩) ∧ Hid (Two wc B0 (.int .i64 z0) (.int .i64 z1)) ∧ Below w2.heap.size w2 wc)
  case first =>
    refine wp_region_held_drew (S := fun wz => wz.cell? ⟨w.heap.size, 0, none⟩ = some (.slice p n c) ∧ wz.cell? ⟨w.heap.size + 1, 0, none⟩ = some (.int .i64 za) ∧ wz.cell? ⟨w.heap.size + 1, 1, none⟩ = some (.slice p2a m2a c2a)) (by kernel_rfl) ⟨d0, e0, e1⟩ (fun hHeld => ?_)
    have bb := (Below.refl w2.heap.size w2).drew
    refine wpAnyH_take (i := 0) (oi := { dst := some 32, op := Op.load 24 (Operand.tmp 4), type := 24, pos := "exact.go:5446", after := #[], guard := none }) (v := ?_) rfl (by kernel_rfl) (by kernel_rfl) (by kernel_rfl) (fun _ _ _ h => h) (Or.inl ⟨by rfl, ?_⟩) (by assumption) ?_
    rotate_left
    · (intro wv hSw; (try dsimp only at hSw); go_simp; try with_reducible rfl)
    try simp only [Act.put, List.setIfInBounds_toArray, List.set_cons_zero, List.set_cons_succ]
    refine wpAnyH_take (i := 2) (oi := { dst := some 34, op := Op.load 27 (Operand.tmp 5), type := 27, pos := "exact.go:5446", after := #[], guard := none }) (v := ?_) rfl (by kernel_rfl) (by kernel_rfl) (by kernel_rfl) (fun _ _ _ h => h) (Or.inl ⟨by rfl, ?_⟩) (by assumption) ?_
    rotate_left
    · (intro wv hSw; (try dsimp only at hSw); go_simp; try with_reducible rfl)
    try simp only [Act.put, List.setIfInBounds_toArray, List.set_cons_zero, List.set_cons_succ]
    refine wpAnyH_take (i := 4) (oi := { dst := some 36, op := Op.move (Operand.tmp 2), type := 47, pos := "exact.go:5446", after := #[], guard := none }) (v := ?_) rfl (by kernel_rfl) (by kernel_rfl) (by kernel_rfl) (fun _ _ _ h => h) (Or.inl ⟨by rfl, ?_⟩) (by assumption) ?_
    rotate_left
    · (intro wv hSw; (try dsimp only at hSw); go_simp; try with_reducible rfl)
    try simp only [Act.put, List.setIfInBounds_toArray, List.set_cons_zero, List.set_cons_succ]
    refine wpAnyH_take (i := 6) (oi := { dst := some 38, op := Op.move (Operand.tmp 3), type := 47, pos := "exact.go:5446", after := #[], guard := none }) (v := ?_) rfl (by kernel_rfl) (by kernel_rfl) (by kernel_rfl) (fun _ _ _ h => h) (Or.inl ⟨by rfl, ?_⟩) (by assumption) ?_
    rotate_left
    · (intro wv hSw; (try dsimp only at hSw); go_simp; try with_reducible rfl)
    try simp only [Act.put, List.setIfInBounds_toArray, List.set_cons_zero, List.set_cons_succ]
    refine wpAnyH_ready (rs := [1, 9]) (by kernel_rfl) (by simp) ?_
    refine AllReadyH.cons (o := { dst := some 33, op := Op.call { callee := Callee.value (Operand.func 11), args := #[Operand.tmp 32], argTypes := #[24] }, type := 33, pos := "exact.go:5446", after := #[{ on := 0, ground := Ground.data }], guard := none }) rfl (fun K hK => ?_) (AllReadyH.cons (o := { dst := some 10, op := Op.alloc 49, type := 0, pos := "exact.go:5446", after := #[], guard := none }) rfl (fun K hK => ?_) AllReadyH.nil)
    · go_simp
      go_at_call 11; with_reducible refine (S0.out _ bb).mono ?_; rintro e v0 ⟨g', rfl, bb', yfs, hb5⟩
      try go_wp2_with fail
      refine hK.out _ _ ?_ (fun hHeld => ?_)
      · exact CK.out _ bb'
      clear hK K
      have fs := yfs
      clear yfs
      clear bb hb5
      have bb := bb'
      clear bb'
      try simp only [Act.put, List.setIfInBounds_toArray, List.set_cons_zero, List.set_cons_succ]
      refine wpAnyH_ready (rs := [3, 9]) (by kernel_rfl) (by simp) ?_
      refine AllReadyH.cons (o := { dst := some 35, op := Op.call { callee := Callee.value (Operand.func 12), args := #[Operand.tmp 34], argTypes := #[27] }, type := 35, pos := "exact.go:5446", after := #[{ on := 2, ground := Ground.data }, { on := 1, ground := Ground.chain }], guard := none }) rfl (fun K hK => ?_) (AllReadyH.cons (o := { dst := some 10, op := Op.alloc 49, type := 0, pos := "exact.go:5446", after := #[], guard := none }) rfl (fun K hK => ?_) AllReadyH.nil)
      · go_simp
        go_at_call 12; with_reducible refine (S1.out _ bb).mono ?_; rintro e v1 ⟨g2a', rfl, bb', yfta, hb5⟩
        try go_wp2_with fail
        refine hK.out _ _ ?_ (fun hHeld => ?_)
        · exact CK.out _ bb'
        clear hK K
        replace fs := fs.keep hb5
        have fta := yfta
        clear yfta
        clear bb hb5
        have bb := bb'
        clear bb'
        try simp only [Act.put, List.setIfInBounds_toArray, List.set_cons_zero, List.set_cons_succ]
        refine wpAnyH_ready (rs := [5, 9]) (by kernel_rfl) (by simp) ?_
        refine AllReadyH.cons (o := { dst := some 37, op := Op.call { callee := Callee.value (Operand.func 23), args := #[Operand.tmp 36], argTypes := #[47] }, type := 47, pos := "exact.go:5446", after := #[{ on := 4, ground := Ground.data }, { on := 3, ground := Ground.chain }], guard := none }) rfl (fun K hK => ?_) (AllReadyH.cons (o := { dst := some 10, op := Op.alloc 49, type := 0, pos := "exact.go:5446", after := #[], guard := none }) rfl (fun K hK => ?_) AllReadyH.nil)
        · go_simp
          go_at_call 23; with_reducible refine (S2.out _ bb).mono ?_; rintro e v2 ⟨g1', rfl, bb', yfi1, hb5⟩
          try go_wp2_with fail
          refine hK.out _ _ ?_ (fun hHeld => ?_)
          · exact CK.out _ bb'
          clear hK K
          replace fs := fs.keep hb5
          replace fta := fta.keep hb5
          have fi1 := yfi1
          clear yfi1
          clear bb hb5
          have bb := bb'
          clear bb'
          try simp only [Act.put, List.setIfInBounds_toArray, List.set_cons_zero, List.set_cons_succ]
          refine wpAnyH_ready (rs := [7, 9]) (by kernel_rfl) (by simp) ?_
          refine AllReadyH.cons (o := { dst := some 39, op := Op.call { callee := Callee.value (Operand.func 23), args := #[Operand.tmp 38], argTypes := #[47] }, type := 47, pos := "exact.go:5446", after := #[{ on := 6, ground := Ground.data }, { on := 5, ground := Ground.chain }], guard := none }) rfl (fun K hK => ?_) (AllReadyH.cons (o := { dst := some 10, op := Op.alloc 49, type := 0, pos := "exact.go:5446", after := #[], guard := none }) rfl (fun K hK => ?_) AllReadyH.nil)
          · go_simp
            go_at_call 23; with_reducible refine (S3.out _ bb).mono ?_; rintro e v3 ⟨g2', rfl, bb', yfi2, hb5⟩
            try go_wp2_with fail
            refine hK.out _ _ ?_ (fun hHeld => ?_)
            · exact CK.out _ bb'
            clear hK K
            replace fs := fs.keep hb5
            replace fta := fta.keep hb5
            replace fi1 := fi1.keep hb5
            have fi2 := yfi2
            clear yfi2
            clear bb hb5
            have bb := bb'
            clear bb'
            try simp only [Act.put, List.setIfInBounds_toArray, List.set_cons_zero, List.set_cons_succ]
            refine wpAnyH_ready (rs := [8, 9]) (by kernel_rfl) (by simp) ?_
            refine AllReadyH.cons (o := { dst := some 40, op := Op.call { callee := Callee.value (Operand.func 22), args := #[Operand.tmp 33, Operand.tmp 35, Operand.tmp 37, Operand.tmp 39], argTypes := #[33, 35, 47, 47] }, type := 49, pos := "exact.go:5446", after := #[{ on := 1, ground := Ground.data }, { on := 3, ground := Ground.data }, { on := 5, ground := Ground.data }, { on := 7, ground := Ground.data }, { on := 7, ground := Ground.chain }], guard := none }) rfl (fun K hK => ?_) (AllReadyH.cons (o := { dst := some 10, op := Op.alloc 49, type := 0, pos := "exact.go:5446", after := #[], guard := none }) rfl (fun K hK => ?_) AllReadyH.nil)
            · go_simp
              go_at_call 22; with_reducible refine (SF.out _ _ _ _ _ bb fs fta fi1 fi2).mono ?_; rintro e v4 ⟨rfl, bb', hb5⟩
              try go_wp2_with fail
              refine hK.out _ _ ?_ (fun hHeld => ?_)
              · exact CK.out _ bb'
              clear hK K
              clear bb hb5
              have bb := bb'
              clear bb'
              try simp only [Act.put, List.setIfInBounds_toArray, List.set_cons_zero, List.set_cons_succ]
              have bb0 := bb
              refine wpAnyH_ready (rs := [9]) (by kernel_rfl) (by simp) ?_
              refine AllReadyH.cons (o := { dst := some 10, op := Op.alloc 49, type := 0, pos := "exact.go:5446", after := #[], guard := none }) rfl (fun K hK => ?_) AllReadyH.nil
              go_simp
              have RR := Own2.new v4 (.int .i64 0) (.int .i64 0) 49
              have hB0 := bb.size
              refine hK.out _ _ ?_ (fun hHeld => ?_)
              · exact CK.out _ (keepB bb (alloc_below _ _))
              clear hK K
              replace bb := keepB bb (alloc_below _ (.cells #[.int .i64 0, .int .i64 0] 49))
              try simp only [Act.put, List.setIfInBounds_toArray, List.set_cons_zero, List.set_cons_succ]
              refine wpAnyH_ready (rs := [10]) (by kernel_rfl) (by simp) ?_
              refine AllReadyH.cons (o := { dst := none, op := Op.store 49 (Operand.tmp 10) (Operand.tmp 40), type := 0, pos := "exact.go:5446", after := #[{ on := 9, ground := Ground.data }, { on := 8, ground := Ground.data }, { on := 8, ground := Ground.chain }, { on := 0, ground := Ground.phase }, { on := 1, ground := Ground.phase }, { on := 2, ground := Ground.phase }, { on := 3, ground := Ground.phase }, { on := 4, ground := Ground.phase }, { on := 5, ground := Ground.phase }, { on := 6, ground := Ground.phase }, { on := 7, ground := Ground.phase }, { on := 8, ground := Ground.phase }, { on := 9, ground := Ground.phase }], guard := none }) rfl (fun K hK => ?_) AllReadyH.nil
              obtain ⟨⟨q8, q0, q1⟩, f0, f1⟩ := id RR
              go_simp
              refine hK.out _ _ ?_ (fun hHeld => ?_)
              · first | exact CK.out _ ((bb.setCell hB0 _).setCell hB0 _) | exact CK.out _ (keepB bb0 (alloc_below _ _))
              clear hK K
              refine wpAnyH_done (by kernel_rfl) ?_ _
              go_wp2_with fail
              go_meet
              first
                | exact ⟨_, rfl, hidden ((RR.set0 _).set1 _).two, (bb.setCell hB0 _).setCell hB0 _⟩
                | exact ⟨_, rfl, hidden (Two.new _ _ _ _), keepB bb0 (alloc_below _ _)⟩
            · go_simp
              have RR := Own2.new v3 (.int .i64 0) (.int .i64 0) 49
              have hB0 := bb.size
              refine hK.out _ _ ?_ (fun hHeld => ?_)
              · exact CK.out _ (keepB bb (alloc_below _ _))
              clear hK K
              replace bb := keepB bb (alloc_below _ (.cells #[.int .i64 0, .int .i64 0] 49))
              replace fs := fs.keep (alloc_below _ (.cells #[.int .i64 0, .int .i64 0] 49))
              replace fta := fta.keep (alloc_below _ (.cells #[.int .i64 0, .int .i64 0] 49))
              replace fi1 := fi1.keep (alloc_below _ (.cells #[.int .i64 0, .int .i64 0] 49))
              replace fi2 := fi2.keep (alloc_below _ (.cells #[.int .i64 0, .int .i64 0] 49))
              try simp only [Act.put, List.setIfInBounds_toArray, List.set_cons_zero, List.set_cons_succ]
              refine wpAnyH_ready (rs := [8]) (by kernel_rfl) (by simp) ?_
              refine AllReadyH.cons (o := { dst := some 40, op := Op.call { callee := Callee.value (Operand.func 22), args := #[Operand.tmp 33, Operand.tmp 35, Operand.tmp 37, Operand.tmp 39], argTypes := #[33, 35, 47, 47] }, type := 49, pos := "exact.go:5446", after := #[{ on := 1, ground := Ground.data }, { on := 3, ground := Ground.data }, { on := 5, ground := Ground.data }, { on := 7, ground := Ground.data }, { on := 7, ground := Ground.chain }], guard := none }) rfl (fun K hK => ?_) AllReadyH.nil
              go_simp
              go_at_call 22; with_reducible refine (SF.out _ _ _ _ _ bb fs fta fi1 fi2).mono ?_; rintro e v4 ⟨rfl, bb', hb5⟩
              try go_wp2_with fail
              refine hK.out _ _ ?_ (fun hHeld => ?_)
              · exact CK.out _ bb'
              clear hK K
              replace RR := RR.keep hb5
              clear bb hb5
              have bb := bb'
              clear bb'
              try simp only [Act.put, List.setIfInBounds_toArray, List.set_cons_zero, List.set_cons_succ]
              have bb0 := bb
              refine wpAnyH_ready (rs := [10]) (by kernel_rfl) (by simp) ?_
              refine AllReadyH.cons (o := { dst := none, op := Op.store 49 (Operand.tmp 10) (Operand.tmp 40), type := 0, pos := "exact.go:5446", after := #[{ on := 9, ground := Ground.data }, { on := 8, ground := Ground.data }, { on := 8, ground := Ground.chain }, { on := 0, ground := Ground.phase }, { on := 1, ground := Ground.phase }, { on := 2, ground := Ground.phase }, { on := 3, ground := Ground.phase }, { on := 4, ground := Ground.phase }, { on := 5, ground := Ground.phase }, { on := 6, ground := Ground.phase }, { on := 7, ground := Ground.phase }, { on := 8, ground := Ground.phase }, { on := 9, ground := Ground.phase }], guard := none }) rfl (fun K hK => ?_) AllReadyH.nil
              obtain ⟨⟨q8, q0, q1⟩, f0, f1⟩ := id RR
              go_simp
              refine hK.out _ _ ?_ (fun hHeld => ?_)
              · first | exact CK.out _ ((bb.setCell hB0 _).setCell hB0 _) | exact CK.out _ (keepB bb0 (alloc_below _ _))
              clear hK K
              refine wpAnyH_done (by kernel_rfl) ?_ _
              go_wp2_with fail
              go_meet
              first
                | exact ⟨_, rfl, hidden ((RR.set0 _).set1 _).two, (bb.setCell hB0 _).setCell hB0 _⟩
                | exact ⟨_, rfl, hidden (Two.new _ _ _ _), keepB bb0 (alloc_below _ _)⟩
          · go_simp
            have RR := Own2.new v2 (.int .i64 0) (.int .i64 0) 49
            have hB0 := bb.size
            refine hK.out _ _ ?_ (fun hHeld => ?_)
            · exact CK.out _ (keepB bb (alloc_below _ _))
            clear hK K
            replace bb := keepB bb (alloc_below _ (.cells #[.int .i64 0, .int .i64 0] 49))
            replace fs := fs.keep (alloc_below _ (.cells #[.int .i64 0, .int .i64 0] 49))
            replace fta := fta.keep (alloc_below _ (.cells #[.int .i64 0, .int .i64 0] 49))
            replace fi1 := fi1.keep (alloc_below _ (.cells #[.int .i64 0, .int .i64 0] 49))
            try simp only [Act.put, List.setIfInBounds_toArray, List.set_cons_zero, List.set_cons_succ]
            refine wpAnyH_ready (rs := [7]) (by kernel_rfl) (by simp) ?_
            refine AllReadyH.cons (o := { dst := some 39, op := Op.call { callee := Callee.value (Operand.func 23), args := #[Operand.tmp 38], argTypes := #[47] }, type := 47, pos := "exact.go:5446", after := #[{ on := 6, ground := Ground.data }, { on := 5, ground := Ground.chain }], guard := none }) rfl (fun K hK => ?_) AllReadyH.nil
            go_simp
            go_at_call 23; with_reducible refine (S3.out _ bb).mono ?_; rintro e v3 ⟨g2', rfl, bb', yfi2, hb5⟩
            try go_wp2_with fail
            refine hK.out _ _ ?_ (fun hHeld => ?_)
            · exact CK.out _ bb'
            clear hK K
            replace RR := RR.keep hb5
            replace fs := fs.keep hb5
            replace fta := fta.keep hb5
            replace fi1 := fi1.keep hb5
            have fi2 := yfi2
            clear yfi2
            clear bb hb5
            have bb := bb'
            clear bb'
            try simp only [Act.put, List.setIfInBounds_toArray, List.set_cons_zero, List.set_cons_succ]
            refine wpAnyH_ready (rs := [8]) (by kernel_rfl) (by simp) ?_
            refine AllReadyH.cons (o := { dst := some 40, op := Op.call { callee := Callee.value (Operand.func 22), args := #[Operand.tmp 33, Operand.tmp 35, Operand.tmp 37, Operand.tmp 39], argTypes := #[33, 35, 47, 47] }, type := 49, pos := "exact.go:5446", after := #[{ on := 1, ground := Ground.data }, { on := 3, ground := Ground.data }, { on := 5, ground := Ground.data }, { on := 7, ground := Ground.data }, { on := 7, ground := Ground.chain }], guard := none }) rfl (fun K hK => ?_) AllReadyH.nil
            go_simp
            go_at_call 22; with_reducible refine (SF.out _ _ _ _ _ bb fs fta fi1 fi2).mono ?_; rintro e v4 ⟨rfl, bb', hb5⟩
            try go_wp2_with fail
            refine hK.out _ _ ?_ (fun hHeld => ?_)
            · exact CK.out _ bb'
            clear hK K
            replace RR := RR.keep hb5
            clear bb hb5
            have bb := bb'
            clear bb'
            try simp only [Act.put, List.setIfInBounds_toArray, List.set_cons_zero, List.set_cons_succ]
            have bb0 := bb
            refine wpAnyH_ready (rs := [10]) (by kernel_rfl) (by simp) ?_
            refine AllReadyH.cons (o := { dst := none, op := Op.store 49 (Operand.tmp 10) (Operand.tmp 40), type := 0, pos := "exact.go:5446", after := #[{ on := 9, ground := Ground.data }, { on := 8, ground := Ground.data }, { on := 8, ground := Ground.chain }, { on := 0, ground := Ground.phase }, { on := 1, ground := Ground.phase }, { on := 2, ground := Ground.phase }, { on := 3, ground := Ground.phase }, { on := 4, ground := Ground.phase }, { on := 5, ground := Ground.phase }, { on := 6, ground := Ground.phase }, { on := 7, ground := Ground.phase }, { on := 8, ground := Ground.phase }, { on := 9, ground := Ground.phase }], guard := none }) rfl (fun K hK => ?_) AllReadyH.nil
            obtain ⟨⟨q8, q0, q1⟩, f0, f1⟩ := id RR
            go_simp
            refine hK.out _ _ ?_ (fun hHeld => ?_)
            · first | exact CK.out _ ((bb.setCell hB0 _).setCell hB0 _) | exact CK.out _ (keepB bb0 (alloc_below _ _))
            clear hK K
            refine wpAnyH_done (by kernel_rfl) ?_ _
            go_wp2_with fail
            go_meet
            first
              | exact ⟨_, rfl, hidden ((RR.set0 _).set1 _).two, (bb.setCell hB0 _).setCell hB0 _⟩
              | exact ⟨_, rfl, hidden (Two.new _ _ _ _), keepB bb0 (alloc_below _ _)⟩
        · go_simp
          have RR := Own2.new v1 (.int .i64 0) (.int .i64 0) 49
          have hB0 := bb.size
          refine hK.out _ _ ?_ (fun hHeld => ?_)
          · exact CK.out _ (keepB bb (alloc_below _ _))
          clear hK K
          replace bb := keepB bb (alloc_below _ (.cells #[.int .i64 0, .int .i64 0] 49))
          replace fs := fs.keep (alloc_below _ (.cells #[.int .i64 0, .int .i64 0] 49))
          replace fta := fta.keep (alloc_below _ (.cells #[.int .i64 0, .int .i64 0] 49))
          try simp only [Act.put, List.setIfInBounds_toArray, List.set_cons_zero, List.set_cons_succ]
          refine wpAnyH_ready (rs := [5]) (by kernel_rfl) (by simp) ?_
          refine AllReadyH.cons (o := { dst := some 37, op := Op.call { callee := Callee.value (Operand.func 23), args := #[Operand.tmp 36], argTypes := #[47] }, type := 47, pos := "exact.go:5446", after := #[{ on := 4, ground := Ground.data }, { on := 3, ground := Ground.chain }], guard := none }) rfl (fun K hK => ?_) AllReadyH.nil
          go_simp
          go_at_call 23; with_reducible refine (S2.out _ bb).mono ?_; rintro e v2 ⟨g1', rfl, bb', yfi1, hb5⟩
          try go_wp2_with fail
          refine hK.out _ _ ?_ (fun hHeld => ?_)
          · exact CK.out _ bb'
          clear hK K
          replace RR := RR.keep hb5
          replace fs := fs.keep hb5
          replace fta := fta.keep hb5
          have fi1 := yfi1
          clear yfi1
          clear bb hb5
          have bb := bb'
          clear bb'
          try simp only [Act.put, List.setIfInBounds_toArray, List.set_cons_zero, List.set_cons_succ]
          refine wpAnyH_ready (rs := [7]) (by kernel_rfl) (by simp) ?_
          refine AllReadyH.cons (o := { dst := some 39, op := Op.call { callee := Callee.value (Operand.func 23), args := #[Operand.tmp 38], argTypes := #[47] }, type := 47, pos := "exact.go:5446", after := #[{ on := 6, ground := Ground.data }, { on := 5, ground := Ground.chain }], guard := none }) rfl (fun K hK => ?_) AllReadyH.nil
          go_simp
          go_at_call 23; with_reducible refine (S3.out _ bb).mono ?_; rintro e v3 ⟨g2', rfl, bb', yfi2, hb5⟩
          try go_wp2_with fail
          refine hK.out _ _ ?_ (fun hHeld => ?_)
          · exact CK.out _ bb'
          clear hK K
          replace RR := RR.keep hb5
          replace fs := fs.keep hb5
          replace fta := fta.keep hb5
          replace fi1 := fi1.keep hb5
          have fi2 := yfi2
          clear yfi2
          clear bb hb5
          have bb := bb'
          clear bb'
          try simp only [Act.put, List.setIfInBounds_toArray, List.set_cons_zero, List.set_cons_succ]
          refine wpAnyH_ready (rs := [8]) (by kernel_rfl) (by simp) ?_
          refine AllReadyH.cons (o := { dst := some 40, op := Op.call { callee := Callee.value (Operand.func 22), args := #[Operand.tmp 33, Operand.tmp 35, Operand.tmp 37, Operand.tmp 39], argTypes := #[33, 35, 47, 47] }, type := 49, pos := "exact.go:5446", after := #[{ on := 1, ground := Ground.data }, { on := 3, ground := Ground.data }, { on := 5, ground := Ground.data }, { on := 7, ground := Ground.data }, { on := 7, ground := Ground.chain }], guard := none }) rfl (fun K hK => ?_) AllReadyH.nil
          go_simp
          go_at_call 22; with_reducible refine (SF.out _ _ _ _ _ bb fs fta fi1 fi2).mono ?_; rintro e v4 ⟨rfl, bb', hb5⟩
          try go_wp2_with fail
          refine hK.out _ _ ?_ (fun hHeld => ?_)
          · exact CK.out _ bb'
          clear hK K
          replace RR := RR.keep hb5
          clear bb hb5
          have bb := bb'
          clear bb'
          try simp only [Act.put, List.setIfInBounds_toArray, List.set_cons_zero, List.set_cons_succ]
          have bb0 := bb
          refine wpAnyH_ready (rs := [10]) (by kernel_rfl) (by simp) ?_
          refine AllReadyH.cons (o := { dst := none, op := Op.store 49 (Operand.tmp 10) (Operand.tmp 40), type := 0, pos := "exact.go:5446", after := #[{ on := 9, ground := Ground.data }, { on := 8, ground := Ground.data }, { on := 8, ground := Ground.chain }, { on := 0, ground := Ground.phase }, { on := 1, ground := Ground.phase }, { on := 2, ground := Ground.phase }, { on := 3, ground := Ground.phase }, { on := 4, ground := Ground.phase }, { on := 5, ground := Ground.phase }, { on := 6, ground := Ground.phase }, { on := 7, ground := Ground.phase }, { on := 8, ground := Ground.phase }, { on := 9, ground := Ground.phase }], guard := none }) rfl (fun K hK => ?_) AllReadyH.nil
          obtain ⟨⟨q8, q0, q1⟩, f0, f1⟩ := id RR
          go_simp
          refine hK.out _ _ ?_ (fun hHeld => ?_)
          · first | exact CK.out _ ((bb.setCell hB0 _).setCell hB0 _) | exact CK.out _ (keepB bb0 (alloc_below _ _))
          clear hK K
          refine wpAnyH_done (by kernel_rfl) ?_ _
          go_wp2_with fail
          go_meet
          first
            | exact ⟨_, rfl, hidden ((RR.set0 _).set1 _).two, (bb.setCell hB0 _).setCell hB0 _⟩
            | exact ⟨_, rfl, hidden (Two.new _ _ _ _), keepB bb0 (alloc_below _ _)⟩
      · go_simp
        have RR := Own2.new v0 (.int .i64 0) (.int .i64 0) 49
        have hB0 := bb.size
        refine hK.out _ _ ?_ (fun hHeld => ?_)
        · exact CK.out _ (keepB bb (alloc_below _ _))
        clear hK K
        replace bb := keepB bb (alloc_below _ (.cells #[.int .i64 0, .int .i64 0] 49))
        replace fs := fs.keep (alloc_below _ (.cells #[.int .i64 0, .int .i64 0] 49))
        try simp only [Act.put, List.setIfInBounds_toArray, List.set_cons_zero, List.set_cons_succ]
        refine wpAnyH_ready (rs := [3]) (by kernel_rfl) (by simp) ?_
        refine AllReadyH.cons (o := { dst := some 35, op := Op.call { callee := Callee.value (Operand.func 12), args := #[Operand.tmp 34], argTypes := #[27] }, type := 35, pos := "exact.go:5446", after := #[{ on := 2, ground := Ground.data }, { on := 1, ground := Ground.chain }], guard := none }) rfl (fun K hK => ?_) AllReadyH.nil
        go_simp
        go_at_call 12; with_reducible refine (S1.out _ bb).mono ?_; rintro e v1 ⟨g2a', rfl, bb', yfta, hb5⟩
        try go_wp2_with fail
        refine hK.out _ _ ?_ (fun hHeld => ?_)
        · exact CK.out _ bb'
        clear hK K
        replace RR := RR.keep hb5
        replace fs := fs.keep hb5
        have fta := yfta
        clear yfta
        clear bb hb5
        have bb := bb'
        clear bb'
        try simp only [Act.put, List.setIfInBounds_toArray, List.set_cons_zero, List.set_cons_succ]
        refine wpAnyH_ready (rs := [5]) (by kernel_rfl) (by simp) ?_
        refine AllReadyH.cons (o := { dst := some 37, op := Op.call { callee := Callee.value (Operand.func 23), args := #[Operand.tmp 36], argTypes := #[47] }, type := 47, pos := "exact.go:5446", after := #[{ on := 4, ground := Ground.data }, { on := 3, ground := Ground.chain }], guard := none }) rfl (fun K hK => ?_) AllReadyH.nil
        go_simp
        go_at_call 23; with_reducible refine (S2.out _ bb).mono ?_; rintro e v2 ⟨g1', rfl, bb', yfi1, hb5⟩
        try go_wp2_with fail
        refine hK.out _ _ ?_ (fun hHeld => ?_)
        · exact CK.out _ bb'
        clear hK K
        replace RR := RR.keep hb5
        replace fs := fs.keep hb5
        replace fta := fta.keep hb5
        have fi1 := yfi1
        clear yfi1
        clear bb hb5
        have bb := bb'
        clear bb'
        try simp only [Act.put, List.setIfInBounds_toArray, List.set_cons_zero, List.set_cons_succ]
        refine wpAnyH_ready (rs := [7]) (by kernel_rfl) (by simp) ?_
        refine AllReadyH.cons (o := { dst := some 39, op := Op.call { callee := Callee.value (Operand.func 23), args := #[Operand.tmp 38], argTypes := #[47] }, type := 47, pos := "exact.go:5446", after := #[{ on := 6, ground := Ground.data }, { on := 5, ground := Ground.chain }], guard := none }) rfl (fun K hK => ?_) AllReadyH.nil
        go_simp
        go_at_call 23; with_reducible refine (S3.out _ bb).mono ?_; rintro e v3 ⟨g2', rfl, bb', yfi2, hb5⟩
        try go_wp2_with fail
        refine hK.out _ _ ?_ (fun hHeld => ?_)
        · exact CK.out _ bb'
        clear hK K
        replace RR := RR.keep hb5
        replace fs := fs.keep hb5
        replace fta := fta.keep hb5
        replace fi1 := fi1.keep hb5
        have fi2 := yfi2
        clear yfi2
        clear bb hb5
        have bb := bb'
        clear bb'
        try simp only [Act.put, List.setIfInBounds_toArray, List.set_cons_zero, List.set_cons_succ]
        refine wpAnyH_ready (rs := [8]) (by kernel_rfl) (by simp) ?_
        refine AllReadyH.cons (o := { dst := some 40, op := Op.call { callee := Callee.value (Operand.func 22), args := #[Operand.tmp 33, Operand.tmp 35, Operand.tmp 37, Operand.tmp 39], argTypes := #[33, 35, 47, 47] }, type := 49, pos := "exact.go:5446", after := #[{ on := 1, ground := Ground.data }, { on := 3, ground := Ground.data }, { on := 5, ground := Ground.data }, { on := 7, ground := Ground.data }, { on := 7, ground := Ground.chain }], guard := none }) rfl (fun K hK => ?_) AllReadyH.nil
        go_simp
        go_at_call 22; with_reducible refine (SF.out _ _ _ _ _ bb fs fta fi1 fi2).mono ?_; rintro e v4 ⟨rfl, bb', hb5⟩
        try go_wp2_with fail
        refine hK.out _ _ ?_ (fun hHeld => ?_)
        · exact CK.out _ bb'
        clear hK K
        replace RR := RR.keep hb5
        clear bb hb5
        have bb := bb'
        clear bb'
        try simp only [Act.put, List.setIfInBounds_toArray, List.set_cons_zero, List.set_cons_succ]
        have bb0 := bb
        refine wpAnyH_ready (rs := [10]) (by kernel_rfl) (by simp) ?_
        refine AllReadyH.cons (o := { dst := none, op := Op.store 49 (Operand.tmp 10) (Operand.tmp 40), type := 0, pos := "exact.go:5446", after := #[{ on := 9, ground := Ground.data }, { on := 8, ground := Ground.data }, { on := 8, ground := Ground.chain }, { on := 0, ground := Ground.phase }, { on := 1, ground := Ground.phase }, { on := 2, ground := Ground.phase }, { on := 3, ground := Ground.phase }, { on := 4, ground := Ground.phase }, { on := 5, ground := Ground.phase }, { on := 6, ground := Ground.phase }, { on := 7, ground := Ground.phase }, { on := 8, ground := Ground.phase }, { on := 9, ground := Ground.phase }], guard := none }) rfl (fun K hK => ?_) AllReadyH.nil
        obtain ⟨⟨q8, q0, q1⟩, f0, f1⟩ := id RR
        go_simp
        refine hK.out _ _ ?_ (fun hHeld => ?_)
        · first | exact CK.out _ ((bb.setCell hB0 _).setCell hB0 _) | exact CK.out _ (keepB bb0 (alloc_below _ _))
        clear hK K
        refine wpAnyH_done (by kernel_rfl) ?_ _
        go_wp2_with fail
        go_meet
        first
          | exact ⟨_, rfl, hidden ((RR.set0 _).set1 _).two, (bb.setCell hB0 _).setCell hB0 _⟩
          | exact ⟨_, rfl, hidden (Two.new _ _ _ _), keepB bb0 (alloc_below _ _)⟩
    · go_simp
      have RR := (Own2.new w2 (.int .i64 0) (.int .i64 0) 49).keep (Below.refl _ _).drew
      have hB0 := bb.size
      refine hK.out _ _ ?_ (fun hHeld => ?_)
      · exact CK.out _ (alloc_below _ _).drew
      clear hK K
      replace bb := (alloc_below w2 (.cells #[.int .i64 0, .int .i64 0] 49)).drew
      try simp only [Act.put, List.setIfInBounds_toArray, List.set_cons_zero, List.set_cons_succ]
      refine wpAnyH_ready (rs := [1]) (by kernel_rfl) (by simp) ?_
      refine AllReadyH.cons (o := { dst := some 33, op := Op.call { callee := Callee.value (Operand.func 11), args := #[Operand.tmp 32], argTypes := #[24] }, type := 33, pos := "exact.go:5446", after := #[{ on := 0, ground := Ground.data }], guard := none }) rfl (fun K hK => ?_) AllReadyH.nil
      go_simp
      go_at_call 11; with_reducible refine (S0.out _ bb).mono ?_; rintro e v0 ⟨g', rfl, bb', yfs, hb5⟩
      try go_wp2_with fail
      refine hK.out _ _ ?_ (fun hHeld => ?_)
      · exact CK.out _ bb'
      clear hK K
      replace RR := RR.keep hb5
      have fs := yfs
      clear yfs
      clear bb hb5
      have bb := bb'
      clear bb'
      try simp only [Act.put, List.setIfInBounds_toArray, List.set_cons_zero, List.set_cons_succ]
      refine wpAnyH_ready (rs := [3]) (by kernel_rfl) (by simp) ?_
      refine AllReadyH.cons (o := { dst := some 35, op := Op.call { callee := Callee.value (Operand.func 12), args := #[Operand.tmp 34], argTypes := #[27] }, type := 35, pos := "exact.go:5446", after := #[{ on := 2, ground := Ground.data }, { on := 1, ground := Ground.chain }], guard := none }) rfl (fun K hK => ?_) AllReadyH.nil
      go_simp
      go_at_call 12; with_reducible refine (S1.out _ bb).mono ?_; rintro e v1 ⟨g2a', rfl, bb', yfta, hb5⟩
      try go_wp2_with fail
      refine hK.out _ _ ?_ (fun hHeld => ?_)
      · exact CK.out _ bb'
      clear hK K
      replace RR := RR.keep hb5
      replace fs := fs.keep hb5
      have fta := yfta
      clear yfta
      clear bb hb5
      have bb := bb'
      clear bb'
      try simp only [Act.put, List.setIfInBounds_toArray, List.set_cons_zero, List.set_cons_succ]
      refine wpAnyH_ready (rs := [5]) (by kernel_rfl) (by simp) ?_
      refine AllReadyH.cons (o := { dst := some 37, op := Op.call { callee := Callee.value (Operand.func 23), args := #[Operand.tmp 36], argTypes := #[47] }, type := 47, pos := "exact.go:5446", after := #[{ on := 4, ground := Ground.data }, { on := 3, ground := Ground.chain }], guard := none }) rfl (fun K hK => ?_) AllReadyH.nil
      go_simp
      go_at_call 23; with_reducible refine (S2.out _ bb).mono ?_; rintro e v2 ⟨g1', rfl, bb', yfi1, hb5⟩
      try go_wp2_with fail
      refine hK.out _ _ ?_ (fun hHeld => ?_)
      · exact CK.out _ bb'
      clear hK K
      replace RR := RR.keep hb5
      replace fs := fs.keep hb5
      replace fta := fta.keep hb5
      have fi1 := yfi1
      clear yfi1
      clear bb hb5
      have bb := bb'
      clear bb'
      try simp only [Act.put, List.setIfInBounds_toArray, List.set_cons_zero, List.set_cons_succ]
      refine wpAnyH_ready (rs := [7]) (by kernel_rfl) (by simp) ?_
      refine AllReadyH.cons (o := { dst := some 39, op := Op.call { callee := Callee.value (Operand.func 23), args := #[Operand.tmp 38], argTypes := #[47] }, type := 47, pos := "exact.go:5446", after := #[{ on := 6, ground := Ground.data }, { on := 5, ground := Ground.chain }], guard := none }) rfl (fun K hK => ?_) AllReadyH.nil
      go_simp
      go_at_call 23; with_reducible refine (S3.out _ bb).mono ?_; rintro e v3 ⟨g2', rfl, bb', yfi2, hb5⟩
      try go_wp2_with fail
      refine hK.out _ _ ?_ (fun hHeld => ?_)
      · exact CK.out _ bb'
      clear hK K
      replace RR := RR.keep hb5
      replace fs := fs.keep hb5
      replace fta := fta.keep hb5
      replace fi1 := fi1.keep hb5
      have fi2 := yfi2
      clear yfi2
      clear bb hb5
      have bb := bb'
      clear bb'
      try simp only [Act.put, List.setIfInBounds_toArray, List.set_cons_zero, List.set_cons_succ]
      refine wpAnyH_ready (rs := [8]) (by kernel_rfl) (by simp) ?_
      refine AllReadyH.cons (o := { dst := some 40, op := Op.call { callee := Callee.value (Operand.func 22), args := #[Operand.tmp 33, Operand.tmp 35, Operand.tmp 37, Operand.tmp 39], argTypes := #[33, 35, 47, 47] }, type := 49, pos := "exact.go:5446", after := #[{ on := 1, ground := Ground.data }, { on := 3, ground := Ground.data }, { on := 5, ground := Ground.data }, { on := 7, ground := Ground.data }, { on := 7, ground := Ground.chain }], guard := none }) rfl (fun K hK => ?_) AllReadyH.nil
      go_simp
      go_at_call 22; with_reducible refine (SF.out _ _ _ _ _ bb fs fta fi1 fi2).mono ?_; rintro e v4 ⟨rfl, bb', hb5⟩
      try go_wp2_with fail
      refine hK.out _ _ ?_ (fun hHeld => ?_)
      · exact CK.out _ bb'
      clear hK K
      replace RR := RR.keep hb5
      clear bb hb5
      have bb := bb'
      clear bb'
      try simp only [Act.put, List.setIfInBounds_toArray, List.set_cons_zero, List.set_cons_succ]
      have bb0 := bb
      refine wpAnyH_ready (rs := [10]) (by kernel_rfl) (by simp) ?_
      refine AllReadyH.cons (o := { dst := none, op := Op.store 49 (Operand.tmp 10) (Operand.tmp 40), type := 0, pos := "exact.go:5446", after := #[{ on := 9, ground := Ground.data }, { on := 8, ground := Ground.data }, { on := 8, ground := Ground.chain }, { on := 0, ground := Ground.phase }, { on := 1, ground := Ground.phase }, { on := 2, ground := Ground.phase }, { on := 3, ground := Ground.phase }, { on := 4, ground := Ground.phase }, { on := 5, ground := Ground.phase }, { on := 6, ground := Ground.phase }, { on := 7, ground := Ground.phase }, { on := 8, ground := Ground.phase }, { on := 9, ground := Ground.phase }], guard := none }) rfl (fun K hK => ?_) AllReadyH.nil
      obtain ⟨⟨q8, q0, q1⟩, f0, f1⟩ := id RR
      go_simp
      refine hK.out _ _ ?_ (fun hHeld => ?_)
      · first | exact CK.out _ ((bb.setCell hB0 _).setCell hB0 _) | exact CK.out _ (keepB bb0 (alloc_below _ _))
      clear hK K
      refine wpAnyH_done (by kernel_rfl) ?_ _
      go_wp2_with fail
      go_meet
      first
        | exact ⟨_, rfl, hidden ((RR.set0 _).set1 _).two, (bb.setCell hB0 _).setCell hB0 _⟩
        | exact ⟨_, rfl, hidden (Two.new _ _ _ _), keepB bb0 (alloc_below _ _)⟩
  case rest =>
    rename World => w3
    obtain ⟨R0b, rfl, R0, hb⟩ := hcut
    replace D0 := hidden (D0.out.keep hb)
    replace B := hidden (keepB B.out hb)
    replace Da := hidden (Da.out.keep hb)
    replace H := hidden (H.out.keep hb)
    replace H2a := hidden (H2a.out.keep hb)
    replace H1 := hidden (H1.out.keep hb)
    replace H2 := hidden (H2.out.keep hb)
    clear d0 e0 e1 hb CK SF S0 S1 S2 S3
    have d0 := D0.out.c0
    go_wp2_with fail
    with_reducible refine (toSig_new p n c N A _ H.out HK.out).mono ?_
    rintro e w4 ⟨g4, rfl, hg, hl, hs, hb⟩
    replace hb := keepB hb (alloc_below _ (.cells #[.slice (some ⟨g4, 0, none⟩) n n] 33))
    replace D0 := hidden (D0.out.keep hb)
    replace B := hidden (keepB B.out hb)
    replace Da := hidden (Da.out.keep hb)
    replace H := hidden (H.out.keep hb)
    replace H2a := hidden (H2a.out.keep hb)
    replace H1 := hidden (H1.out.keep hb)
    replace H2 := hidden (H2.out.keep hb)
    replace R0 := hidden (R0.out.keep hb)
    clear d0 hb hg hl
    have Q := hidden (hs.keep (alloc_below _ (.cells #[.slice (some ⟨g4, 0, none⟩) n n] 33)))
    clear hs
    have X := hidden (One.new w4 (.slice (some ⟨g4, 0, none⟩) n n) 33)
    have e0 := Da.out.c0
    have e1 := Da.out.c1
    go_wp2_with fail
    with_reducible refine (toAlgebra_src za p2a m2a c2a D2a _ H2a.out M2a.out).mono ?_
    rintro e w5 ⟨gb5, rfl, hg, hs2, hb⟩
    replace hb := keepB hb (alloc_below _ (.cells #[.int .i64 za, .slice (some ⟨gb5, 0, none⟩) m2a m2a] 35))
    replace D0 := hidden (D0.out.keep hb)
    replace B := hidden (keepB B.out hb)
    replace Da := hidden (Da.out.keep hb)
    replace H := hidden (H.out.keep hb)
    replace H2a := hidden (H2a.out.keep hb)
    replace H1 := hidden (H1.out.keep hb)
    replace H2 := hidden (H2.out.keep hb)
    replace R0 := hidden (R0.out.keep hb)
    replace Q := hidden (Q.out.keep hb)
    replace X := hidden (X.out.keep hb)
    clear e0 e1 hb hg
    have Q2a := hidden (hs2.mats.keep (alloc_below _ (.cells #[.int .i64 za, .slice (some ⟨gb5, 0, none⟩) m2a m2a] 35)))
    clear hs2
    have Y := hidden (Two.new w5 (.int .i64 za) (.slice (some ⟨gb5, 0, none⟩) m2a m2a) 35)
    go_wp2_with fail
    with_reducible refine (toInts_new p1 m1 c1 L1 _ H1.out HM1.out).mono ?_
    rintro e w6 ⟨g6, rfl, hs, hb⟩
    replace D0 := hidden (D0.out.keep hb)
    replace B := hidden (keepB B.out hb)
    replace Da := hidden (Da.out.keep hb)
    replace H := hidden (H.out.keep hb)
    replace H2a := hidden (H2a.out.keep hb)
    replace H1 := hidden (H1.out.keep hb)
    replace H2 := hidden (H2.out.keep hb)
    replace R0 := hidden (R0.out.keep hb)
    replace Q := hidden (Q.out.keep hb)
    replace X := hidden (X.out.keep hb)
    replace Q2a := hidden (Q2a.out.keep hb)
    replace Y := hidden (Y.out.keep hb)
    clear hb
    have Q1 := hidden (hs)
    clear hs
    go_wp2_with fail
    with_reducible refine (toInts_new p2 m2 c2 L2 _ H2.out HM2.out).mono ?_
    rintro e w7 ⟨g7, rfl, hs, hb⟩
    replace D0 := hidden (D0.out.keep hb)
    replace B := hidden (keepB B.out hb)
    replace Da := hidden (Da.out.keep hb)
    replace H := hidden (H.out.keep hb)
    replace H2a := hidden (H2a.out.keep hb)
    replace H1 := hidden (H1.out.keep hb)
    replace H2 := hidden (H2.out.keep hb)
    replace R0 := hidden (R0.out.keep hb)
    replace Q := hidden (Q.out.keep hb)
    replace X := hidden (X.out.keep hb)
    replace Q2a := hidden (Q2a.out.keep hb)
    replace Y := hidden (Y.out.keep hb)
    replace Q1 := hidden (Q1.out.keep hb)
    clear hb
    have Q2 := hidden (hs)
    clear hs
    have x0 := X.out.c0
    have y0 := Y.out.c0
    have y1 := Y.out.c1
    go_wp2_with fail
    with_reducible refine (IM.out _ _ _ _ _ Q.out Q2a.out Q1.out Q2.out HK.out M2a.out).mono ?_
    rintro e w8 ⟨rfl, hb⟩
    replace hb := keepB hb (alloc_below _ (.cells #[.int .i64 z0, .int .i64 z1] 49))
    replace D0 := hidden (D0.out.keep hb)
    replace B := hidden (keepB B.out hb)
    replace Da := hidden (Da.out.keep hb)
    replace H := hidden (H.out.keep hb)
    replace H2a := hidden (H2a.out.keep hb)
    replace H1 := hidden (H1.out.keep hb)
    replace H2 := hidden (H2.out.keep hb)
    replace R0 := hidden (R0.out.keep hb)
    replace Q := hidden (Q.out.keep hb)
    replace X := hidden (X.out.keep hb)
    replace Q2a := hidden (Q2a.out.keep hb)
    replace Y := hidden (Y.out.keep hb)
    replace Q1 := hidden (Q1.out.keep hb)
    replace Q2 := hidden (Q2.out.keep hb)
    clear x0 y0 y1 hb
    have R1 := hidden (Two.new w8 (.int .i64 z0) (.int .i64 z1) 49)
    have r0 := R0.out.c0
    have r1 := R0.out.c1
    have r2 := R1.out.c0
    have r3 := R1.out.c1
    go_wp2_with fail
    with_reducible refine (eqInt_eq _ _ _).mono ?_
    rintro e w9 ⟨rfl, hb⟩
    replace D0 := hidden (D0.out.keep hb)
    replace B := hidden (keepB B.out hb)
    replace Da := hidden (Da.out.keep hb)
    replace H := hidden (H.out.keep hb)
    replace H2a := hidden (H2a.out.keep hb)
    replace H1 := hidden (H1.out.keep hb)
    replace H2 := hidden (H2.out.keep hb)
    replace R0 := hidden (R0.out.keep hb)
    replace Q := hidden (Q.out.keep hb)
    replace X := hidden (X.out.keep hb)
    replace Q2a := hidden (Q2a.out.keep hb)
    replace Y := hidden (Y.out.keep hb)
    replace Q1 := hidden (Q1.out.keep hb)
    replace Q2 := hidden (Q2.out.keep hb)
    replace R1 := hidden (R1.out.keep hb)
    clear r0 r1 r2 r3 hb
    clear R0 R1
    have S1 := hidden (show ∀ wc, Below w9.heap.size w9 wc → Calls Try.prog 11 #[.agg #[.slice p n c]] wc fun e w' => ∃ g, e = .returned (.agg #[.slice (some ⟨g, 0, none⟩) n n]) ∧ Below w9.heap.size w9 w' ∧ Syms w' g 0 n N A ∧ w'.cell? ⟨w4.heap.size, 0, none⟩ = some (.slice (some ⟨g4, 0, none⟩) n n) from fun wc hc => by
      refine (toSig_new p n c N A wc (H.out.keep hc) HK.out).mono ?_
      rintro e w' ⟨g, rfl, hg, hl, hs, hb⟩
      exact ⟨g, rfl, keepB hc hb, hs, (X.out.keep (keepB hc hb)).c0⟩)
    have S2 := hidden (show ∀ wc g, Below w9.heap.size w9 wc → Syms wc g 0 n N A → Calls Try.prog 14 #[.agg #[.slice (some ⟨g4, 0, none⟩) n n], .agg #[.slice (some ⟨g, 0, none⟩) n n]] wc fun e w' => e = .returned (.bool true) ∧ Below w9.heap.size w9 w' from fun wc g hc hm => by
      refine (eqSignature_eq g4 0 g 0 n n n N A wc (Q.out.keep hc) hm HK.out.most).mono ?_
      rintro e w' ⟨rfl, hb⟩
      exact ⟨rfl, keepB hc hb⟩)
    have x0 := X.out.c0
    have d0 := D0.out.c0
    go_wp2_with fail
    go_cut [62] (fun t wc => t = .bool false ∧ Below w9.heap.size w9 wc)
    case first =>
      go_region_with (first
        | (go_at_call 11; with_reducible refine (S1.out _ ?_).mono ?_; exact (Below.refl _ _).drew; rintro e v5 ⟨g5', rfl, b5', m5', d5'⟩)
        | (go_at_call 14; with_reducible refine (S2.out _ _ b5' m5').mono ?_; rintro e v6 ⟨rfl, b6'⟩))
      all_goals (go_wp2_with fail; go_meet)
      all_goals exact ⟨rfl, b6'⟩
    case rest =>
      rename World => w10
      obtain ⟨rfl, hb⟩ := hcut
      replace D0 := hidden (D0.out.keep hb)
      replace B := hidden (keepB B.out hb)
      replace Da := hidden (Da.out.keep hb)
      replace H := hidden (H.out.keep hb)
      replace H2a := hidden (H2a.out.keep hb)
      replace H1 := hidden (H1.out.keep hb)
      replace H2 := hidden (H2.out.keep hb)
      replace Q := hidden (Q.out.keep hb)
      replace X := hidden (X.out.keep hb)
      replace Q2a := hidden (Q2a.out.keep hb)
      replace Y := hidden (Y.out.keep hb)
      replace Q1 := hidden (Q1.out.keep hb)
      replace Q2 := hidden (Q2.out.keep hb)
      clear x0 d0 hb S1 S2
      have S1 := hidden (show ∀ wc, Below w10.heap.size w10 wc → Calls Try.prog 12 #[.agg #[.int .i64 za, .slice p2a m2a c2a]] wc fun e w' => ∃ h2, e = .returned (.agg #[.int .i64 za, .slice (some ⟨h2, 0, none⟩) m2a m2a]) ∧ Below w10.heap.size w10 w' ∧ Mats w' h2 0 m2a D2a ∧ w'.cell? ⟨w5.heap.size, 0, none⟩ = some (.int .i64 za) ∧ w'.cell? ⟨w5.heap.size, 1, none⟩ = some (.slice (some ⟨gb5, 0, none⟩) m2a m2a) from fun wc hc => by
        refine (toAlgebra_src za p2a m2a c2a D2a wc (H2a.out.keep hc) M2a.out).mono ?_
        rintro e w' ⟨h2, rfl, hg, hs2, hb⟩
        exact ⟨h2, rfl, keepB hc hb, hs2.mats, (Y.out.keep (keepB hc hb)).c0, (Y.out.keep (keepB hc hb)).c1⟩)
      have S2 := hidden (show ∀ wc h2, Below w10.heap.size w10 wc → Mats wc h2 0 m2a D2a → Calls Try.prog 15 #[.agg #[.int .i64 za, .slice (some ⟨gb5, 0, none⟩) m2a m2a], .agg #[.int .i64 za, .slice (some ⟨h2, 0, none⟩) m2a m2a]] wc fun e w' => e = .returned (.bool true) ∧ Below w10.heap.size w10 w' from fun wc h2 hc hm2 => by
        refine (eqAlgebra_eq _ _ _ _ _ _ _ _ D2a wc (Q2a.out.keep hc) hm2 M2a.out).mono ?_
        rintro e w' ⟨rfl, hb⟩
        exact ⟨rfl, keepB hc hb⟩)
      have x0 := Y.out.c0
      have x1 := Y.out.c1
      have e0 := Da.out.c0
      have e1 := Da.out.c1
      go_wp2_with fail
      go_cut [67] (fun t wc => t = .bool false ∧ Below w10.heap.size w10 wc)
      case first =>
        go_region_with (first
          | (go_at_call 12; with_reducible refine (S1.out _ ?_).mono ?_; exact (Below.refl _ _).drew; rintro e v5 ⟨g6', rfl, b5', m6', d5', d6'⟩)
          | (go_at_call 15; with_reducible refine (S2.out _ _ b5' m6').mono ?_; rintro e v6 ⟨rfl, b6'⟩))
        all_goals (go_wp2_with fail; go_meet)
        all_goals exact ⟨rfl, b6'⟩
      case rest =>
        rename World => w11
        obtain ⟨rfl, hb⟩ := hcut
        replace D0 := hidden (D0.out.keep hb)
        replace B := hidden (keepB B.out hb)
        replace Da := hidden (Da.out.keep hb)
        replace H := hidden (H.out.keep hb)
        replace H2a := hidden (H2a.out.keep hb)
        replace H1 := hidden (H1.out.keep hb)
        replace H2 := hidden (H2.out.keep hb)
        replace Q := hidden (Q.out.keep hb)
        replace X := hidden (X.out.keep hb)
        replace Q2a := hidden (Q2a.out.keep hb)
        replace Y := hidden (Y.out.keep hb)
        replace Q1 := hidden (Q1.out.keep hb)
        replace Q2 := hidden (Q2.out.keep hb)
        clear x0 x1 e0 e1 hb S1 S2
        go_wp2_with fail
        with_reducible refine (toInts_new p1 m1 c1 L1 _ H1.out HM1.out).mono ?_
        rintro e w12 ⟨g12, rfl, hs, hb⟩
        replace D0 := hidden (D0.out.keep hb)
        replace B := hidden (keepB B.out hb)
        replace Da := hidden (Da.out.keep hb)
        replace H := hidden (H.out.keep hb)
        replace H2a := hidden (H2a.out.keep hb)
        replace H1 := hidden (H1.out.keep hb)
        replace H2 := hidden (H2.out.keep hb)
        replace Q := hidden (Q.out.keep hb)
        replace X := hidden (X.out.keep hb)
        replace Q2a := hidden (Q2a.out.keep hb)
        replace Y := hidden (Y.out.keep hb)
        replace Q1 := hidden (Q1.out.keep hb)
        replace Q2 := hidden (Q2.out.keep hb)
        clear hb
        have Q9 := hidden (hs)
        clear hs
        go_wp2_with fail
        with_reducible refine (eqInt64S_eq _ _ _ _ _ _ _ L1 _ Q1.out Q9.out HM1.out).mono ?_
        rintro e w13 ⟨rfl, hb⟩
        replace D0 := hidden (D0.out.keep hb)
        replace B := hidden (keepB B.out hb)
        replace Da := hidden (Da.out.keep hb)
        replace H := hidden (H.out.keep hb)
        replace H2a := hidden (H2a.out.keep hb)
        replace H1 := hidden (H1.out.keep hb)
        replace H2 := hidden (H2.out.keep hb)
        replace Q := hidden (Q.out.keep hb)
        replace X := hidden (X.out.keep hb)
        replace Q2a := hidden (Q2a.out.keep hb)
        replace Y := hidden (Y.out.keep hb)
        replace Q1 := hidden (Q1.out.keep hb)
        replace Q2 := hidden (Q2.out.keep hb)
        replace Q9 := hidden (Q9.out.keep hb)
        clear hb
        clear Q9
        go_wp2_with fail
        with_reducible refine (toInts_new p2 m2 c2 L2 _ H2.out HM2.out).mono ?_
        rintro e w14 ⟨g14, rfl, hs, hb⟩
        replace D0 := hidden (D0.out.keep hb)
        replace B := hidden (keepB B.out hb)
        replace Da := hidden (Da.out.keep hb)
        replace H := hidden (H.out.keep hb)
        replace H2a := hidden (H2a.out.keep hb)
        replace H1 := hidden (H1.out.keep hb)
        replace H2 := hidden (H2.out.keep hb)
        replace Q := hidden (Q.out.keep hb)
        replace X := hidden (X.out.keep hb)
        replace Q2a := hidden (Q2a.out.keep hb)
        replace Y := hidden (Y.out.keep hb)
        replace Q1 := hidden (Q1.out.keep hb)
        replace Q2 := hidden (Q2.out.keep hb)
        clear hb
        have Q9 := hidden (hs)
        clear hs
        go_wp2_with fail
        with_reducible refine (eqInt64S_eq _ _ _ _ _ _ _ L2 _ Q2.out Q9.out HM2.out).mono ?_
        rintro e w15 ⟨rfl, hb⟩
        replace D0 := hidden (D0.out.keep hb)
        replace B := hidden (keepB B.out hb)
        replace Da := hidden (Da.out.keep hb)
        replace H := hidden (H.out.keep hb)
        replace H2a := hidden (H2a.out.keep hb)
        replace H1 := hidden (H1.out.keep hb)
        replace H2 := hidden (H2.out.keep hb)
        replace Q := hidden (Q.out.keep hb)
        replace X := hidden (X.out.keep hb)
        replace Q2a := hidden (Q2a.out.keep hb)
        replace Y := hidden (Y.out.keep hb)
        replace Q1 := hidden (Q1.out.keep hb)
        replace Q2 := hidden (Q2.out.keep hb)
        replace Q9 := hidden (Q9.out.keep hb)
        clear hb
        clear Q9
        go_wp2_with fail
        go_ret
        exact ⟨rfl, B.out⟩

set_option maxRecDepth 20000 in
set_option maxHeartbeats 400000 in
theorem law_ev_big1 (p : Option Addr) (n c : Nat) (za : Int) (p2a : Option Addr) (m2a c2a : Nat) (p1 : Option Addr) (m1 c1 : Nat) (p2 : Option Addr) (m2 c2 : Nat) (w : World) (hm : ¬ m1 ≤ 1048576) :
    Calls Try.prog 5 #[.agg #[.slice p n c], .agg #[.int .i64 za, .slice p2a m2a c2a], .slice p1 m1 c1, .slice p2 m2 c2] w fun e w' => e = .returned (.bool true) ∧ Below w.heap.size w w' := by
  have h : (1048576 : Int) < m1 := by omega
  go_enter Try.func5, Try.ntmps5
  go_wp2
  go_ret
  exact ⟨rfl, keepB (alloc_below _ _) (alloc_below _ _)⟩

set_option maxRecDepth 20000 in
set_option maxHeartbeats 400000 in
theorem law_ev_big2 (p : Option Addr) (n c : Nat) (za : Int) (p2a : Option Addr) (m2a c2a : Nat) (p1 : Option Addr) (m1 c1 : Nat) (p2 : Option Addr) (m2 c2 : Nat) (w : World) (hm1 : m1 ≤ 1048576) (hm : ¬ m2 ≤ 1048576) :
    Calls Try.prog 5 #[.agg #[.slice p n c], .agg #[.int .i64 za, .slice p2a m2a c2a], .slice p1 m1 c1, .slice p2 m2 c2] w fun e w' => e = .returned (.bool true) ∧ Below w.heap.size w w' := by
  have h1 : ¬ (1048576 : Int) < m1 := by omega
  have h : (1048576 : Int) < m2 := by omega
  go_enter Try.func5, Try.ntmps5
  go_wp2
  go_ret
  exact ⟨rfl, keepB (alloc_below _ _) (alloc_below _ _)⟩

theorem law_ev_all (p : Option Addr) (n c : Nat) (N : Nat → ByteArray) (A : Nat → Int) (za : Int) (p2a : Option Addr) (m2a c2a : Nat) (D2a : LsL) (p1 : Option Addr) (m1 c1 : Nat) (L1 : Nat → Int) (p2 : Option Addr) (m2 c2 : Nat) (L2 : Nat → Int) (w : World) (h : SrcS w p n N A) (h2a : SrcM w p2a m2a D2a) (h1 : SrcI w p1 m1 L1) (h2 : SrcI w p2 m2 L2) :
    Calls Try.prog 5 #[.agg #[.slice p n c], .agg #[.int .i64 za, .slice p2a m2a c2a], .slice p1 m1 c1, .slice p2 m2 c2] w fun e w' => e = .returned (.bool true) ∧ Below w.heap.size w w' := by
  by_cases hm1 : m1 ≤ 1048576
  · by_cases hm2 : m2 ≤ 1048576
    · exact law_ev p n c N A za p2a m2a c2a D2a p1 m1 c1 L1 p2 m2 c2 L2 w h h2a h1 h2 hm1 hm2
    · exact law_ev_big2 p n c za p2a m2a c2a p1 m1 c1 p2 m2 c2 w hm1 hm2
  · exact law_ev_big1 p n c za p2a m2a c2a p1 m1 c1 p2 m2 c2 w hm1

end Go.Proofs.Ytdcngfdklpdpkaa
