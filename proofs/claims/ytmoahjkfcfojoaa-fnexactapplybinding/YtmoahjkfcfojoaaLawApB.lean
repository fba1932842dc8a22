/- Law FnExactApplyBinding, a part: its walk where a code is told. -/
import Derived.Test.YtmoahjkfcfojoaaApplyI
import Derived.Test.YtmoahjkfcfojoaaBndZ
import Derived.Deep.RegionHeld3
namespace Go.Proofs.Ytmoahjkfcfojoaa
open Go.RowKit

set_option maxRecDepth 20000 in
set_option maxHeartbeats 25600000 in
theorem law_apply_bad (p : Option Addr) (n c : Nat) (N : Nat → ByteArray) (A : Nat → Int) (p1a : Option Addr) (m1a c1a : Nat) (L1a : Nat → Int) (p2a : Option Addr) (m2a c2a : Nat) (D2a : LsL) (p3 : Option Addr) (m3 c3 : Nat) (L3 : Nat → Int) (C : Int) (K : Nat) (U : Nat → Int) (w : World) (h : SrcS w p n N A) (h1a : SrcI w p1a m1a L1a) (h2a : SrcM w p2a m2a D2a) (hx1a : m1a ≤ maxLen) (h3 : SrcI w p3 m3 L3) (hm3 : m3 ≤ 1048576) (hc : C ≠ 0)
    (SP : Hid (∀ b b1 b2 b3 w, Syms w b 0 n N A → Ints w b1 0 m1a L1a → Mats w b2 0 m2a D2a → Ints w b3 0 m3 L3 → Kept n N A → m1a ≤ 1048576 → KeptM m2a D2a → Calls Try.prog 18 #[.agg #[.slice (some ⟨b, 0, none⟩) n n], .agg #[.slice (some ⟨b1, 0, none⟩) m1a m1a, .slice (some ⟨b2, 0, none⟩) m2a m2a], .slice (some ⟨b3, 0, none⟩) m3 m3] w fun e w' => ListAns w C K U e w' ∧ Below w.heap.size w w'))
    (IM : Hid (∀ b b1 b2 b3 w, Syms w b 0 n N A → Ints w b1 0 m1a L1a → Mats w b2 0 m2a D2a → Ints w b3 0 m3 L3 → Kept n N A → m1a ≤ 1048576 → KeptM m2a D2a → Calls Try.prog 20 #[.agg #[.slice (some ⟨b, 0, none⟩) n n], .agg #[.slice (some ⟨b1, 0, none⟩) m1a m1a, .slice (some ⟨b2, 0, none⟩) m2a m2a], .slice (some ⟨b3, 0, none⟩) m3 m3] w fun e w' => ListAns w C K U e w' ∧ Below w.heap.size w w')) :
    Calls Try.prog 4 #[.agg #[.slice p n c], .agg #[.slice p1a m1a c1a, .slice p2a m2a c2a], .slice p3 m3 c3] w fun e w' => e = .returned (.bool true) ∧ Below w.heap.size w w' := by
  have Z := hidden h
  have Z1 := hidden h1a
  have Z2 := hidden h2a
  have Z3 := hidden h3
  have X1a := hidden hx1a
  have HM3 := hidden hm3
  have HC := hidden hc
  clear hc
  have D0 := hidden (One.new w (.slice p n c) 24)
  have B := hidden (alloc_below w (.cells #[.slice p n c] 24))
  have hb := alloc_below (w.alloc (.cells #[.slice p n c] 24)) (.cells #[.slice p1a m1a c1a, .slice p2a m2a c2a] 28)
  replace D0 := hidden (D0.out.keep hb)
  replace B := hidden (keepB B.out hb)
  clear hb
  have Da := hidden (Two.new (w.alloc (.cells #[.slice p n c] 24)) (.slice p1a m1a c1a) (.slice p2a m2a c2a) 28)
  simp only [World.size_alloc] at Da
  have H := hidden (Z.out.keep B.out)
  have H1a := hidden (Z1.out.keep B.out)
  have H2a := hidden (Z2.out.keep B.out)
  have H3 := hidden (Z3.out.keep B.out)
  clear h h1a h2a h3 hx1a
  have d0 := D0.out.c0
  go_enter Try.func4, Try.ntmps4
  go_wp2_with fail
  with_reducible refine (szSignature_src p n c N A 1048576 _ H.out (by omega) (by omega)).mono ?_
  rintro e w1 ⟨⟨r1, rfl, hr⟩, hb⟩
  replace D0 := hidden (D0.out.keep hb)
  replace B := hidden (keepB B.out hb)
  replace Da := hidden (Da.out.keep hb)
  replace H := hidden (H.out.keep hb)
  replace H1a := hidden (H1a.out.keep hb)
  replace H2a := hidden (H2a.out.keep hb)
  replace H3 := hidden (H3.out.keep hb)
  clear d0 hb
  rcases hr with rfl | ⟨q0, q1, q2, q3⟩
  · go_wp2_with fail
    go_ret
    exact ⟨rfl, B.out⟩
  have HK := hidden (Kept.mk q2 q3 H.out.fits)
  clear q2 q3
  have e0 := Da.out.c0
  have e1 := Da.out.c1
  go_wp2_with fail
  with_reducible refine (szBinding_sum p1a m1a c1a p2a m2a c2a D2a _ _ X1a.out H2a.out q0 q1).mono ?_
  rintro e w2 ⟨⟨r2, rfl, hr⟩, hb⟩
  replace D0 := hidden (D0.out.keep hb)
  replace B := hidden (keepB B.out hb)
  replace Da := hidden (Da.out.keep hb)
  replace H := hidden (H.out.keep hb)
  replace H1a := hidden (H1a.out.keep hb)
  replace H2a := hidden (H2a.out.keep hb)
  replace H3 := hidden (H3.out.keep hb)
  clear e0 e1 hb
  rcases hr with rfl | ⟨q2, q3, q4, q5⟩
  · go_wp2_with fail
    go_ret
    exact ⟨rfl, B.out⟩
  have HSUM := hidden (show (m1a : Int) + sumM D2a m2a ≤ 1048576 by omega)
  have M1a := hidden q4
  have M2a := hidden q5
  clear q0 q1 q3 q4 q5
  have CK := hidden (show ∀ w', Below w2.heap.size w2 w' → (w'.cell? ⟨w.heap.size, 0, none⟩ = some (.slice p n c) ∧ w'.cell? ⟨w.heap.size + 1, 0, none⟩ = some (.slice p1a m1a c1a) ∧ w'.cell? ⟨w.heap.size + 1, 1, none⟩ = some (.slice p2a m2a c2a)) from fun w' hb => ⟨(D0.out.keep hb).c0, (Da.out.keep hb).c0, (Da.out.keep hb).c1⟩)
  have S0 := hidden (show ∀ wc, Below w2.heap.size w2 wc → Calls Try.prog 13 #[.agg #[.slice p n c]] wc fun e w' => ∃ g, e = .returned (.agg #[.slice (some ⟨g, 0, none⟩) n n]) ∧ Below w2.heap.size w2 w' ∧ Syms w' g 0 n N A ∧ Below wc.heap.size wc w' from fun wc hc => by
    refine (toSig_new p n c N A wc (H.out.keep hc) HK.out).mono ?_
    rintro e w' ⟨g, rfl, hg, hl, hs, hb⟩
    exact ⟨g, rfl, keepB hc hb, hs, hb⟩)
  have S1 := hidden (show ∀ wc, Below w2.heap.size w2 wc → Calls Try.prog 14 #[.agg #[.slice p1a m1a c1a, .slice p2a m2a c2a]] wc fun e w' => ∃ g1a g2a, e = .returned (.agg #[.slice (some ⟨g1a, 0, none⟩) m1a m1a, .slice (some ⟨g2a, 0, none⟩) m2a m2a]) ∧ Below w2.heap.size w2 w' ∧ Ints w' g1a 0 m1a L1a ∧ Mats w' g2a 0 m2a D2a ∧ Below wc.heap.size wc w' from fun wc hc => by
    refine (toBinding_src p1a m1a c1a L1a p2a m2a c2a D2a wc (H1a.out.keep hc) (H2a.out.keep hc) M1a.out M2a.out).mono ?_
    rintro e w' ⟨g1, g2, rfl, hg, hl, hs1, hs2, hb⟩
    exact ⟨g1, g2, rfl, keepB hc hb, hs1.ints, hs2.mats, hb⟩)
  have S2 := hidden (show ∀ wc, Below w2.heap.size w2 wc → Calls Try.prog 19 #[.slice p3 m3 c3] wc fun e w' => ∃ g3, e = .returned (.slice (some ⟨g3, 0, none⟩) m3 m3) ∧ Below w2.heap.size w2 w' ∧ Ints w' g3 0 m3 L3 ∧ Below wc.heap.size wc w' from fun wc hc => by
    refine (toInts_new p3 m3 c3 L3 wc (H3.out.keep hc) HM3.out).mono ?_
    rintro e w' ⟨g, rfl, hs, hb⟩
    exact ⟨g, rfl, keepB hc hb, hs, hb⟩)
  have SF := hidden (show ∀ wc g g1a g2a g3, Below w2.heap.size w2 wc → Syms wc g 0 n N A → Ints wc g1a 0 m1a L1a → Mats wc g2a 0 m2a D2a → Ints wc g3 0 m3 L3 → Calls Try.prog 18 #[.agg #[.slice (some ⟨g, 0, none⟩) n n], .agg #[.slice (some ⟨g1a, 0, none⟩) m1a m1a, .slice (some ⟨g2a, 0, none⟩) m2a m2a], .slice (some ⟨g3, 0, none⟩) m3 m3] wc fun e w' => e = .returned (.agg #[.int .i64 C, .slice none 0 0]) ∧ Below w2.heap.size w2 w' ∧ Below wc.heap.size wc w' from fun wc g g1a g2a g3 hc zfs zfva zfta zfi3 => by
    refine (SP.out g g1a g2a g3 wc zfs zfva zfta zfi3 HK.out M1a.out M2a.out).mono ?_
    rintro e w' ⟨ha, hb⟩
    rcases ha with ⟨-, rfl⟩ | ⟨ha, -⟩
    rotate_left
    · exact absurd ha HC.out
    exact ⟨rfl, keepB hc hb, hb⟩)
  have d0 := D0.out.c0
  have e0 := Da.out.c0
  have e1 := Da.out.c1
  go_wp2_with fail
  go_cut [8] (fun t wc => ∃ B0, t = .pointer (some ⟨B0, 0, none⟩) ∧ Hid (Two wc B0 (.int .i64 C) (.slice none 0 0)) ∧ Below w2.heap.size w2 wc)
  case first =>
    refine wp_region_held_drew (S := fun wz => wz.cell? ⟨w.heap.size, 0, none⟩ = some (.slice p n c) ∧ wz.cell? ⟨w.heap.size + 1, 0, none⟩ = some (.slice p1a m1a c1a) ∧ wz.cell? ⟨w.heap.size + 1, 1, none⟩ = some (.slice p2a m2a c2a)) (by kernel_rfl) ⟨d0, e0, e1⟩ (fun hHeld => ?_)
    have bb := (Below.refl w2.heap.size w2).drew
    refine wpAnyH_take (i := 0) (oi := { dst := some 30, op := Op.load 24 (Operand.tmp 3), type := 24, pos := "exact.go:4270", after := #[], guard := none }) (v := ?_) rfl (by kernel_rfl) (by kernel_rfl) (by kernel_rfl) (fun _ _ _ h => h) (Or.inl ⟨by rfl, ?_⟩) (by assumption) ?_
    rotate_left
    · (intro wv hSw; (try dsimp only at hSw); go_simp; try with_reducible rfl)
    try simp only [Act.put, List.setIfInBounds_toArray, List.set_cons_zero, List.set_cons_succ]
    refine wpAnyH_take (i := 2) (oi := { dst := some 32, op := Op.load 28 (Operand.tmp 4), type := 28, pos := "exact.go:4270", after := #[], guard := none }) (v := ?_) rfl (by kernel_rfl) (by kernel_rfl) (by kernel_rfl) (fun _ _ _ h => h) (Or.inl ⟨by rfl, ?_⟩) (by assumption) ?_
    rotate_left
    · (intro wv hSw; (try dsimp only at hSw); go_simp; try with_reducible rfl)
    try simp only [Act.put, List.setIfInBounds_toArray, List.set_cons_zero, List.set_cons_succ]
    refine wpAnyH_take (i := 4) (oi := { dst := some 34, op := Op.move (Operand.tmp 2), type := 25, pos := "exact.go:4270", after := #[], guard := none }) (v := ?_) rfl (by kernel_rfl) (by kernel_rfl) (by kernel_rfl) (fun _ _ _ h => h) (Or.inl ⟨by rfl, ?_⟩) (by assumption) ?_
    rotate_left
    · (intro wv hSw; (try dsimp only at hSw); go_simp; try with_reducible rfl)
    try simp only [Act.put, List.setIfInBounds_toArray, List.set_cons_zero, List.set_cons_succ]
    refine wpAnyH_ready (rs := [1, 7]) (by kernel_rfl) (by simp) ?_
    refine AllReadyH.cons (o := { dst := some 31, op := Op.call { callee := Callee.value (Operand.func 13), args := #[Operand.tmp 30], argTypes := #[24] }, type := 34, pos := "exact.go:4270", after := #[{ on := 0, ground := Ground.data }], guard := none }) rfl (fun K hK => ?_) (AllReadyH.cons (o := { dst := some 8, op := Op.alloc 42, type := 0, pos := "exact.go:4270", after := #[], guard := none }) rfl (fun K hK => ?_) AllReadyH.nil)
    · go_simp
      go_at_call 13; with_reducible refine (S0.out _ bb).mono ?_; rintro e v0 ⟨g', rfl, bb', yfs, hb5⟩
      try go_wp2_with fail
      refine hK.out _ _ ?_ (fun hHeld => ?_)
      · exact CK.out _ bb'
      clear hK K
      have fs := yfs
      clear yfs
      clear bb hb5
      have bb := bb'
      clear bb'
      try simp only [Act.put, List.setIfInBounds_toArray, List.set_cons_zero, List.set_cons_succ]
      refine wpAnyH_ready (rs := [3, 7]) (by kernel_rfl) (by simp) ?_
      refine AllReadyH.cons (o := { dst := some 33, op := Op.call { callee := Callee.value (Operand.func 14), args := #[Operand.tmp 32], argTypes := #[28] }, type := 36, pos := "exact.go:4270", after := #[{ on := 2, ground := Ground.data }, { on := 1, ground := Ground.chain }], guard := none }) rfl (fun K hK => ?_) (AllReadyH.cons (o := { dst := some 8, op := Op.alloc 42, type := 0, pos := "exact.go:4270", after := #[], guard := none }) rfl (fun K hK => ?_) AllReadyH.nil)
      · go_simp
        go_at_call 14; with_reducible refine (S1.out _ bb).mono ?_; rintro e v1 ⟨g1a', g2a', rfl, bb', yfva, yfta, hb5⟩
        try go_wp2_with fail
        refine hK.out _ _ ?_ (fun hHeld => ?_)
        · exact CK.out _ bb'
        clear hK K
        replace fs := fs.keep hb5
        have fva := yfva
        clear yfva
        have fta := yfta
        clear yfta
        clear bb hb5
        have bb := bb'
        clear bb'
        try simp only [Act.put, List.setIfInBounds_toArray, List.set_cons_zero, List.set_cons_succ]
        refine wpAnyH_ready (rs := [5, 7]) (by kernel_rfl) (by simp) ?_
        refine AllReadyH.cons (o := { dst := some 35, op := Op.call { callee := Callee.value (Operand.func 19), args := #[Operand.tmp 34], argTypes := #[25] }, type := 25, pos := "exact.go:4270", after := #[{ on := 4, ground := Ground.data }, { on := 3, ground := Ground.chain }], guard := none }) rfl (fun K hK => ?_) (AllReadyH.cons (o := { dst := some 8, op := Op.alloc 42, type := 0, pos := "exact.go:4270", after := #[], guard := none }) rfl (fun K hK => ?_) AllReadyH.nil)
        · go_simp
          go_at_call 19; with_reducible refine (S2.out _ bb).mono ?_; rintro e v2 ⟨g3', rfl, bb', yfi3, hb5⟩
          try go_wp2_with fail
          refine hK.out _ _ ?_ (fun hHeld => ?_)
          · exact CK.out _ bb'
          clear hK K
          replace fs := fs.keep hb5
          replace fva := fva.keep hb5
          replace fta := fta.keep hb5
          have fi3 := yfi3
          clear yfi3
          clear bb hb5
          have bb := bb'
          clear bb'
          try simp only [Act.put, List.setIfInBounds_toArray, List.set_cons_zero, List.set_cons_succ]
          refine wpAnyH_ready (rs := [6, 7]) (by kernel_rfl) (by simp) ?_
          refine AllReadyH.cons (o := { dst := some 36, op := Op.call { callee := Callee.value (Operand.func 18), args := #[Operand.tmp 31, Operand.tmp 33, Operand.tmp 35], argTypes := #[34, 36, 25] }, type := 42, pos := "exact.go:4270", after := #[{ on := 1, ground := Ground.data }, { on := 3, ground := Ground.data }, { on := 5, ground := Ground.data }, { on := 5, ground := Ground.chain }], guard := none }) rfl (fun K hK => ?_) (AllReadyH.cons (o := { dst := some 8, op := Op.alloc 42, type := 0, pos := "exact.go:4270", after := #[], guard := none }) rfl (fun K hK => ?_) AllReadyH.nil)
          · go_simp
            go_at_call 18; with_reducible refine (SF.out _ _ _ _ _ bb fs fva fta fi3).mono ?_; rintro e v3 ⟨rfl, bb', hb5⟩
            try go_wp2_with fail
            refine hK.out _ _ ?_ (fun hHeld => ?_)
            · exact CK.out _ bb'
            clear hK K
            clear bb hb5
            have bb := bb'
            clear bb'
            try simp only [Act.put, List.setIfInBounds_toArray, List.set_cons_zero, List.set_cons_succ]
            have bb0 := bb
            refine wpAnyH_ready (rs := [7]) (by kernel_rfl) (by simp) ?_
            refine AllReadyH.cons (o := { dst := some 8, op := Op.alloc 42, type := 0, pos := "exact.go:4270", after := #[], guard := none }) rfl (fun K hK => ?_) AllReadyH.nil
            go_simp
            have RR := Own2.new v3 (.int .i64 0) (.slice none 0 0) 42
            have hB0 := bb.size
            refine hK.out _ _ ?_ (fun hHeld => ?_)
            · exact CK.out _ (keepB bb (alloc_below _ _))
            clear hK K
            replace bb := keepB bb (alloc_below _ (.cells #[.int .i64 0, .slice none 0 0] 42))
            try simp only [Act.put, List.setIfInBounds_toArray, List.set_cons_zero, List.set_cons_succ]
            refine wpAnyH_ready (rs := [8]) (by kernel_rfl) (by simp) ?_
            refine AllReadyH.cons (o := { dst := none, op := Op.store 42 (Operand.tmp 8) (Operand.tmp 36), type := 0, pos := "exact.go:4270", after := #[{ on := 7, ground := Ground.data }, { on := 6, ground := Ground.data }, { on := 6, ground := Ground.chain }, { on := 0, ground := Ground.phase }, { on := 1, ground := Ground.phase }, { on := 2, ground := Ground.phase }, { on := 3, ground := Ground.phase }, { on := 4, ground := Ground.phase }, { on := 5, ground := Ground.phase }, { on := 6, ground := Ground.phase }, { on := 7, ground := Ground.phase }], guard := none }) rfl (fun K hK => ?_) AllReadyH.nil
            obtain ⟨⟨q8, q0, q1⟩, f0, f1⟩ := id RR
            go_simp
            refine hK.out _ _ ?_ (fun hHeld => ?_)
            · first | exact CK.out _ ((bb.setCell hB0 _).setCell hB0 _) | exact CK.out _ (keepB bb0 (alloc_below _ _))
            clear hK K
            refine wpAnyH_done (by kernel_rfl) ?_ _
            go_wp2_with fail
            go_meet
            first
              | exact ⟨_, rfl, hidden ((RR.set0 _).set1 _).two, (bb.setCell hB0 _).setCell hB0 _⟩
              | exact ⟨_, rfl, hidden (Two.new _ _ _ _), keepB bb0 (alloc_below _ _)⟩
          · go_simp
            have RR := Own2.new v2 (.int .i64 0) (.slice none 0 0) 42
            have hB0 := bb.size
            refine hK.out _ _ ?_ (fun hHeld => ?_)
            · exact CK.out _ (keepB bb (alloc_below _ _))
            clear hK K
            replace bb := keepB bb (alloc_below _ (.cells #[.int .i64 0, .slice none 0 0] 42))
            replace fs := fs.keep (alloc_below _ (.cells #[.int .i64 0, .slice none 0 0] 42))
            replace fva := fva.keep (alloc_below _ (.cells #[.int .i64 0, .slice none 0 0] 42))
            replace fta := fta.keep (alloc_below _ (.cells #[.int .i64 0, .slice none 0 0] 42))
            replace fi3 := fi3.keep (alloc_below _ (.cells #[.int .i64 0, .slice none 0 0] 42))
            try simp only [Act.put, List.setIfInBounds_toArray, List.set_cons_zero, List.set_cons_succ]
            refine wpAnyH_ready (rs := [6]) (by kernel_rfl) (by simp) ?_
            refine AllReadyH.cons (o := { dst := some 36, op := Op.call { callee := Callee.value (Operand.func 18), args := #[Operand.tmp 31, Operand.tmp 33, Operand.tmp 35], argTypes := #[34, 36, 25] }, type := 42, pos := "exact.go:4270", after := #[{ on := 1, ground := Ground.data }, { on := 3, ground := Ground.data }, { on := 5, ground := Ground.data }, { on := 5, ground := Ground.chain }], guard := none }) rfl (fun K hK => ?_) AllReadyH.nil
            go_simp
            go_at_call 18; with_reducible refine (SF.out _ _ _ _ _ bb fs fva fta fi3).mono ?_; rintro e v3 ⟨rfl, bb', hb5⟩
            try go_wp2_with fail
            refine hK.out _ _ ?_ (fun hHeld => ?_)
            · exact CK.out _ bb'
            clear hK K
            replace RR := RR.keep hb5
            clear bb hb5
            have bb := bb'
            clear bb'
            try simp only [Act.put, List.setIfInBounds_toArray, List.set_cons_zero, List.set_cons_succ]
            have bb0 := bb
            refine wpAnyH_ready (rs := [8]) (by kernel_rfl) (by simp) ?_
            refine AllReadyH.cons (o := { dst := none, op := Op.store 42 (Operand.tmp 8) (Operand.tmp 36), type := 0, pos := "exact.go:4270", after := #[{ on := 7, ground := Ground.data }, { on := 6, ground := Ground.data }, { on := 6, ground := Ground.chain }, { on := 0, ground := Ground.phase }, { on := 1, ground := Ground.phase }, { on := 2, ground := Ground.phase }, { on := 3, ground := Ground.phase }, { on := 4, ground := Ground.phase }, { on := 5, ground := Ground.phase }, { on := 6, ground := Ground.phase }, { on := 7, ground := Ground.phase }], guard := none }) rfl (fun K hK => ?_) AllReadyH.nil
            obtain ⟨⟨q8, q0, q1⟩, f0, f1⟩ := id RR
            go_simp
            refine hK.out _ _ ?_ (fun hHeld => ?_)
            · first | exact CK.out _ ((bb.setCell hB0 _).setCell hB0 _) | exact CK.out _ (keepB bb0 (alloc_below _ _))
            clear hK K
            refine wpAnyH_done (by kernel_rfl) ?_ _
            go_wp2_with fail
            go_meet
            first
              | exact ⟨_, rfl, hidden ((RR.set0 _).set1 _).two, (bb.setCell hB0 _).setCell hB0 _⟩
              | exact ⟨_, rfl, hidden (Two.new _ _ _ _), keepB bb0 (alloc_below _ _)⟩
        · go_simp
          have RR := Own2.new v1 (.int .i64 0) (.slice none 0 0) 42
          have hB0 := bb.size
          refine hK.out _ _ ?_ (fun hHeld => ?_)
          · exact CK.out _ (keepB bb (alloc_below _ _))
          clear hK K
          replace bb := keepB bb (alloc_below _ (.cells #[.int .i64 0, .slice none 0 0] 42))
          replace fs := fs.keep (alloc_below _ (.cells #[.int .i64 0, .slice none 0 0] 42))
          replace fva := fva.keep (alloc_below _ (.cells #[.int .i64 0, .slice none 0 0] 42))
          replace fta := fta.keep (alloc_below _ (.cells #[.int .i64 0, .slice none 0 0] 42))
          try simp only [Act.put, List.setIfInBounds_toArray, List.set_cons_zero, List.set_cons_succ]
          refine wpAnyH_ready (rs := [5]) (by kernel_rfl) (by simp) ?_
          refine AllReadyH.cons (o := { dst := some 35, op := Op.call { callee := Callee.value (Operand.func 19), args := #[Operand.tmp 34], argTypes := #[25] }, type := 25, pos := "exact.go:4270", after := #[{ on := 4, ground := Ground.data }, { on := 3, ground := Ground.chain }], guard := none }) rfl (fun K hK => ?_) AllReadyH.nil
          go_simp
          go_at_call 19; with_reducible refine (S2.out _ bb).mono ?_; rintro e v2 ⟨g3', rfl, bb', yfi3, hb5⟩
          try go_wp2_with fail
          refine hK.out _ _ ?_ (fun hHeld => ?_)
          · exact CK.out _ bb'
          clear hK K
          replace RR := RR.keep hb5
          replace fs := fs.keep hb5
          replace fva := fva.keep hb5
          replace fta := fta.keep hb5
          have fi3 := yfi3
          clear yfi3
          clear bb hb5
          have bb := bb'
          clear bb'
          try simp only [Act.put, List.setIfInBounds_toArray, List.set_cons_zero, List.set_cons_succ]
          refine wpAnyH_ready (rs := [6]) (by kernel_rfl) (by simp) ?_
          refine AllReadyH.cons (o := { dst := some 36, op := Op.call { callee := Callee.value (Operand.func 18), args := #[Operand.tmp 31, Operand.tmp 33, Operand.tmp 35], argTypes := #[34, 36, 25] }, type := 42, pos := "exact.go:4270", after := #[{ on := 1, ground := Ground.data }, { on := 3, ground := Ground.data }, { on := 5, ground := Ground.data }, { on := 5, ground := Ground.chain }], guard := none }) rfl (fun K hK => ?_) AllReadyH.nil
          go_simp
          go_at_call 18; with_reducible refine (SF.out _ _ _ _ _ bb fs fva fta fi3).mono ?_; rintro e v3 ⟨rfl, bb', hb5⟩
          try go_wp2_with fail
          refine hK.out _ _ ?_ (fun hHeld => ?_)
          · exact CK.out _ bb'
          clear hK K
          replace RR := RR.keep hb5
          clear bb hb5
          have bb := bb'
          clear bb'
          try simp only [Act.put, List.setIfInBounds_toArray, List.set_cons_zero, List.set_cons_succ]
          have bb0 := bb
          refine wpAnyH_ready (rs := [8]) (by kernel_rfl) (by simp) ?_
          refine AllReadyH.cons (o := { dst := none, op := Op.store 42 (Operand.tmp 8) (Operand.tmp 36), type := 0, pos := "exact.go:4270", after := #[{ on := 7, ground := Ground.data }, { on := 6, ground := Ground.data }, { on := 6, ground := Ground.chain }, { on := 0, ground := Ground.phase }, { on := 1, ground := Ground.phase }, { on := 2, ground := Ground.phase }, { on := 3, ground := Ground.phase }, { on := 4, ground := Ground.phase }, { on := 5, ground := Ground.phase }, { on := 6, ground := Ground.phase }, { on := 7, ground := Ground.phase }], guard := none }) rfl (fun K hK => ?_) AllReadyH.nil
          obtain ⟨⟨q8, q0, q1⟩, f0, f1⟩ := id RR
          go_simp
          refine hK.out _ _ ?_ (fun hHeld => ?_)
          · first | exact CK.out _ ((bb.setCell hB0 _).setCell hB0 _) | exact CK.out _ (keepB bb0 (alloc_below _ _))
          clear hK K
          refine wpAnyH_done (by kernel_rfl) ?_ _
          go_wp2_with fail
          go_meet
          first
            | exact ⟨_, rfl, hidden ((RR.set0 _).set1 _).two, (bb.setCell hB0 _).setCell hB0 _⟩
            | exact ⟨_, rfl, hidden (Two.new _ _ _ _), keepB bb0 (alloc_below _ _)⟩
      · go_simp
        have RR := Own2.new v0 (.int .i64 0) (.slice none 0 0) 42
        have hB0 := bb.size
        refine hK.out _ _ ?_ (fun hHeld => ?_)
        · exact CK.out _ (keepB bb (alloc_below _ _))
        clear hK K
        replace bb := keepB bb (alloc_below _ (.cells #[.int .i64 0, .slice none 0 0] 42))
        replace fs := fs.keep (alloc_below _ (.cells #[.int .i64 0, .slice none 0 0] 42))
        try simp only [Act.put, List.setIfInBounds_toArray, List.set_cons_zero, List.set_cons_succ]
        refine wpAnyH_ready (rs := [3]) (by kernel_rfl) (by simp) ?_
        refine AllReadyH.cons (o := { dst := some 33, op := Op.call { callee := Callee.value (Operand.func 14), args := #[Operand.tmp 32], argTypes := #[28] }, type := 36, pos := "exact.go:4270", after := #[{ on := 2, ground := Ground.data }, { on := 1, ground := Ground.chain }], guard := none }) rfl (fun K hK => ?_) AllReadyH.nil
        go_simp
        go_at_call 14; with_reducible refine (S1.out _ bb).mono ?_; rintro e v1 ⟨g1a', g2a', rfl, bb', yfva, yfta, hb5⟩
        try go_wp2_with fail
        refine hK.out _ _ ?_ (fun hHeld => ?_)
        · exact CK.out _ bb'
        clear hK K
        replace RR := RR.keep hb5
        replace fs := fs.keep hb5
        have fva := yfva
        clear yfva
        have fta := yfta
        clear yfta
        clear bb hb5
        have bb := bb'
        clear bb'
        try simp only [Act.put, List.setIfInBounds_toArray, List.set_cons_zero, List.set_cons_succ]
        refine wpAnyH_ready (rs := [5]) (by kernel_rfl) (by simp) ?_
        refine AllReadyH.cons (o := { dst := some 35, op := Op.call { callee := Callee.value (Operand.func 19), args := #[Operand.tmp 34], argTypes := #[25] }, type := 25, pos := "exact.go:4270", after := #[{ on := 4, ground := Ground.data }, { on := 3, ground := Ground.chain }], guard := none }) rfl (fun K hK => ?_) AllReadyH.nil
        go_simp
        go_at_call 19; with_reducible refine (S2.out _ bb).mono ?_; rintro e v2 ⟨g3', rfl, bb', yfi3, hb5⟩
        try go_wp2_with fail
        refine hK.out _ _ ?_ (fun hHeld => ?_)
        · exact CK.out _ bb'
        clear hK K
        replace RR := RR.keep hb5
        replace fs := fs.keep hb5
        replace fva := fva.keep hb5
        replace fta := fta.keep hb5
        have fi3 := yfi3
        clear yfi3
        clear bb hb5
        have bb := bb'
        clear bb'
        try simp only [Act.put, List.setIfInBounds_toArray, List.set_cons_zero, List.set_cons_succ]
        refine wpAnyH_ready (rs := [6]) (by kernel_rfl) (by simp) ?_
        refine AllReadyH.cons (o := { dst := some 36, op := Op.call { callee := Callee.value (Operand.func 18), args := #[Operand.tmp 31, Operand.tmp 33, Operand.tmp 35], argTypes := #[34, 36, 25] }, type := 42, pos := "exact.go:4270", after := #[{ on := 1, ground := Ground.data }, { on := 3, ground := Ground.data }, { on := 5, ground := Ground.data }, { on := 5, ground := Ground.chain }], guard := none }) rfl (fun K hK => ?_) AllReadyH.nil
        go_simp
        go_at_call 18; with_reducible refine (SF.out _ _ _ _ _ bb fs fva fta fi3).mono ?_; rintro e v3 ⟨rfl, bb', hb5⟩
        try go_wp2_with fail
        refine hK.out _ _ ?_ (fun hHeld => ?_)
        · exact CK.out _ bb'
        clear hK K
        replace RR := RR.keep hb5
        clear bb hb5
        have bb := bb'
        clear bb'
        try simp only [Act.put, List.setIfInBounds_toArray, List.set_cons_zero, List.set_cons_succ]
        have bb0 := bb
        refine wpAnyH_ready (rs := [8]) (by kernel_rfl) (by simp) ?_
        refine AllReadyH.cons (o := { dst := none, op := Op.store 42 (Operand.tmp 8) (Operand.tmp 36), type := 0, pos := "exact.go:4270", after := #[{ on := 7, ground := Ground.data }, { on := 6, ground := Ground.data }, { on := 6, ground := Ground.chain }, { on := 0, ground := Ground.phase }, { on := 1, ground := Ground.phase }, { on := 2, ground := Ground.phase }, { on := 3, ground := Ground.phase }, { on := 4, ground := Ground.phase }, { on := 5, ground := Ground.phase }, { on := 6, ground := Ground.phase }, { on := 7, ground := Ground.phase }], guard := none }) rfl (fun K hK => ?_) AllReadyH.nil
        obtain ⟨⟨q8, q0, q1⟩, f0, f1⟩ := id RR
        go_simp
        refine hK.out _ _ ?_ (fun hHeld => ?_)
        · first | exact CK.out _ ((bb.setCell hB0 _).setCell hB0 _) | exact CK.out _ (keepB bb0 (alloc_below _ _))
        clear hK K
        refine wpAnyH_done (by kernel_rfl) ?_ _
        go_wp2_with fail
        go_meet
        first
          | exact ⟨_, rfl, hidden ((RR.set0 _).set1 _).two, (bb.setCell hB0 _).setCell hB0 _⟩
          | exact ⟨_, rfl, hidden (Two.new _ _ _ _), keepB bb0 (alloc_below _ _)⟩
    · go_simp
      have RR := (Own2.new w2 (.int .i64 0) (.slice none 0 0) 42).keep (Below.refl _ _).drew
      have hB0 := bb.size
      refine hK.out _ _ ?_ (fun hHeld => ?_)
      · exact CK.out _ (alloc_below _ _).drew
      clear hK K
      replace bb := (alloc_below w2 (.cells #[.int .i64 0, .slice none 0 0] 42)).drew
      try simp only [Act.put, List.setIfInBounds_toArray, List.set_cons_zero, List.set_cons_succ]
      refine wpAnyH_ready (rs := [1]) (by kernel_rfl) (by simp) ?_
      refine AllReadyH.cons (o := { dst := some 31, op := Op.call { callee := Callee.value (Operand.func 13), args := #[Operand.tmp 30], argTypes := #[24] }, type := 34, pos := "exact.go:4270", after := #[{ on := 0, ground := Ground.data }], guard := none }) rfl (fun K hK => ?_) AllReadyH.nil
      go_simp
      go_at_call 13; with_reducible refine (S0.out _ bb).mono ?_; rintro e v0 ⟨g', rfl, bb', yfs, hb5⟩
      try go_wp2_with fail
      refine hK.out _ _ ?_ (fun hHeld => ?_)
      · exact CK.out _ bb'
      clear hK K
      replace RR := RR.keep hb5
      have fs := yfs
      clear yfs
      clear bb hb5
      have bb := bb'
      clear bb'
      try simp only [Act.put, List.setIfInBounds_toArray, List.set_cons_zero, List.set_cons_succ]
      refine wpAnyH_ready (rs := [3]) (by kernel_rfl) (by simp) ?_
      refine AllReadyH.cons (o := { dst := some 33, op := Op.call { callee := Callee.value (Operand.func 14), args := #[Operand.tmp 32], argTypes := #[28] }, type := 36, pos := "exact.go:4270", after := #[{ on := 2, ground := Ground.data }, { on := 1, ground := Ground.chain }], guard := none }) rfl (fun K hK => ?_) AllReadyH.nil
      go_simp
      go_at_call 14; with_reducible refine (S1.out _ bb).mono ?_; rintro e v1 ⟨g1a', g2a', rfl, bb', yfva, yfta, hb5⟩
      try go_wp2_with fail
      refine hK.out _ _ ?_ (fun hHeld => ?_)
      · exact CK.out _ bb'
      clear hK K
      replace RR := RR.keep hb5
      replace fs := fs.keep hb5
      have fva := yfva
      clear yfva
      have fta := yfta
      clear yfta
      clear bb hb5
      have bb := bb'
      clear bb'
      try simp only [Act.put, List.setIfInBounds_toArray, List.set_cons_zero, List.set_cons_succ]
      refine wpAnyH_ready (rs := [5]) (by kernel_rfl) (by simp) ?_
      refine AllReadyH.cons (o := { dst := some 35, op := Op.call { callee := Callee.value (Operand.func 19), args := #[Operand.tmp 34], argTypes := #[25] }, type := 25, pos := "exact.go:4270", after := #[{ on := 4, ground := Ground.data }, { on := 3, ground := Ground.chain }], guard := none }) rfl (fun K hK => ?_) AllReadyH.nil
      go_simp
      go_at_call 19; with_reducible refine (S2.out _ bb).mono ?_; rintro e v2 ⟨g3', rfl, bb', yfi3, hb5⟩
      try go_wp2_with fail
      refine hK.out _ _ ?_ (fun hHeld => ?_)
      · exact CK.out _ bb'
      clear hK K
      replace RR := RR.keep hb5
      replace fs := fs.keep hb5
      replace fva := fva.keep hb5
      replace fta := fta.keep hb5
      have fi3 := yfi3
      clear yfi3
      clear bb hb5
      have bb := bb'
      clear bb'
      try simp only [Act.put, List.setIfInBounds_toArray, List.set_cons_zero, List.set_cons_succ]
      refine wpAnyH_ready (rs := [6]) (by kernel_rfl) (by simp) ?_
      refine AllReadyH.cons (o := { dst := some 36, op := Op.call { callee := Callee.value (Operand.func 18), args := #[Operand.tmp 31, Operand.tmp 33, Operand.tmp 35], argTypes := #[34, 36, 25] }, type := 42, pos := "exact.go:4270", after := #[{ on := 1, ground := Ground.data }, { on := 3, ground := Ground.data }, { on := 5, ground := Ground.data }, { on := 5, ground := Ground.chain }], guard := none }) rfl (fun K hK => ?_) AllReadyH.nil
      go_simp
      go_at_call 18; with_reducible refine (SF.out _ _ _ _ _ bb fs fva fta fi3).mono ?_; rintro e v3 ⟨rfl, bb', hb5⟩
      try go_wp2_with fail
      refine hK.out _ _ ?_ (fun hHeld => ?_)
      · exact CK.out _ bb'
      clear hK K
      replace RR := RR.keep hb5
      clear bb hb5
      have bb := bb'
      clear bb'
      try simp only [Act.put, List.setIfInBounds_toArray, List.set_cons_zero, List.set_cons_succ]
      have bb0 := bb
      refine wpAnyH_ready (rs := [8]) (by kernel_rfl) (by simp) ?_
      refine AllReadyH.cons (o := { dst := none, op := Op.store 42 (Operand.tmp 8) (Operand.tmp 36), type := 0, pos := "exact.go:4270", after := #[{ on := 7, ground := Ground.data }, { on := 6, ground := Ground.data }, { on := 6, ground := Ground.chain }, { on := 0, ground := Ground.phase }, { on := 1, ground := Ground.phase }, { on := 2, ground := Ground.phase }, { on := 3, ground := Ground.phase }, { on := 4, ground := Ground.phase }, { on := 5, ground := Ground.phase }, { on := 6, ground := Ground.phase }, { on := 7, ground := Ground.phase }], guard := none }) rfl (fun K hK => ?_) AllReadyH.nil
      obtain ⟨⟨q8, q0, q1⟩, f0, f1⟩ := id RR
      go_simp
      refine hK.out _ _ ?_ (fun hHeld => ?_)
      · first | exact CK.out _ ((bb.setCell hB0 _).setCell hB0 _) | exact CK.out _ (keepB bb0 (alloc_below _ _))
      clear hK K
      refine wpAnyH_done (by kernel_rfl) ?_ _
      go_wp2_with fail
      go_meet
      first
        | exact ⟨_, rfl, hidden ((RR.set0 _).set1 _).two, (bb.setCell hB0 _).setCell hB0 _⟩
        | exact ⟨_, rfl, hidden (Two.new _ _ _ _), keepB bb0 (alloc_below _ _)⟩
  case rest =>
    rename World => w3
    obtain ⟨R0b, rfl, R0, hb⟩ := hcut
    replace D0 := hidden (D0.out.keep hb)
    replace B := hidden (keepB B.out hb)
    replace Da := hidden (Da.out.keep hb)
    replace H := hidden (H.out.keep hb)
    replace H1a := hidden (H1a.out.keep hb)
    replace H2a := hidden (H2a.out.keep hb)
    replace H3 := hidden (H3.out.keep hb)
    clear d0 e0 e1 hb CK SF S0 S1 S2
    have d0 := D0.out.c0
    go_wp2_with fail
    have BSx := hidden B.out.size
    with_reducible refine (toSignature_src p n c N A _ H.out HK.out).mono ?_
    rintro e w4 ⟨gx, rfl, hgx, hs, hb⟩
    have L_D0_Q := hidden (Nat.lt_of_lt_of_le D0.out.blk hgx)
    have L_Da_Q := hidden (Nat.lt_of_lt_of_le Da.out.blk hgx)
    have L_R0_Q := hidden (Nat.lt_of_lt_of_le R0.out.blk hgx)
    replace D0 := hidden (D0.out.keep hb)
    replace B := hidden (keepB B.out hb)
    replace Da := hidden (Da.out.keep hb)
    replace H := hidden (H.out.keep hb)
    replace H1a := hidden (H1a.out.keep hb)
    replace H2a := hidden (H2a.out.keep hb)
    replace H3 := hidden (H3.out.keep hb)
    replace R0 := hidden (R0.out.keep hb)
    have Q := hidden (hs)
    clear d0 hb
    have GX := hidden (Nat.le_trans BSx.out hgx)
    clear hs hgx BSx
    have L_Q_X := hidden (Nat.lt_of_lt_of_le Q.out.lt (Nat.le_refl _))
    have hb := alloc_below w4 (.cells #[.slice (some ⟨gx, 0, none⟩) n n] 34)
    replace D0 := hidden (D0.out.keep hb)
    replace B := hidden (keepB B.out hb)
    replace Da := hidden (Da.out.keep hb)
    replace H := hidden (H.out.keep hb)
    replace H1a := hidden (H1a.out.keep hb)
    replace H2a := hidden (H2a.out.keep hb)
    replace H3 := hidden (H3.out.keep hb)
    replace R0 := hidden (R0.out.keep hb)
    replace Q := hidden (Q.out.keep hb)
    clear hb
    have X := hidden (One.new w4 (.slice (some ⟨gx, 0, none⟩) n n) 34)
    have BSx := hidden B.out.size
    have e0 := Da.out.c0
    have e1 := Da.out.c1
    go_wp2_with fail
    with_reducible refine (toBinding_own p1a m1a c1a L1a p2a m2a c2a D2a _ H1a.out H2a.out M1a.out M2a.out).mono ?_
    rintro e w5 ⟨gy, gz, rfl, hs, hb⟩
    have L_D0_BB := hidden (Nat.lt_of_lt_of_le D0.out.blk (Nat.le_refl _))
    have L_Da_BB := hidden (Nat.lt_of_lt_of_le Da.out.blk (Nat.le_refl _))
    have L_R0_BB := hidden (Nat.lt_of_lt_of_le R0.out.blk (Nat.le_refl _))
    have L_Q_BB := hidden (Nat.lt_of_lt_of_le Q.out.lt (Nat.le_refl _))
    have L_X_BB := hidden (Nat.lt_of_lt_of_le X.out.blk (Nat.le_refl _))
    replace D0 := hidden (D0.out.keep hb)
    replace B := hidden (keepB B.out hb)
    replace Da := hidden (Da.out.keep hb)
    replace H := hidden (H.out.keep hb)
    replace H1a := hidden (H1a.out.keep hb)
    replace H2a := hidden (H2a.out.keep hb)
    replace H3 := hidden (H3.out.keep hb)
    replace R0 := hidden (R0.out.keep hb)
    replace Q := hidden (Q.out.keep hb)
    replace X := hidden (X.out.keep hb)
    have BB := hidden (hs)
    clear e0 e1 hb
    have GBB := BSx
    clear hs BSx
    have L_Q_Y := hidden (Nat.lt_of_lt_of_le Q.out.lt (Nat.le_refl _))
    have L_BB_Y := hidden (Nat.le_trans BB.out.top (Nat.le_refl _))
    have hb := alloc_below w5 (.cells #[.slice (some ⟨gy, 0, none⟩) m1a m1a, .slice (some ⟨gz, 0, none⟩) m2a m2a] 36)
    replace D0 := hidden (D0.out.keep hb)
    replace B := hidden (keepB B.out hb)
    replace Da := hidden (Da.out.keep hb)
    replace H := hidden (H.out.keep hb)
    replace H1a := hidden (H1a.out.keep hb)
    replace H2a := hidden (H2a.out.keep hb)
    replace H3 := hidden (H3.out.keep hb)
    replace R0 := hidden (R0.out.keep hb)
    replace Q := hidden (Q.out.keep hb)
    replace X := hidden (X.out.keep hb)
    replace BB := hidden (BB.out.keep hb)
    clear hb
    have Y := hidden (Two.new w5 (.slice (some ⟨gy, 0, none⟩) m1a m1a) (.slice (some ⟨gz, 0, none⟩) m2a m2a) 36)
    have BSx := hidden B.out.size
    go_wp2_with fail
    with_reducible refine (toInts_src p3 m3 c3 L3 _ H3.out HM3.out).mono ?_
    rintro e w6 ⟨g3, rfl, hgy, hs, hb⟩
    have L_D0_Q3 := hidden (Nat.lt_of_lt_of_le D0.out.blk hgy)
    have L_Da_Q3 := hidden (Nat.lt_of_lt_of_le Da.out.blk hgy)
    have L_R0_Q3 := hidden (Nat.lt_of_lt_of_le R0.out.blk hgy)
    have L_Q_Q3 := hidden (Nat.lt_of_lt_of_le Q.out.lt hgy)
    have L_X_Q3 := hidden (Nat.lt_of_lt_of_le X.out.blk hgy)
    have L_BB_Q3 := hidden (Nat.le_trans BB.out.top hgy)
    have L_Y_Q3 := hidden (Nat.lt_of_lt_of_le Y.out.blk hgy)
    replace D0 := hidden (D0.out.keep hb)
    replace B := hidden (keepB B.out hb)
    replace Da := hidden (Da.out.keep hb)
    replace H := hidden (H.out.keep hb)
    replace H1a := hidden (H1a.out.keep hb)
    replace H2a := hidden (H2a.out.keep hb)
    replace H3 := hidden (H3.out.keep hb)
    replace R0 := hidden (R0.out.keep hb)
    replace Q := hidden (Q.out.keep hb)
    replace X := hidden (X.out.keep hb)
    replace BB := hidden (BB.out.keep hb)
    replace Y := hidden (Y.out.keep hb)
    have Q3 := hidden (hs)
    clear hb
    have G3 := hidden (Nat.le_trans BSx.out hgy)
    clear hs hgy BSx
    have x0 := X.out.c0
    have y0 := Y.out.c0
    have y1 := Y.out.c1
    go_wp2_with fail
    have BSx := hidden B.out.size
    with_reducible refine (IM.out _ _ _ _ _ (Q.out.syms HK.out.big HK.out.fits) BB.out.vars.ints BB.out.terms.mats Q3.out.ints HK.out M1a.out M2a.out).mono ?_
    rintro e w7 ⟨ha, hb⟩
    rcases ha with ⟨-, rfl⟩ | ⟨ha, -⟩
    rotate_left
    · exact absurd ha HC.out
    replace D0 := hidden (D0.out.keep hb)
    replace B := hidden (keepB B.out hb)
    replace Da := hidden (Da.out.keep hb)
    replace H := hidden (H.out.keep hb)
    replace H1a := hidden (H1a.out.keep hb)
    replace H2a := hidden (H2a.out.keep hb)
    replace H3 := hidden (H3.out.keep hb)
    replace R0 := hidden (R0.out.keep hb)
    replace Q := hidden (Q.out.keep hb)
    replace X := hidden (X.out.keep hb)
    replace BB := hidden (BB.out.keep hb)
    replace Y := hidden (Y.out.keep hb)
    replace Q3 := hidden (Q3.out.keep hb)
    clear x0 y0 y1 hb BSx
    have L_Q_R1 := hidden (Nat.lt_of_lt_of_le Q.out.lt (Nat.le_refl _))
    have L_BB_R1 := hidden (Nat.le_trans BB.out.top (Nat.le_refl _))
    have L_Q3_R1 := hidden (Nat.lt_of_lt_of_le Q3.out.lt (Nat.le_refl _))
    have hb := alloc_below w7 (.cells #[.int .i64 C, .slice none 0 0] 42)
    replace D0 := hidden (D0.out.keep hb)
    replace B := hidden (keepB B.out hb)
    replace Da := hidden (Da.out.keep hb)
    replace H := hidden (H.out.keep hb)
    replace H1a := hidden (H1a.out.keep hb)
    replace H2a := hidden (H2a.out.keep hb)
    replace H3 := hidden (H3.out.keep hb)
    replace R0 := hidden (R0.out.keep hb)
    replace Q := hidden (Q.out.keep hb)
    replace X := hidden (X.out.keep hb)
    replace BB := hidden (BB.out.keep hb)
    replace Y := hidden (Y.out.keep hb)
    replace Q3 := hidden (Q3.out.keep hb)
    clear hb
    have R1 := hidden (Two.new w7 (.int .i64 C) (.slice none 0 0) 42)
    have r00 := R0.out.c0
    have r01 := R0.out.c1
    have r10 := R1.out.c0
    have r11 := R1.out.c1
    go_wp2_with fail
    with_reducible refine (eqTerm_none _ _).mono ?_
    rintro e w8 ⟨rfl, hb⟩
    replace D0 := hidden (D0.out.keep hb)
    replace B := hidden (keepB B.out hb)
    replace Da := hidden (Da.out.keep hb)
    replace H := hidden (H.out.keep hb)
    replace H1a := hidden (H1a.out.keep hb)
    replace H2a := hidden (H2a.out.keep hb)
    replace H3 := hidden (H3.out.keep hb)
    replace R0 := hidden (R0.out.keep hb)
    replace Q := hidden (Q.out.keep hb)
    replace X := hidden (X.out.keep hb)
    replace BB := hidden (BB.out.keep hb)
    replace Y := hidden (Y.out.keep hb)
    replace Q3 := hidden (Q3.out.keep hb)
    replace R1 := hidden (R1.out.keep hb)
    clear r00 r01 r10 r11 hb
    have QS := hidden (Q.out.syms HK.out.big HK.out.fits)
    have S1 := hidden (show ∀ wc, Below w8.heap.size w8 wc → Calls Try.prog 13 #[.agg #[.slice p n c]] wc fun e w' => ∃ g, e = .returned (.agg #[.slice (some ⟨g, 0, none⟩) n n]) ∧ Below w8.heap.size w8 w' ∧ Syms w' g 0 n N A ∧ w'.cell? ⟨w4.heap.size, 0, none⟩ = some (.slice (some ⟨gx, 0, none⟩) n n) from fun wc hc => by
      refine (toSig_new p n c N A wc (H.out.keep hc) HK.out).mono ?_
      rintro e w' ⟨g, rfl, hg, hl, hs, hb⟩
      exact ⟨g, rfl, keepB hc hb, hs, (X.out.keep (keepB hc hb)).c0⟩)
    have S2 := hidden (show ∀ wc g, Below w8.heap.size w8 wc → Syms wc g 0 n N A → Calls Try.prog 16 #[.agg #[.slice (some ⟨gx, 0, none⟩) n n], .agg #[.slice (some ⟨g, 0, none⟩) n n]] wc fun e w' => e = .returned (.bool true) ∧ Below w8.heap.size w8 w' from fun wc g hc hm => by
      refine (eqSignature_eq gx 0 g 0 n n n N A wc (QS.out.keep hc) hm HK.out.most).mono ?_
      rintro e w' ⟨rfl, hb⟩
      exact ⟨rfl, keepB hc hb⟩)
    have x0 := X.out.c0
    have d0 := D0.out.c0
    go_wp2_with fail
    go_cut [55] (fun t wc => t = .bool false ∧ Below w8.heap.size w8 wc)
    case first =>
      go_region_with (first
        | (go_at_call 13; with_reducible refine (S1.out _ ?_).mono ?_; exact (Below.refl _ _).drew; rintro e v5 ⟨g5', rfl, b5', m5', d5'⟩)
        | (go_at_call 16; with_reducible refine (S2.out _ _ b5' m5').mono ?_; rintro e v6 ⟨rfl, b6'⟩))
      all_goals (go_wp2_with fail; go_meet)
      all_goals exact ⟨rfl, b6'⟩
    case rest =>
      rename World => w9
      obtain ⟨rfl, hb⟩ := hcut
      replace D0 := hidden (D0.out.keep hb)
      replace B := hidden (keepB B.out hb)
      replace Da := hidden (Da.out.keep hb)
      replace H := hidden (H.out.keep hb)
      replace H1a := hidden (H1a.out.keep hb)
      replace H2a := hidden (H2a.out.keep hb)
      replace H3 := hidden (H3.out.keep hb)
      replace R0 := hidden (R0.out.keep hb)
      replace Q := hidden (Q.out.keep hb)
      replace X := hidden (X.out.keep hb)
      replace BB := hidden (BB.out.keep hb)
      replace Y := hidden (Y.out.keep hb)
      replace Q3 := hidden (Q3.out.keep hb)
      replace R1 := hidden (R1.out.keep hb)
      replace QS := hidden (QS.out.keep hb)
      clear x0 d0 hb S1 S2
      clear QS
      have QA := hidden BB.out.vars.ints
      have QB := hidden BB.out.terms.mats
      have S1 := hidden (show ∀ wc, Below w9.heap.size w9 wc → Calls Try.prog 14 #[.agg #[.slice p1a m1a c1a, .slice p2a m2a c2a]] wc fun e w' => ∃ h1 h2, e = .returned (.agg #[.slice (some ⟨h1, 0, none⟩) m1a m1a, .slice (some ⟨h2, 0, none⟩) m2a m2a]) ∧ Below w9.heap.size w9 w' ∧ Ints w' h1 0 m1a L1a ∧ Mats w' h2 0 m2a D2a ∧ w'.cell? ⟨w5.heap.size, 0, none⟩ = some (.slice (some ⟨gy, 0, none⟩) m1a m1a) ∧ w'.cell? ⟨w5.heap.size, 1, none⟩ = some (.slice (some ⟨gz, 0, none⟩) m2a m2a) from fun wc hc => by
        refine (toBinding_src p1a m1a c1a L1a p2a m2a c2a D2a wc (H1a.out.keep hc) (H2a.out.keep hc) M1a.out M2a.out).mono ?_
        rintro e w' ⟨h1, h2, rfl, hg, hl, hs1, hs2, hb⟩
        exact ⟨h1, h2, rfl, keepB hc hb, hs1.ints, hs2.mats, (Y.out.keep (keepB hc hb)).c0, (Y.out.keep (keepB hc hb)).c1⟩)
      have S2 := hidden (show ∀ wc h1 h2, Below w9.heap.size w9 wc → Ints wc h1 0 m1a L1a → Mats wc h2 0 m2a D2a → Calls Try.prog 17 #[.agg #[.slice (some ⟨gy, 0, none⟩) m1a m1a, .slice (some ⟨gz, 0, none⟩) m2a m2a], .agg #[.slice (some ⟨h1, 0, none⟩) m1a m1a, .slice (some ⟨h2, 0, none⟩) m2a m2a]] wc fun e w' => e = .returned (.bool true) ∧ Below w9.heap.size w9 w' from fun wc h1 h2 hc hm1 hm2 => by
        refine (eqBinding_eq _ _ _ _ _ _ _ _ _ _ _ _ _ _ L1a D2a wc (QA.out.keep hc) (QB.out.keep hc) hm1 hm2 M1a.out M2a.out).mono ?_
        rintro e w' ⟨rfl, hb⟩
        exact ⟨rfl, keepB hc hb⟩)
      have x0 := Y.out.c0
      have x1 := Y.out.c1
      have e0 := Da.out.c0
      have e1 := Da.out.c1
      go_wp2_with fail
      go_cut [60] (fun t wc => t = .bool false ∧ Below w9.heap.size w9 wc)
      case first =>
        go_region_with (first
          | (go_at_call 14; with_reducible refine (S1.out _ ?_).mono ?_; exact (Below.refl _ _).drew; rintro e v5 ⟨g5', g6', rfl, b5', m5', m6', d5', d6'⟩)
          | (go_at_call 17; with_reducible refine (S2.out _ _ _ b5' m5' m6').mono ?_; rintro e v6 ⟨rfl, b6'⟩))
        all_goals (go_wp2_with fail; go_meet)
        all_goals exact ⟨rfl, b6'⟩
      case rest =>
        rename World => w10
        obtain ⟨rfl, hb⟩ := hcut
        replace D0 := hidden (D0.out.keep hb)
        replace B := hidden (keepB B.out hb)
        replace Da := hidden (Da.out.keep hb)
        replace H := hidden (H.out.keep hb)
        replace H1a := hidden (H1a.out.keep hb)
        replace H2a := hidden (H2a.out.keep hb)
        replace H3 := hidden (H3.out.keep hb)
        replace R0 := hidden (R0.out.keep hb)
        replace Q := hidden (Q.out.keep hb)
        replace X := hidden (X.out.keep hb)
        replace BB := hidden (BB.out.keep hb)
        replace Y := hidden (Y.out.keep hb)
        replace Q3 := hidden (Q3.out.keep hb)
        replace R1 := hidden (R1.out.keep hb)
        replace QA := hidden (QA.out.keep hb)
        replace QB := hidden (QB.out.keep hb)
        clear x0 x1 e0 e1 hb S1 S2
        clear QA QB
        go_wp2_with fail
        with_reducible refine (toInts_new p3 m3 c3 L3 _ H3.out HM3.out).mono ?_
        rintro e w11 ⟨g11, rfl, hs, hb⟩
        replace D0 := hidden (D0.out.keep hb)
        replace B := hidden (keepB B.out hb)
        replace Da := hidden (Da.out.keep hb)
        replace H := hidden (H.out.keep hb)
        replace H1a := hidden (H1a.out.keep hb)
        replace H2a := hidden (H2a.out.keep hb)
        replace H3 := hidden (H3.out.keep hb)
        replace R0 := hidden (R0.out.keep hb)
        replace Q := hidden (Q.out.keep hb)
        replace X := hidden (X.out.keep hb)
        replace BB := hidden (BB.out.keep hb)
        replace Y := hidden (Y.out.keep hb)
        replace Q3 := hidden (Q3.out.keep hb)
        replace R1 := hidden (R1.out.keep hb)
        clear hb
        have Q9 := hidden (hs)
        clear hs
        go_wp2_with fail
        with_reducible refine (eqInt64S_eq _ _ _ _ _ _ _ L3 _ Q3.out.ints Q9.out HM3.out).mono ?_
        rintro e w12 ⟨rfl, hb⟩
        replace D0 := hidden (D0.out.keep hb)
        replace B := hidden (keepB B.out hb)
        replace Da := hidden (Da.out.keep hb)
        replace H := hidden (H.out.keep hb)
        replace H1a := hidden (H1a.out.keep hb)
        replace H2a := hidden (H2a.out.keep hb)
        replace H3 := hidden (H3.out.keep hb)
        replace R0 := hidden (R0.out.keep hb)
        replace Q := hidden (Q.out.keep hb)
        replace X := hidden (X.out.keep hb)
        replace BB := hidden (BB.out.keep hb)
        replace Y := hidden (Y.out.keep hb)
        replace Q3 := hidden (Q3.out.keep hb)
        replace R1 := hidden (R1.out.keep hb)
        replace Q9 := hidden (Q9.out.keep hb)
        clear hb
        clear Q9
        have x0 := X.out.c0
        go_wp2_with fail
        with_reducible refine (markSignature_z _ gx n n 1 N A _ Q.out HK.out.most (by omega) (by omega)).mono ?_
        rintro e w13 ⟨rfl, -, hg⟩
        replace B := hidden (grownB B.out hg GX.out)
        replace D0 := hidden (D0.out.grown hg (Nat.ne_of_lt L_D0_Q.out))
        replace Da := hidden (Da.out.grown hg (Nat.ne_of_lt L_Da_Q.out))
        replace H := hidden (Z.out.keep B.out)
        replace H1a := hidden (Z1.out.keep B.out)
        replace H2a := hidden (Z2.out.keep B.out)
        replace H3 := hidden (Z3.out.keep B.out)
        replace R0 := hidden (R0.out.grown hg (Nat.ne_of_lt L_R0_Q.out))
        replace X := hidden (X.out.grown hg (Nat.ne_of_gt L_Q_X.out))
        replace BB := hidden (BB.out.grown hg (Or.inl L_Q_BB.out))
        replace Y := hidden (Y.out.grown hg (Nat.ne_of_gt L_Q_Y.out))
        replace Q3 := hidden (Q3.out.grown hg (Nat.ne_of_gt L_Q_Q3.out))
        replace R1 := hidden (R1.out.grown hg (Nat.ne_of_gt L_Q_R1.out))
        clear Q
        clear x0 hg
        have HN1 := HK.out.most
        have HS1 := HSUM.out
        have HM1 := M1a.out
        have y0 := Y.out.c0
        have y1 := Y.out.c1
        go_wp2_with fail
        with_reducible refine (markBinding_any _ _ gy m1a gz m2a (1 + 2 * n) L1a D2a _ BB.out M1a.out M2a.out (by omega) (by omega)).mono ?_
        rintro e w14 ⟨rfl, -, hr⟩
        replace B := hidden (Rng.below B.out hr GBB.out)
        replace D0 := hidden (D0.out.rng hr (Or.inl L_D0_BB.out))
        replace Da := hidden (Da.out.rng hr (Or.inl L_Da_BB.out))
        replace H := hidden (Z.out.keep B.out)
        replace H1a := hidden (Z1.out.keep B.out)
        replace H2a := hidden (Z2.out.keep B.out)
        replace H3 := hidden (Z3.out.keep B.out)
        replace R0 := hidden (R0.out.rng hr (Or.inl L_R0_BB.out))
        replace X := hidden (X.out.rng hr (Or.inl L_X_BB.out))
        replace Y := hidden (Y.out.rng hr (Or.inr L_BB_Y.out))
        replace Q3 := hidden (Q3.out.rng hr (Or.inr L_BB_Q3.out))
        replace R1 := hidden (R1.out.rng hr (Or.inr L_BB_R1.out))
        clear BB
        clear y0 y1 hr
        go_wp2_with fail
        with_reducible refine (markInt64S_z _ g3 m3 m3 (1 + 2 * n + m1a + sumM D2a m2a) L3 _ Q3.out HM3.out (by omega) (by omega)).mono ?_
        rintro e w15 ⟨rfl, -, hg⟩
        replace B := hidden (grownB B.out hg G3.out)
        replace D0 := hidden (D0.out.grown hg (Nat.ne_of_lt L_D0_Q3.out))
        replace Da := hidden (Da.out.grown hg (Nat.ne_of_lt L_Da_Q3.out))
        replace H := hidden (Z.out.keep B.out)
        replace H1a := hidden (Z1.out.keep B.out)
        replace H2a := hidden (Z2.out.keep B.out)
        replace H3 := hidden (Z3.out.keep B.out)
        replace R0 := hidden (R0.out.grown hg (Nat.ne_of_lt L_R0_Q3.out))
        replace X := hidden (X.out.grown hg (Nat.ne_of_lt L_X_Q3.out))
        replace Y := hidden (Y.out.grown hg (Nat.ne_of_lt L_Y_Q3.out))
        replace R1 := hidden (R1.out.grown hg (Nat.ne_of_gt L_Q3_R1.out))
        clear Q3
        clear hg
        have r00 := R0.out.c0
        have r01 := R0.out.c1
        have r10 := R1.out.c0
        have r11 := R1.out.c1
        have hkk : decide ((1 : Int) + 2 * n + m1a + sumM D2a m2a + m3 < 0) = false := by simp; omega
        go_wp2_with fail
        with_reducible refine (eqTerm_none _ _).mono ?_
        rintro e w16 ⟨rfl, hb⟩
        replace D0 := hidden (D0.out.keep hb)
        replace B := hidden (keepB B.out hb)
        replace Da := hidden (Da.out.keep hb)
        replace H := hidden (H.out.keep hb)
        replace H1a := hidden (H1a.out.keep hb)
        replace H2a := hidden (H2a.out.keep hb)
        replace H3 := hidden (H3.out.keep hb)
        replace R0 := hidden (R0.out.keep hb)
        replace X := hidden (X.out.keep hb)
        replace Y := hidden (Y.out.keep hb)
        replace R1 := hidden (R1.out.keep hb)
        clear r00 r01 r10 r11 hb
        have r00 := R1.out.c0
        have r01 := R1.out.c1
        go_wp2_with fail
        with_reducible refine (markTerm_none1 _ _).mono ?_
        rintro e w17 ⟨rfl, hb⟩
        replace D0 := hidden (D0.out.keep hb)
        replace B := hidden (keepB B.out hb)
        replace Da := hidden (Da.out.keep hb)
        replace H := hidden (H.out.keep hb)
        replace H1a := hidden (H1a.out.keep hb)
        replace H2a := hidden (H2a.out.keep hb)
        replace H3 := hidden (H3.out.keep hb)
        replace R0 := hidden (R0.out.keep hb)
        replace X := hidden (X.out.keep hb)
        replace Y := hidden (Y.out.keep hb)
        replace R1 := hidden (R1.out.keep hb)
        clear r00 r01 hb
        have r00 := R1.out.c0
        have r01 := R1.out.c1
        go_wp2_with fail
        with_reducible refine (heldTerm_none1 _ _).mono ?_
        rintro e w18 ⟨rfl, hb⟩
        replace D0 := hidden (D0.out.keep hb)
        replace B := hidden (keepB B.out hb)
        replace Da := hidden (Da.out.keep hb)
        replace H := hidden (H.out.keep hb)
        replace H1a := hidden (H1a.out.keep hb)
        replace H2a := hidden (H2a.out.keep hb)
        replace H3 := hidden (H3.out.keep hb)
        replace R0 := hidden (R0.out.keep hb)
        replace X := hidden (X.out.keep hb)
        replace Y := hidden (Y.out.keep hb)
        replace R1 := hidden (R1.out.keep hb)
        clear r00 r01 hb
        have CK := hidden (show ∀ w', Below w18.heap.size w18 w' → (w'.cell? ⟨w.heap.size, 0, none⟩ = some (.slice p n c) ∧ w'.cell? ⟨w.heap.size + 1, 0, none⟩ = some (.slice p1a m1a c1a) ∧ w'.cell? ⟨w.heap.size + 1, 1, none⟩ = some (.slice p2a m2a c2a)) from fun w' hb => ⟨(D0.out.keep hb).c0, (Da.out.keep hb).c0, (Da.out.keep hb).c1⟩)
        have S0 := hidden (show ∀ wc, Below w18.heap.size w18 wc → Calls Try.prog 13 #[.agg #[.slice p n c]] wc fun e w' => ∃ g, e = .returned (.agg #[.slice (some ⟨g, 0, none⟩) n n]) ∧ Below w18.heap.size w18 w' ∧ Syms w' g 0 n N A ∧ Below wc.heap.size wc w' from fun wc hc => by
          refine (toSig_new p n c N A wc (H.out.keep hc) HK.out).mono ?_
          rintro e w' ⟨g, rfl, hg, hl, hs, hb⟩
          exact ⟨g, rfl, keepB hc hb, hs, hb⟩)
        have S1 := hidden (show ∀ wc, Below w18.heap.size w18 wc → Calls Try.prog 14 #[.agg #[.slice p1a m1a c1a, .slice p2a m2a c2a]] wc fun e w' => ∃ g1a g2a, e = .returned (.agg #[.slice (some ⟨g1a, 0, none⟩) m1a m1a, .slice (some ⟨g2a, 0, none⟩) m2a m2a]) ∧ Below w18.heap.size w18 w' ∧ Ints w' g1a 0 m1a L1a ∧ Mats w' g2a 0 m2a D2a ∧ Below wc.heap.size wc w' from fun wc hc => by
          refine (toBinding_src p1a m1a c1a L1a p2a m2a c2a D2a wc (H1a.out.keep hc) (H2a.out.keep hc) M1a.out M2a.out).mono ?_
          rintro e w' ⟨g1, g2, rfl, hg, hl, hs1, hs2, hb⟩
          exact ⟨g1, g2, rfl, keepB hc hb, hs1.ints, hs2.mats, hb⟩)
        have S2 := hidden (show ∀ wc, Below w18.heap.size w18 wc → Calls Try.prog 19 #[.slice p3 m3 c3] wc fun e w' => ∃ g3, e = .returned (.slice (some ⟨g3, 0, none⟩) m3 m3) ∧ Below w18.heap.size w18 w' ∧ Ints w' g3 0 m3 L3 ∧ Below wc.heap.size wc w' from fun wc hc => by
          refine (toInts_new p3 m3 c3 L3 wc (H3.out.keep hc) HM3.out).mono ?_
          rintro e w' ⟨g, rfl, hs, hb⟩
          exact ⟨g, rfl, keepB hc hb, hs, hb⟩)
        have SF := hidden (show ∀ wc g g1a g2a g3, Below w18.heap.size w18 wc → Syms wc g 0 n N A → Ints wc g1a 0 m1a L1a → Mats wc g2a 0 m2a D2a → Ints wc g3 0 m3 L3 → Calls Try.prog 20 #[.agg #[.slice (some ⟨g, 0, none⟩) n n], .agg #[.slice (some ⟨g1a, 0, none⟩) m1a m1a, .slice (some ⟨g2a, 0, none⟩) m2a m2a], .slice (some ⟨g3, 0, none⟩) m3 m3] wc fun e w' => e = .returned (.agg #[.int .i64 C, .slice none 0 0]) ∧ Below w18.heap.size w18 w' ∧ Below wc.heap.size wc w' from fun wc g g1a g2a g3 hc zfs zfva zfta zfi3 => by
          refine (IM.out g g1a g2a g3 wc zfs zfva zfta zfi3 HK.out M1a.out M2a.out).mono ?_
          rintro e w' ⟨ha, hb⟩
          rcases ha with ⟨-, rfl⟩ | ⟨ha, -⟩
          rotate_left
          · exact absurd ha HC.out
          exact ⟨rfl, keepB hc hb, hb⟩)
        have d0 := D0.out.c0
        have e0 := Da.out.c0
        have e1 := Da.out.c1
        go_wp2_with fail
        go_cut [16] (fun t wc => ∃ B0, t = .pointer (some ⟨B0, 0, none⟩) ∧ Hid (Two wc B0 (.int .i64 C) (.slice none 0 0)) ∧ Below w18.heap.size w18 wc)
        case first =>
          refine wp_region_held_drew (S := fun wz => wz.cell? ⟨w.heap.size, 0, none⟩ = some (.slice p n c) ∧ wz.cell? ⟨w.heap.size + 1, 0, none⟩ = some (.slice p1a m1a c1a) ∧ wz.cell? ⟨w.heap.size + 1, 1, none⟩ = some (.slice p2a m2a c2a)) (by kernel_rfl) ⟨d0, e0, e1⟩ (fun hHeld => ?_)
          have bb := (Below.refl w18.heap.size w18).drew
          refine wpAnyH_take (i := 0) (oi := { dst := some 94, op := Op.load 24 (Operand.tmp 3), type := 24, pos := "exact.go:4304", after := #[], guard := none }) (v := ?_) rfl (by kernel_rfl) (by kernel_rfl) (by kernel_rfl) (fun _ _ _ h => h) (Or.inl ⟨by rfl, ?_⟩) (by assumption) ?_
          rotate_left
          · (intro wv hSw; (try dsimp only at hSw); go_simp; try with_reducible rfl)
          try simp only [Act.put, List.setIfInBounds_toArray, List.set_cons_zero, List.set_cons_succ]
          refine wpAnyH_take (i := 2) (oi := { dst := some 96, op := Op.load 28 (Operand.tmp 4), type := 28, pos := "exact.go:4304", after := #[], guard := none }) (v := ?_) rfl (by kernel_rfl) (by kernel_rfl) (by kernel_rfl) (fun _ _ _ h => h) (Or.inl ⟨by rfl, ?_⟩) (by assumption) ?_
          rotate_left
          · (intro wv hSw; (try dsimp only at hSw); go_simp; try with_reducible rfl)
          try simp only [Act.put, List.setIfInBounds_toArray, List.set_cons_zero, List.set_cons_succ]
          refine wpAnyH_take (i := 4) (oi := { dst := some 98, op := Op.move (Operand.tmp 2), type := 25, pos := "exact.go:4304", after := #[], guard := none }) (v := ?_) rfl (by kernel_rfl) (by kernel_rfl) (by kernel_rfl) (fun _ _ _ h => h) (Or.inl ⟨by rfl, ?_⟩) (by assumption) ?_
          rotate_left
          · (intro wv hSw; (try dsimp only at hSw); go_simp; try with_reducible rfl)
          try simp only [Act.put, List.setIfInBounds_toArray, List.set_cons_zero, List.set_cons_succ]
          refine wpAnyH_ready (rs := [1, 7]) (by kernel_rfl) (by simp) ?_
          refine AllReadyH.cons (o := { dst := some 95, op := Op.call { callee := Callee.value (Operand.func 13), args := #[Operand.tmp 94], argTypes := #[24] }, type := 34, pos := "exact.go:4304", after := #[{ on := 0, ground := Ground.data }], guard := none }) rfl (fun K hK => ?_) (AllReadyH.cons (o := { dst := some 16, op := Op.alloc 42, type := 0, pos := "exact.go:4304", after := #[], guard := none }) rfl (fun K hK => ?_) AllReadyH.nil)
          · go_simp
            go_at_call 13; with_reducible refine (S0.out _ bb).mono ?_; rintro e v0 ⟨g', rfl, bb', yfs, hb5⟩
            try go_wp2_with fail
            refine hK.out _ _ ?_ (fun hHeld => ?_)
            · exact CK.out _ bb'
            clear hK K
            have fs := yfs
            clear yfs
            clear bb hb5
            have bb := bb'
            clear bb'
            try simp only [Act.put, List.setIfInBounds_toArray, List.set_cons_zero, List.set_cons_succ]
            refine wpAnyH_ready (rs := [3, 7]) (by kernel_rfl) (by simp) ?_
            refine AllReadyH.cons (o := { dst := some 97, op := Op.call { callee := Callee.value (Operand.func 14), args := #[Operand.tmp 96], argTypes := #[28] }, type := 36, pos := "exact.go:4304", after := #[{ on := 2, ground := Ground.data }, { on := 1, ground := Ground.chain }], guard := none }) rfl (fun K hK => ?_) (AllReadyH.cons (o := { dst := some 16, op := Op.alloc 42, type := 0, pos := "exact.go:4304", after := #[], guard := none }) rfl (fun K hK => ?_) AllReadyH.nil)
            · go_simp
              go_at_call 14; with_reducible refine (S1.out _ bb).mono ?_; rintro e v1 ⟨g1a', g2a', rfl, bb', yfva, yfta, hb5⟩
              try go_wp2_with fail
              refine hK.out _ _ ?_ (fun hHeld => ?_)
              · exact CK.out _ bb'
              clear hK K
              replace fs := fs.keep hb5
              have fva := yfva
              clear yfva
              have fta := yfta
              clear yfta
              clear bb hb5
              have bb := bb'
              clear bb'
              try simp only [Act.put, List.setIfInBounds_toArray, List.set_cons_zero, List.set_cons_succ]
              refine wpAnyH_ready (rs := [5, 7]) (by kernel_rfl) (by simp) ?_
              refine AllReadyH.cons (o := { dst := some 99, op := Op.call { callee := Callee.value (Operand.func 19), args := #[Operand.tmp 98], argTypes := #[25] }, type := 25, pos := "exact.go:4304", after := #[{ on := 4, ground := Ground.data }, { on := 3, ground := Ground.chain }], guard := none }) rfl (fun K hK => ?_) (AllReadyH.cons (o := { dst := some 16, op := Op.alloc 42, type := 0, pos := "exact.go:4304", after := #[], guard := none }) rfl (fun K hK => ?_) AllReadyH.nil)
              · go_simp
                go_at_call 19; with_reducible refine (S2.out _ bb).mono ?_; rintro e v2 ⟨g3', rfl, bb', yfi3, hb5⟩
                try go_wp2_with fail
                refine hK.out _ _ ?_ (fun hHeld => ?_)
                · exact CK.out _ bb'
                clear hK K
                replace fs := fs.keep hb5
                replace fva := fva.keep hb5
                replace fta := fta.keep hb5
                have fi3 := yfi3
                clear yfi3
                clear bb hb5
                have bb := bb'
                clear bb'
                try simp only [Act.put, List.setIfInBounds_toArray, List.set_cons_zero, List.set_cons_succ]
                refine wpAnyH_ready (rs := [6, 7]) (by kernel_rfl) (by simp) ?_
                refine AllReadyH.cons (o := { dst := some 100, op := Op.call { callee := Callee.value (Operand.func 20), args := #[Operand.tmp 95, Operand.tmp 97, Operand.tmp 99], argTypes := #[34, 36, 25] }, type := 42, pos := "exact.go:4304", after := #[{ on := 1, ground := Ground.data }, { on := 3, ground := Ground.data }, { on := 5, ground := Ground.data }, { on := 5, ground := Ground.chain }], guard := none }) rfl (fun K hK => ?_) (AllReadyH.cons (o := { dst := some 16, op := Op.alloc 42, type := 0, pos := "exact.go:4304", after := #[], guard := none }) rfl (fun K hK => ?_) AllReadyH.nil)
                · go_simp
                  go_at_call 20; with_reducible refine (SF.out _ _ _ _ _ bb fs fva fta fi3).mono ?_; rintro e v3 ⟨rfl, bb', hb5⟩
                  try go_wp2_with fail
                  refine hK.out _ _ ?_ (fun hHeld => ?_)
                  · exact CK.out _ bb'
                  clear hK K
                  clear bb hb5
                  have bb := bb'
                  clear bb'
                  try simp only [Act.put, List.setIfInBounds_toArray, List.set_cons_zero, List.set_cons_succ]
                  have bb0 := bb
                  refine wpAnyH_ready (rs := [7]) (by kernel_rfl) (by simp) ?_
                  refine AllReadyH.cons (o := { dst := some 16, op := Op.alloc 42, type := 0, pos := "exact.go:4304", after := #[], guard := none }) rfl (fun K hK => ?_) AllReadyH.nil
                  go_simp
                  have RR := Own2.new v3 (.int .i64 0) (.slice none 0 0) 42
                  have hB0 := bb.size
                  refine hK.out _ _ ?_ (fun hHeld => ?_)
                  · exact CK.out _ (keepB bb (alloc_below _ _))
                  clear hK K
                  replace bb := keepB bb (alloc_below _ (.cells #[.int .i64 0, .slice none 0 0] 42))
                  try simp only [Act.put, List.setIfInBounds_toArray, List.set_cons_zero, List.set_cons_succ]
                  refine wpAnyH_ready (rs := [8]) (by kernel_rfl) (by simp) ?_
                  refine AllReadyH.cons (o := { dst := none, op := Op.store 42 (Operand.tmp 16) (Operand.tmp 100), type := 0, pos := "exact.go:4304", after := #[{ on := 7, ground := Ground.data }, { on := 6, ground := Ground.data }, { on := 6, ground := Ground.chain }, { on := 0, ground := Ground.phase }, { on := 1, ground := Ground.phase }, { on := 2, ground := Ground.phase }, { on := 3, ground := Ground.phase }, { on := 4, ground := Ground.phase }, { on := 5, ground := Ground.phase }, { on := 6, ground := Ground.phase }, { on := 7, ground := Ground.phase }], guard := none }) rfl (fun K hK => ?_) AllReadyH.nil
                  obtain ⟨⟨q8, q0, q1⟩, f0, f1⟩ := id RR
                  go_simp
                  refine hK.out _ _ ?_ (fun hHeld => ?_)
                  · first | exact CK.out _ ((bb.setCell hB0 _).setCell hB0 _) | exact CK.out _ (keepB bb0 (alloc_below _ _))
                  clear hK K
                  refine wpAnyH_done (by kernel_rfl) ?_ _
                  go_wp2_with fail
                  go_meet
                  first
                    | exact ⟨_, rfl, hidden ((RR.set0 _).set1 _).two, (bb.setCell hB0 _).setCell hB0 _⟩
                    | exact ⟨_, rfl, hidden (Two.new _ _ _ _), keepB bb0 (alloc_below _ _)⟩
                · go_simp
                  have RR := Own2.new v2 (.int .i64 0) (.slice none 0 0) 42
                  have hB0 := bb.size
                  refine hK.out _ _ ?_ (fun hHeld => ?_)
                  · exact CK.out _ (keepB bb (alloc_below _ _))
                  clear hK K
                  replace bb := keepB bb (alloc_below _ (.cells #[.int .i64 0, .slice none 0 0] 42))
                  replace fs := fs.keep (alloc_below _ (.cells #[.int .i64 0, .slice none 0 0] 42))
                  replace fva := fva.keep (alloc_below _ (.cells #[.int .i64 0, .slice none 0 0] 42))
                  replace fta := fta.keep (alloc_below _ (.cells #[.int .i64 0, .slice none 0 0] 42))
                  replace fi3 := fi3.keep (alloc_below _ (.cells #[.int .i64 0, .slice none 0 0] 42))
                  try simp only [Act.put, List.setIfInBounds_toArray, List.set_cons_zero, List.set_cons_succ]
                  refine wpAnyH_ready (rs := [6]) (by kernel_rfl) (by simp) ?_
                  refine AllReadyH.cons (o := { dst := some 100, op := Op.call { callee := Callee.value (Operand.func 20), args := #[Operand.tmp 95, Operand.tmp 97, Operand.tmp 99], argTypes := #[34, 36, 25] }, type := 42, pos := "exact.go:4304", after := #[{ on := 1, ground := Ground.data }, { on := 3, ground := Ground.data }, { on := 5, ground := Ground.data }, { on := 5, ground := Ground.chain }], guard := none }) rfl (fun K hK => ?_) AllReadyH.nil
                  go_simp
                  go_at_call 20; with_reducible refine (SF.out _ _ _ _ _ bb fs fva fta fi3).mono ?_; rintro e v3 ⟨rfl, bb', hb5⟩
                  try go_wp2_with fail
                  refine hK.out _ _ ?_ (fun hHeld => ?_)
                  · exact CK.out _ bb'
                  clear hK K
                  replace RR := RR.keep hb5
                  clear bb hb5
                  have bb := bb'
                  clear bb'
                  try simp only [Act.put, List.setIfInBounds_toArray, List.set_cons_zero, List.set_cons_succ]
                  have bb0 := bb
                  refine wpAnyH_ready (rs := [8]) (by kernel_rfl) (by simp) ?_
                  refine AllReadyH.cons (o := { dst := none, op := Op.store 42 (Operand.tmp 16) (Operand.tmp 100), type := 0, pos := "exact.go:4304", after := #[{ on := 7, ground := Ground.data }, { on := 6, ground := Ground.data }, { on := 6, ground := Ground.chain }, { on := 0, ground := Ground.phase }, { on := 1, ground := Ground.phase }, { on := 2, ground := Ground.phase }, { on := 3, ground := Ground.phase }, { on := 4, ground := Ground.phase }, { on := 5, ground := Ground.phase }, { on := 6, ground := Ground.phase }, { on := 7, ground := Ground.phase }], guard := none }) rfl (fun K hK => ?_) AllReadyH.nil
                  obtain ⟨⟨q8, q0, q1⟩, f0, f1⟩ := id RR
                  go_simp
                  refine hK.out _ _ ?_ (fun hHeld => ?_)
                  · first | exact CK.out _ ((bb.setCell hB0 _).setCell hB0 _) | exact CK.out _ (keepB bb0 (alloc_below _ _))
                  clear hK K
                  refine wpAnyH_done (by kernel_rfl) ?_ _
                  go_wp2_with fail
                  go_meet
                  first
                    | exact ⟨_, rfl, hidden ((RR.set0 _).set1 _).two, (bb.setCell hB0 _).setCell hB0 _⟩
                    | exact ⟨_, rfl, hidden (Two.new _ _ _ _), keepB bb0 (alloc_below _ _)⟩
              · go_simp
                have RR := Own2.new v1 (.int .i64 0) (.slice none 0 0) 42
                have hB0 := bb.size
                refine hK.out _ _ ?_ (fun hHeld => ?_)
                · exact CK.out _ (keepB bb (alloc_below _ _))
                clear hK K
                replace bb := keepB bb (alloc_below _ (.cells #[.int .i64 0, .slice none 0 0] 42))
                replace fs := fs.keep (alloc_below _ (.cells #[.int .i64 0, .slice none 0 0] 42))
                replace fva := fva.keep (alloc_below _ (.cells #[.int .i64 0, .slice none 0 0] 42))
                replace fta := fta.keep (alloc_below _ (.cells #[.int .i64 0, .slice none 0 0] 42))
                try simp only [Act.put, List.setIfInBounds_toArray, List.set_cons_zero, List.set_cons_succ]
                refine wpAnyH_ready (rs := [5]) (by kernel_rfl) (by simp) ?_
                refine AllReadyH.cons (o := { dst := some 99, op := Op.call { callee := Callee.value (Operand.func 19), args := #[Operand.tmp 98], argTypes := #[25] }, type := 25, pos := "exact.go:4304", after := #[{ on := 4, ground := Ground.data }, { on := 3, ground := Ground.chain }], guard := none }) rfl (fun K hK => ?_) AllReadyH.nil
                go_simp
                go_at_call 19; with_reducible refine (S2.out _ bb).mono ?_; rintro e v2 ⟨g3', rfl, bb', yfi3, hb5⟩
                try go_wp2_with fail
                refine hK.out _ _ ?_ (fun hHeld => ?_)
                · exact CK.out _ bb'
                clear hK K
                replace RR := RR.keep hb5
                replace fs := fs.keep hb5
                replace fva := fva.keep hb5
                replace fta := fta.keep hb5
                have fi3 := yfi3
                clear yfi3
                clear bb hb5
                have bb := bb'
                clear bb'
                try simp only [Act.put, List.setIfInBounds_toArray, List.set_cons_zero, List.set_cons_succ]
                refine wpAnyH_ready (rs := [6]) (by kernel_rfl) (by simp) ?_
                refine AllReadyH.cons (o := { dst := some 100, op := Op.call { callee := Callee.value (Operand.func 20), args := #[Operand.tmp 95, Operand.tmp 97, Operand.tmp 99], argTypes := #[34, 36, 25] }, type := 42, pos := "exact.go:4304", after := #[{ on := 1, ground := Ground.data }, { on := 3, ground := Ground.data }, { on := 5, ground := Ground.data }, { on := 5, ground := Ground.chain }], guard := none }) rfl (fun K hK => ?_) AllReadyH.nil
                go_simp
                go_at_call 20; with_reducible refine (SF.out _ _ _ _ _ bb fs fva fta fi3).mono ?_; rintro e v3 ⟨rfl, bb', hb5⟩
                try go_wp2_with fail
                refine hK.out _ _ ?_ (fun hHeld => ?_)
                · exact CK.out _ bb'
                clear hK K
                replace RR := RR.keep hb5
                clear bb hb5
                have bb := bb'
                clear bb'
                try simp only [Act.put, List.setIfInBounds_toArray, List.set_cons_zero, List.set_cons_succ]
                have bb0 := bb
                refine wpAnyH_ready (rs := [8]) (by kernel_rfl) (by simp) ?_
                refine AllReadyH.cons (o := { dst := none, op := Op.store 42 (Operand.tmp 16) (Operand.tmp 100), type := 0, pos := "exact.go:4304", after := #[{ on := 7, ground := Ground.data }, { on := 6, ground := Ground.data }, { on := 6, ground := Ground.chain }, { on := 0, ground := Ground.phase }, { on := 1, ground := Ground.phase }, { on := 2, ground := Ground.phase }, { on := 3, ground := Ground.phase }, { on := 4, ground := Ground.phase }, { on := 5, ground := Ground.phase }, { on := 6, ground := Ground.phase }, { on := 7, ground := Ground.phase }], guard := none }) rfl (fun K hK => ?_) AllReadyH.nil
                obtain ⟨⟨q8, q0, q1⟩, f0, f1⟩ := id RR
                go_simp
                refine hK.out _ _ ?_ (fun hHeld => ?_)
                · first | exact CK.out _ ((bb.setCell hB0 _).setCell hB0 _) | exact CK.out _ (keepB bb0 (alloc_below _ _))
                clear hK K
                refine wpAnyH_done (by kernel_rfl) ?_ _
                go_wp2_with fail
                go_meet
                first
                  | exact ⟨_, rfl, hidden ((RR.set0 _).set1 _).two, (bb.setCell hB0 _).setCell hB0 _⟩
                  | exact ⟨_, rfl, hidden (Two.new _ _ _ _), keepB bb0 (alloc_below _ _)⟩
            · go_simp
              have RR := Own2.new v0 (.int .i64 0) (.slice none 0 0) 42
              have hB0 := bb.size
              refine hK.out _ _ ?_ (fun hHeld => ?_)
              · exact CK.out _ (keepB bb (alloc_below _ _))
              clear hK K
              replace bb := keepB bb (alloc_below _ (.cells #[.int .i64 0, .slice none 0 0] 42))
              replace fs := fs.keep (alloc_below _ (.cells #[.int .i64 0, .slice none 0 0] 42))
              try simp only [Act.put, List.setIfInBounds_toArray, List.set_cons_zero, List.set_cons_succ]
              refine wpAnyH_ready (rs := [3]) (by kernel_rfl) (by simp) ?_
              refine AllReadyH.cons (o := { dst := some 97, op := Op.call { callee := Callee.value (Operand.func 14), args := #[Operand.tmp 96], argTypes := #[28] }, type := 36, pos := "exact.go:4304", after := #[{ on := 2, ground := Ground.data }, { on := 1, ground := Ground.chain }], guard := none }) rfl (fun K hK => ?_) AllReadyH.nil
              go_simp
              go_at_call 14; with_reducible refine (S1.out _ bb).mono ?_; rintro e v1 ⟨g1a', g2a', rfl, bb', yfva, yfta, hb5⟩
              try go_wp2_with fail
              refine hK.out _ _ ?_ (fun hHeld => ?_)
              · exact CK.out _ bb'
              clear hK K
              replace RR := RR.keep hb5
              replace fs := fs.keep hb5
              have fva := yfva
              clear yfva
              have fta := yfta
              clear yfta
              clear bb hb5
              have bb := bb'
              clear bb'
              try simp only [Act.put, List.setIfInBounds_toArray, List.set_cons_zero, List.set_cons_succ]
              refine wpAnyH_ready (rs := [5]) (by kernel_rfl) (by simp) ?_
              refine AllReadyH.cons (o := { dst := some 99, op := Op.call { callee := Callee.value (Operand.func 19), args := #[Operand.tmp 98], argTypes := #[25] }, type := 25, pos := "exact.go:4304", after := #[{ on := 4, ground := Ground.data }, { on := 3, ground := Ground.chain }], guard := none }) rfl (fun K hK => ?_) AllReadyH.nil
              go_simp
              go_at_call 19; with_reducible refine (S2.out _ bb).mono ?_; rintro e v2 ⟨g3', rfl, bb', yfi3, hb5⟩
              try go_wp2_with fail
              refine hK.out _ _ ?_ (fun hHeld => ?_)
              · exact CK.out _ bb'
              clear hK K
              replace RR := RR.keep hb5
              replace fs := fs.keep hb5
              replace fva := fva.keep hb5
              replace fta := fta.keep hb5
              have fi3 := yfi3
              clear yfi3
              clear bb hb5
              have bb := bb'
              clear bb'
              try simp only [Act.put, List.setIfInBounds_toArray, List.set_cons_zero, List.set_cons_succ]
              refine wpAnyH_ready (rs := [6]) (by kernel_rfl) (by simp) ?_
              refine AllReadyH.cons (o := { dst := some 100, op := Op.call { callee := Callee.value (Operand.func 20), args := #[Operand.tmp 95, Operand.tmp 97, Operand.tmp 99], argTypes := #[34, 36, 25] }, type := 42, pos := "exact.go:4304", after := #[{ on := 1, ground := Ground.data }, { on := 3, ground := Ground.data }, { on := 5, ground := Ground.data }, { on := 5, ground := Ground.chain }], guard := none }) rfl (fun K hK => ?_) AllReadyH.nil
              go_simp
              go_at_call 20; with_reducible refine (SF.out _ _ _ _ _ bb fs fva fta fi3).mono ?_; rintro e v3 ⟨rfl, bb', hb5⟩
              try go_wp2_with fail
              refine hK.out _ _ ?_ (fun hHeld => ?_)
              · exact CK.out _ bb'
              clear hK K
              replace RR := RR.keep hb5
              clear bb hb5
              have bb := bb'
              clear bb'
              try simp only [Act.put, List.setIfInBounds_toArray, List.set_cons_zero, List.set_cons_succ]
              have bb0 := bb
              refine wpAnyH_ready (rs := [8]) (by kernel_rfl) (by simp) ?_
              refine AllReadyH.cons (o := { dst := none, op := Op.store 42 (Operand.tmp 16) (Operand.tmp 100), type := 0, pos := "exact.go:4304", after := #[{ on := 7, ground := Ground.data }, { on := 6, ground := Ground.data }, { on := 6, ground := Ground.chain }, { on := 0, ground := Ground.phase }, { on := 1, ground := Ground.phase }, { on := 2, ground := Ground.phase }, { on := 3, ground := Ground.phase }, { on := 4, ground := Ground.phase }, { on := 5, ground := Ground.phase }, { on := 6, ground := Ground.phase }, { on := 7, ground := Ground.phase }], guard := none }) rfl (fun K hK => ?_) AllReadyH.nil
              obtain ⟨⟨q8, q0, q1⟩, f0, f1⟩ := id RR
              go_simp
              refine hK.out _ _ ?_ (fun hHeld => ?_)
              · first | exact CK.out _ ((bb.setCell hB0 _).setCell hB0 _) | exact CK.out _ (keepB bb0 (alloc_below _ _))
              clear hK K
              refine wpAnyH_done (by kernel_rfl) ?_ _
              go_wp2_with fail
              go_meet
              first
                | exact ⟨_, rfl, hidden ((RR.set0 _).set1 _).two, (bb.setCell hB0 _).setCell hB0 _⟩
                | exact ⟨_, rfl, hidden (Two.new _ _ _ _), keepB bb0 (alloc_below _ _)⟩
          · go_simp
            have RR := (Own2.new w18 (.int .i64 0) (.slice none 0 0) 42).keep (Below.refl _ _).drew
            have hB0 := bb.size
            refine hK.out _ _ ?_ (fun hHeld => ?_)
            · exact CK.out _ (alloc_below _ _).drew
            clear hK K
            replace bb := (alloc_below w18 (.cells #[.int .i64 0, .slice none 0 0] 42)).drew
            try simp only [Act.put, List.setIfInBounds_toArray, List.set_cons_zero, List.set_cons_succ]
            refine wpAnyH_ready (rs := [1]) (by kernel_rfl) (by simp) ?_
            refine AllReadyH.cons (o := { dst := some 95, op := Op.call { callee := Callee.value (Operand.func 13), args := #[Operand.tmp 94], argTypes := #[24] }, type := 34, pos := "exact.go:4304", after := #[{ on := 0, ground := Ground.data }], guard := none }) rfl (fun K hK => ?_) AllReadyH.nil
            go_simp
            go_at_call 13; with_reducible refine (S0.out _ bb).mono ?_; rintro e v0 ⟨g', rfl, bb', yfs, hb5⟩
            try go_wp2_with fail
            refine hK.out _ _ ?_ (fun hHeld => ?_)
            · exact CK.out _ bb'
            clear hK K
            replace RR := RR.keep hb5
            have fs := yfs
            clear yfs
            clear bb hb5
            have bb := bb'
            clear bb'
            try simp only [Act.put, List.setIfInBounds_toArray, List.set_cons_zero, List.set_cons_succ]
            refine wpAnyH_ready (rs := [3]) (by kernel_rfl) (by simp) ?_
            refine AllReadyH.cons (o := { dst := some 97, op := Op.call { callee := Callee.value (Operand.func 14), args := #[Operand.tmp 96], argTypes := #[28] }, type := 36, pos := "exact.go:4304", after := #[{ on := 2, ground := Ground.data }, { on := 1, ground := Ground.chain }], guard := none }) rfl (fun K hK => ?_) AllReadyH.nil
            go_simp
            go_at_call 14; with_reducible refine (S1.out _ bb).mono ?_; rintro e v1 ⟨g1a', g2a', rfl, bb', yfva, yfta, hb5⟩
            try go_wp2_with fail
            refine hK.out _ _ ?_ (fun hHeld => ?_)
            · exact CK.out _ bb'
            clear hK K
            replace RR := RR.keep hb5
            replace fs := fs.keep hb5
            have fva := yfva
            clear yfva
            have fta := yfta
            clear yfta
            clear bb hb5
            have bb := bb'
            clear bb'
            try simp only [Act.put, List.setIfInBounds_toArray, List.set_cons_zero, List.set_cons_succ]
            refine wpAnyH_ready (rs := [5]) (by kernel_rfl) (by simp) ?_
            refine AllReadyH.cons (o := { dst := some 99, op := Op.call { callee := Callee.value (Operand.func 19), args := #[Operand.tmp 98], argTypes := #[25] }, type := 25, pos := "exact.go:4304", after := #[{ on := 4, ground := Ground.data }, { on := 3, ground := Ground.chain }], guard := none }) rfl (fun K hK => ?_) AllReadyH.nil
            go_simp
            go_at_call 19; with_reducible refine (S2.out _ bb).mono ?_; rintro e v2 ⟨g3', rfl, bb', yfi3, hb5⟩
            try go_wp2_with fail
            refine hK.out _ _ ?_ (fun hHeld => ?_)
            · exact CK.out _ bb'
            clear hK K
            replace RR := RR.keep hb5
            replace fs := fs.keep hb5
            replace fva := fva.keep hb5
            replace fta := fta.keep hb5
            have fi3 := yfi3
            clear yfi3
            clear bb hb5
            have bb := bb'
            clear bb'
            try simp only [Act.put, List.setIfInBounds_toArray, List.set_cons_zero, List.set_cons_succ]
            refine wpAnyH_ready (rs := [6]) (by kernel_rfl) (by simp) ?_
            refine AllReadyH.cons (o := { dst := some 100, op := Op.call { callee := Callee.value (Operand.func 20), args := #[Operand.tmp 95, Operand.tmp 97, Operand.tmp 99], argTypes := #[34, 36, 25] }, type := 42, pos := "exact.go:4304", after := #[{ on := 1, ground := Ground.data }, { on := 3, ground := Ground.data }, { on := 5, ground := Ground.data }, { on := 5, ground := Ground.chain }], guard := none }) rfl (fun K hK => ?_) AllReadyH.nil
            go_simp
            go_at_call 20; with_reducible refine (SF.out _ _ _ _ _ bb fs fva fta fi3).mono ?_; rintro e v3 ⟨rfl, bb', hb5⟩
            try go_wp2_with fail
            refine hK.out _ _ ?_ (fun hHeld => ?_)
            · exact CK.out _ bb'
            clear hK K
            replace RR := RR.keep hb5
            clear bb hb5
            have bb := bb'
            clear bb'
            try simp only [Act.put, List.setIfInBounds_toArray, List.set_cons_zero, List.set_cons_succ]
            have bb0 := bb
            refine wpAnyH_ready (rs := [8]) (by kernel_rfl) (by simp) ?_
            refine AllReadyH.cons (o := { dst := none, op := Op.store 42 (Operand.tmp 16) (Operand.tmp 100), type := 0, pos := "exact.go:4304", after := #[{ on := 7, ground := Ground.data }, { on := 6, ground := Ground.data }, { on := 6, ground := Ground.chain }, { on := 0, ground := Ground.phase }, { on := 1, ground := Ground.phase }, { on := 2, ground := Ground.phase }, { on := 3, ground := Ground.phase }, { on := 4, ground := Ground.phase }, { on := 5, ground := Ground.phase }, { on := 6, ground := Ground.phase }, { on := 7, ground := Ground.phase }], guard := none }) rfl (fun K hK => ?_) AllReadyH.nil
            obtain ⟨⟨q8, q0, q1⟩, f0, f1⟩ := id RR
            go_simp
            refine hK.out _ _ ?_ (fun hHeld => ?_)
            · first | exact CK.out _ ((bb.setCell hB0 _).setCell hB0 _) | exact CK.out _ (keepB bb0 (alloc_below _ _))
            clear hK K
            refine wpAnyH_done (by kernel_rfl) ?_ _
            go_wp2_with fail
            go_meet
            first
              | exact ⟨_, rfl, hidden ((RR.set0 _).set1 _).two, (bb.setCell hB0 _).setCell hB0 _⟩
              | exact ⟨_, rfl, hidden (Two.new _ _ _ _), keepB bb0 (alloc_below _ _)⟩
        case rest =>
          rename World => w19
          obtain ⟨R2b, rfl, R2, hb⟩ := hcut
          replace D0 := hidden (D0.out.keep hb)
          replace B := hidden (keepB B.out hb)
          replace Da := hidden (Da.out.keep hb)
          replace H := hidden (H.out.keep hb)
          replace H1a := hidden (H1a.out.keep hb)
          replace H2a := hidden (H2a.out.keep hb)
          replace H3 := hidden (H3.out.keep hb)
          replace R0 := hidden (R0.out.keep hb)
          replace X := hidden (X.out.keep hb)
          replace Y := hidden (Y.out.keep hb)
          replace R1 := hidden (R1.out.keep hb)
          clear d0 e0 e1 hb CK SF S0 S1 S2
          have r00 := R0.out.c0
          have r01 := R0.out.c1
          have r10 := R2.out.c0
          have r11 := R2.out.c1
          go_wp2_with fail
          with_reducible refine (eqTerm_none _ _).mono ?_
          rintro e w20 ⟨rfl, hb⟩
          replace D0 := hidden (D0.out.keep hb)
          replace B := hidden (keepB B.out hb)
          replace Da := hidden (Da.out.keep hb)
          replace H := hidden (H.out.keep hb)
          replace H1a := hidden (H1a.out.keep hb)
          replace H2a := hidden (H2a.out.keep hb)
          replace H3 := hidden (H3.out.keep hb)
          replace R0 := hidden (R0.out.keep hb)
          replace X := hidden (X.out.keep hb)
          replace Y := hidden (Y.out.keep hb)
          replace R1 := hidden (R1.out.keep hb)
          replace R2 := hidden (R2.out.keep hb)
          clear r00 r01 r10 r11 hb
          have r00 := R1.out.c0
          have r01 := R1.out.c1
          go_wp2_with fail
          with_reducible refine (heldTerm_none1 _ _).mono ?_
          rintro e w21 ⟨rfl, hb⟩
          replace D0 := hidden (D0.out.keep hb)
          replace B := hidden (keepB B.out hb)
          replace Da := hidden (Da.out.keep hb)
          replace H := hidden (H.out.keep hb)
          replace H1a := hidden (H1a.out.keep hb)
          replace H2a := hidden (H2a.out.keep hb)
          replace H3 := hidden (H3.out.keep hb)
          replace R0 := hidden (R0.out.keep hb)
          replace X := hidden (X.out.keep hb)
          replace Y := hidden (Y.out.keep hb)
          replace R1 := hidden (R1.out.keep hb)
          replace R2 := hidden (R2.out.keep hb)
          clear r00 r01 hb
          go_wp2_with fail
          go_ret
          exact ⟨rfl, B.out⟩

end Go.Proofs.Ytmoahjkfcfojoaa
