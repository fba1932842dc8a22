/- Law FnExactThenBinding, a part: its walk where a binding that is not empty is told. -/
import Derived.Test.YtenlogljpgdbpaaMH
import Derived.Test.YtenlogljpgdbpaaBndZ
import Derived.Deep.RegionHeld3
namespace Go.Proofs.Ytenlogljpgdbpaa
open Go.RowKit

set_option maxRecDepth 20000 in
set_option maxHeartbeats 25600000 in
theorem law_th_ok (p : Option Addr) (n c : Nat) (N : Nat → ByteArray) (A : Nat → Int) (p1a : Option Addr) (m1a c1a : Nat) (L1a : Nat → Int) (p2a : Option Addr) (m2a c2a : Nat) (D2a : LsL) (p1b : Option Addr) (m1b c1b : Nat) (L1b : Nat → Int) (p2b : Option Addr) (m2b c2b : Nat) (D2b : LsL) (C : Int) (M : Nat → List Int) (w : World) (h : SrcS w p n N A) (h1a : SrcI w p1a m1a L1a) (h2a : SrcM w p2a m2a D2a) (hx1a : m1a ≤ maxLen) (h1b : SrcI w p1b m1b L1b) (h2b : SrcM w p2b m2b D2b) (hx1b : m1b ≤ maxLen) (hpos : C = 0 ∧ 0 < cR M) (hkb : KeptM (cR M) (cnD M 12)) (hsb : (1 : Int) + cR M + sumM (cnD M 12) (cR M) ≤ 1099511627776)
    (SP : Hid (∀ b b1 b2 b3 b4 w, Syms w b 0 n N A → Ints w b1 0 m1a L1a → Mats w b2 0 m2a D2a → Ints w b3 0 m1b L1b → Mats w b4 0 m2b D2b → Kept n N A → m1a ≤ 1048576 → KeptM m2a D2a → m1b ≤ 1048576 → KeptM m2b D2b → Calls Try.prog 21 #[.agg #[.slice (some ⟨b, 0, none⟩) n n], .agg #[.slice (some ⟨b1, 0, none⟩) m1a m1a, .slice (some ⟨b2, 0, none⟩) m2a m2a], .agg #[.slice (some ⟨b3, 0, none⟩) m1b m1b, .slice (some ⟨b4, 0, none⟩) m2b m2b]] w fun e w' => BnAns w C M e w' ∧ Below w.heap.size w w'))
    (IM : Hid (∀ b b1 b2 b3 b4 w, Syms w b 0 n N A → Ints w b1 0 m1a L1a → Mats w b2 0 m2a D2a → Ints w b3 0 m1b L1b → Mats w b4 0 m2b D2b → Kept n N A → m1a ≤ 1048576 → KeptM m2a D2a → m1b ≤ 1048576 → KeptM m2b D2b → Calls Try.prog 23 #[.agg #[.slice (some ⟨b, 0, none⟩) n n], .agg #[.slice (some ⟨b1, 0, none⟩) m1a m1a, .slice (some ⟨b2, 0, none⟩) m2a m2a], .agg #[.slice (some ⟨b3, 0, none⟩) m1b m1b, .slice (some ⟨b4, 0, none⟩) m2b m2b]] w fun e w' => BnAns w C M e w' ∧ Below w.heap.size w w')) :
    Calls Try.prog 5 #[.agg #[.slice p n c], .agg #[.slice p1a m1a c1a, .slice p2a m2a c2a], .agg #[.slice p1b m1b c1b, .slice p2b m2b c2b]] w fun e w' => e = .returned (.bool true) ∧ Below w.heap.size w w' := by
  have Z := hidden h
  have Z1a := hidden h1a
  have Z2a := hidden h2a
  have X1a := hidden hx1a
  have Z1b := hidden h1b
  have Z2b := hidden h2b
  have X1b := hidden hx1b
  have HC0 := hidden hpos
  have HKB := hidden hkb
  have HSB := hidden hsb
  have HR12 := hidden (cR_le M)
  clear hpos hkb hsb
  have D0 := hidden (One.new w (.slice p n c) 24)
  have B := hidden (alloc_below w (.cells #[.slice p n c] 24))
  have hb := alloc_below (w.alloc (.cells #[.slice p n c] 24)) (.cells #[.slice p1a m1a c1a, .slice p2a m2a c2a] 45)
  replace D0 := hidden (D0.out.keep hb)
  replace B := hidden (keepB B.out hb)
  clear hb
  have Da := hidden (Two.new (w.alloc (.cells #[.slice p n c] 24)) (.slice p1a m1a c1a) (.slice p2a m2a c2a) 45)
  simp only [World.size_alloc] at Da
  have hb := alloc_below ((w.alloc (.cells #[.slice p n c] 24)).alloc (.cells #[.slice p1a m1a c1a, .slice p2a m2a c2a] 45)) (.cells #[.slice p1b m1b c1b, .slice p2b m2b c2b] 45)
  replace D0 := hidden (D0.out.keep hb)
  replace B := hidden (keepB B.out hb)
  replace Da := hidden (Da.out.keep hb)
  clear hb
  have Db := hidden (Two.new ((w.alloc (.cells #[.slice p n c] 24)).alloc (.cells #[.slice p1a m1a c1a, .slice p2a m2a c2a] 45)) (.slice p1b m1b c1b) (.slice p2b m2b c2b) 45)
  simp only [World.size_alloc] at Db
  have H := hidden (Z.out.keep B.out)
  have H1a := hidden (Z1a.out.keep B.out)
  have H2a := hidden (Z2a.out.keep B.out)
  have H1b := hidden (Z1b.out.keep B.out)
  have H2b := hidden (Z2b.out.keep B.out)
  clear h h1a h2a hx1a h1b h2b hx1b
  have d0 := D0.out.c0
  go_enter Try.func5, Try.ntmps5
  go_wp2_with fail
  with_reducible refine (szSignature_src p n c N A 1048576 _ H.out (by omega) (by omega)).mono ?_
  rintro e w1 ⟨⟨r1, rfl, hr⟩, hb⟩
  replace D0 := hidden (D0.out.keep hb)
  replace B := hidden (keepB B.out hb)
  replace Da := hidden (Da.out.keep hb)
  replace Db := hidden (Db.out.keep hb)
  replace H := hidden (H.out.keep hb)
  replace H1a := hidden (H1a.out.keep hb)
  replace H2a := hidden (H2a.out.keep hb)
  replace H1b := hidden (H1b.out.keep hb)
  replace H2b := hidden (H2b.out.keep hb)
  clear d0 hb
  rcases hr with rfl | ⟨q0, q1, q2, q3⟩
  · go_wp2_with fail
    go_ret
    exact ⟨rfl, B.out⟩
  have HK := hidden (Kept.mk q2 q3 H.out.fits)
  clear q2 q3
  have e0 := Da.out.c0
  have e1 := Da.out.c1
  go_wp2_with fail
  with_reducible refine (szBinding_sum p1a m1a c1a p2a m2a c2a D2a _ _ X1a.out H2a.out q0 q1).mono ?_
  rintro e w2 ⟨⟨r2, rfl, hr⟩, hb⟩
  replace D0 := hidden (D0.out.keep hb)
  replace B := hidden (keepB B.out hb)
  replace Da := hidden (Da.out.keep hb)
  replace Db := hidden (Db.out.keep hb)
  replace H := hidden (H.out.keep hb)
  replace H1a := hidden (H1a.out.keep hb)
  replace H2a := hidden (H2a.out.keep hb)
  replace H1b := hidden (H1b.out.keep hb)
  replace H2b := hidden (H2b.out.keep hb)
  clear e0 e1 hb
  rcases hr with rfl | ⟨q2, q3, q4, q5⟩
  · go_wp2_with fail
    go_ret
    exact ⟨rfl, B.out⟩
  have HSUM := hidden (show (m1a : Int) + sumM D2a m2a ≤ 1048576 by omega)
  have hrb : r2 ≤ 1048576 := by omega
  have M1a := hidden q4
  have M2a := hidden q5
  clear q0 q1 q3 q4 q5
  have e0 := Db.out.c0
  have e1 := Db.out.c1
  go_wp2_with fail
  with_reducible refine (szBinding_sum p1b m1b c1b p2b m2b c2b D2b _ _ X1b.out H2b.out q2 hrb).mono ?_
  rintro e w3 ⟨⟨r3, rfl, hr⟩, hb⟩
  replace D0 := hidden (D0.out.keep hb)
  replace B := hidden (keepB B.out hb)
  replace Da := hidden (Da.out.keep hb)
  replace Db := hidden (Db.out.keep hb)
  replace H := hidden (H.out.keep hb)
  replace H1a := hidden (H1a.out.keep hb)
  replace H2a := hidden (H2a.out.keep hb)
  replace H1b := hidden (H1b.out.keep hb)
  replace H2b := hidden (H2b.out.keep hb)
  clear e0 e1 hb
  rcases hr with rfl | ⟨q6, q3, q4, q5⟩
  · go_wp2_with fail
    go_ret
    exact ⟨rfl, B.out⟩
  have HSUMb := hidden (show (m1b : Int) + sumM D2b m2b ≤ 1048576 by omega)
  have M1b := hidden q4
  have M2b := hidden q5
  clear q2 q3 q4 q5 hrb
  have CK := hidden (show ∀ w', Below w3.heap.size w3 w' → (w'.cell? ⟨w.heap.size, 0, none⟩ = some (.slice p n c) ∧ w'.cell? ⟨w.heap.size + 1, 0, none⟩ = some (.slice p1a m1a c1a) ∧ w'.cell? ⟨w.heap.size + 1, 1, none⟩ = some (.slice p2a m2a c2a) ∧ w'.cell? ⟨w.heap.size + 1 + 1, 0, none⟩ = some (.slice p1b m1b c1b) ∧ w'.cell? ⟨w.heap.size + 1 + 1, 1, none⟩ = some (.slice p2b m2b c2b)) from fun w' hb => ⟨(D0.out.keep hb).c0, (Da.out.keep hb).c0, (Da.out.keep hb).c1, (Db.out.keep hb).c0, (Db.out.keep hb).c1⟩)
  have S0 := hidden (show ∀ wc, Below w3.heap.size w3 wc → Calls Try.prog 8 #[.agg #[.slice p n c]] wc fun e w' => ∃ g, e = .returned (.agg #[.slice (some ⟨g, 0, none⟩) n n]) ∧ Below w3.heap.size w3 w' ∧ Syms w' g 0 n N A ∧ Below wc.heap.size wc w' from fun wc hc => by
    refine (toSig_new p n c N A wc (H.out.keep hc) HK.out).mono ?_
    rintro e w' ⟨g, rfl, hg, hl, hs, hb⟩
    exact ⟨g, rfl, keepB hc hb, hs, hb⟩)
  have S1 := hidden (show ∀ wc, Below w3.heap.size w3 wc → Calls Try.prog 22 #[.agg #[.slice p1a m1a c1a, .slice p2a m2a c2a]] wc fun e w' => ∃ g1a g2a, e = .returned (.agg #[.slice (some ⟨g1a, 0, none⟩) m1a m1a, .slice (some ⟨g2a, 0, none⟩) m2a m2a]) ∧ Below w3.heap.size w3 w' ∧ Ints w' g1a 0 m1a L1a ∧ Mats w' g2a 0 m2a D2a ∧ Below wc.heap.size wc w' from fun wc hc => by
    refine (toBinding_src p1a m1a c1a L1a p2a m2a c2a D2a wc (H1a.out.keep hc) (H2a.out.keep hc) M1a.out M2a.out).mono ?_
    rintro e w' ⟨g1, g2, rfl, hg, hl, hs1, hs2, hb⟩
    exact ⟨g1, g2, rfl, keepB hc hb, hs1.ints, hs2.mats, hb⟩)
  have S2 := hidden (show ∀ wc, Below w3.heap.size w3 wc → Calls Try.prog 22 #[.agg #[.slice p1b m1b c1b, .slice p2b m2b c2b]] wc fun e w' => ∃ g1b g2b, e = .returned (.agg #[.slice (some ⟨g1b, 0, none⟩) m1b m1b, .slice (some ⟨g2b, 0, none⟩) m2b m2b]) ∧ Below w3.heap.size w3 w' ∧ Ints w' g1b 0 m1b L1b ∧ Mats w' g2b 0 m2b D2b ∧ Below wc.heap.size wc w' from fun wc hc => by
    refine (toBinding_src p1b m1b c1b L1b p2b m2b c2b D2b wc (H1b.out.keep hc) (H2b.out.keep hc) M1b.out M2b.out).mono ?_
    rintro e w' ⟨g1, g2, rfl, hg, hl, hs1, hs2, hb⟩
    exact ⟨g1, g2, rfl, keepB hc hb, hs1.ints, hs2.mats, hb⟩)
  have SF := hidden (show ∀ wc g g1a g2a g1b g2b, Below w3.heap.size w3 wc → Syms wc g 0 n N A → Ints wc g1a 0 m1a L1a → Mats wc g2a 0 m2a D2a → Ints wc g1b 0 m1b L1b → Mats wc g2b 0 m2b D2b → Calls Try.prog 21 #[.agg #[.slice (some ⟨g, 0, none⟩) n n], .agg #[.slice (some ⟨g1a, 0, none⟩) m1a m1a, .slice (some ⟨g2a, 0, none⟩) m2a m2a], .agg #[.slice (some ⟨g1b, 0, none⟩) m1b m1b, .slice (some ⟨g2b, 0, none⟩) m2b m2b]] wc fun e w' => (∃ lo g1 d1 g2 d2, e = .returned (.agg #[.int .i64 0, .slice (some ⟨g1, 0, none⟩) (cR M) d1, .slice (some ⟨g2, 0, none⟩) (cR M) d2]) ∧ wc.heap.size ≤ lo ∧ Hid (OwnBx w' lo w'.heap.size g1 (cR M) d1 (cV M) g2 (cR M) d2 (cnD M 12))) ∧ Below w3.heap.size w3 w' ∧ Below wc.heap.size wc w' from fun wc g g1a g2a g1b g2b hc zfs zfva zfta zfvb zftb => by
    refine (SP.out g g1a g2a g1b g2b wc zfs zfva zfta zfvb zftb HK.out M1a.out M2a.out M1b.out M2b.out).mono ?_
    rintro e w' ⟨ha, hb⟩
    rcases ha with ⟨ha, -⟩ | ⟨-, -, lo, g1, d1, g2, d2, rfl, hlo, ho⟩
    · exact absurd ha (by have h1 := HC0.out.1; have h2 := HC0.out.2; intro h; rcases h with h | h; exact h h1; omega)
    exact ⟨⟨lo, g1, d1, g2, d2, rfl, hlo, hidden ho⟩, keepB hc hb, hb⟩)
  have d0 := D0.out.c0
  have e0 := Da.out.c0
  have e1 := Da.out.c1
  have f0 := Db.out.c0
  have f1 := Db.out.c1
  go_wp2_with fail
  go_cut [8] (fun t wc => ∃ B0 lo hi g1 d1 g2 d2, t = .pointer (some ⟨B0, 0, none⟩) ∧ Hid (Three wc B0 (.int .i64 0) (.slice (some ⟨g1, 0, none⟩) (cR M) d1) (.slice (some ⟨g2, 0, none⟩) (cR M) d2)) ∧ Hid (OwnBx wc lo hi g1 (cR M) d1 (cV M) g2 (cR M) d2 (cnD M 12)) ∧ Below w3.heap.size w3 wc)
  case first =>
    refine wp_region_held_drew (S := fun wz => wz.cell? ⟨w.heap.size, 0, none⟩ = some (.slice p n c) ∧ wz.cell? ⟨w.heap.size + 1, 0, none⟩ = some (.slice p1a m1a c1a) ∧ wz.cell? ⟨w.heap.size + 1, 1, none⟩ = some (.slice p2a m2a c2a) ∧ wz.cell? ⟨w.heap.size + 1 + 1, 0, none⟩ = some (.slice p1b m1b c1b) ∧ wz.cell? ⟨w.heap.size + 1 + 1, 1, none⟩ = some (.slice p2b m2b c2b)) (by kernel_rfl) ⟨d0, e0, e1, f0, f1⟩ (fun hHeld => ?_)
    have bb := (Below.refl w3.heap.size w3).drew
    refine wpAnyH_take (i := 0) (oi := { dst := some 32, op := Op.load 24 (Operand.tmp 3), type := 24, pos := "exact.go:4512", after := #[], guard := none }) (v := ?_) rfl (by kernel_rfl) (by kernel_rfl) (by kernel_rfl) (fun _ _ _ h => h) (Or.inl ⟨by rfl, ?_⟩) (by assumption) ?_
    rotate_left
    · (intro wv hSw; (try dsimp only at hSw); go_simp; try with_reducible rfl)
    try simp only [Act.put, List.setIfInBounds_toArray, List.set_cons_zero, List.set_cons_succ]
    refine wpAnyH_take (i := 2) (oi := { dst := some 34, op := Op.load 45 (Operand.tmp 4), type := 45, pos := "exact.go:4512", after := #[], guard := none }) (v := ?_) rfl (by kernel_rfl) (by kernel_rfl) (by kernel_rfl) (fun _ _ _ h => h) (Or.inl ⟨by rfl, ?_⟩) (by assumption) ?_
    rotate_left
    · (intro wv hSw; (try dsimp only at hSw); go_simp; try with_reducible rfl)
    try simp only [Act.put, List.setIfInBounds_toArray, List.set_cons_zero, List.set_cons_succ]
    refine wpAnyH_take (i := 4) (oi := { dst := some 36, op := Op.load 45 (Operand.tmp 5), type := 45, pos := "exact.go:4512", after := #[], guard := none }) (v := ?_) rfl (by kernel_rfl) (by kernel_rfl) (by kernel_rfl) (fun _ _ _ h => h) (Or.inl ⟨by rfl, ?_⟩) (by assumption) ?_
    rotate_left
    · (intro wv hSw; (try dsimp only at hSw); go_simp; try with_reducible rfl)
    try simp only [Act.put, List.setIfInBounds_toArray, List.set_cons_zero, List.set_cons_succ]
    refine wpAnyH_ready (rs := [1, 7]) (by kernel_rfl) (by simp) ?_
    refine AllReadyH.cons (o := { dst := some 33, op := Op.call { callee := Callee.value (Operand.func 8), args := #[Operand.tmp 32], argTypes := #[24] }, type := 35, pos := "exact.go:4512", after := #[{ on := 0, ground := Ground.data }], guard := none }) rfl (fun K hK => ?_) (AllReadyH.cons (o := { dst := some 8, op := Op.alloc 31, type := 0, pos := "exact.go:4512", after := #[], guard := none }) rfl (fun K hK => ?_) AllReadyH.nil)
    · go_simp
      go_at_call 8; with_reducible refine (S0.out _ bb).mono ?_; rintro e v0 ⟨g', rfl, bb', yfs, hb5⟩
      try go_wp2_with fail
      refine hK.out _ _ ?_ (fun hHeld => ?_)
      · exact CK.out _ bb'
      clear hK K
      have fs := yfs
      clear yfs
      clear bb hb5
      have bb := bb'
      clear bb'
      try simp only [Act.put, List.setIfInBounds_toArray, List.set_cons_zero, List.set_cons_succ]
      refine wpAnyH_ready (rs := [3, 7]) (by kernel_rfl) (by simp) ?_
      refine AllReadyH.cons (o := { dst := some 35, op := Op.call { callee := Callee.value (Operand.func 22), args := #[Operand.tmp 34], argTypes := #[45] }, type := 29, pos := "exact.go:4512", after := #[{ on := 2, ground := Ground.data }, { on := 1, ground := Ground.chain }], guard := none }) rfl (fun K hK => ?_) (AllReadyH.cons (o := { dst := some 8, op := Op.alloc 31, type := 0, pos := "exact.go:4512", after := #[], guard := none }) rfl (fun K hK => ?_) AllReadyH.nil)
      · go_simp
        go_at_call 22; with_reducible refine (S1.out _ bb).mono ?_; rintro e v1 ⟨g1a', g2a', rfl, bb', yfva, yfta, hb5⟩
        try go_wp2_with fail
        refine hK.out _ _ ?_ (fun hHeld => ?_)
        · exact CK.out _ bb'
        clear hK K
        replace fs := fs.keep hb5
        have fva := yfva
        clear yfva
        have fta := yfta
        clear yfta
        clear bb hb5
        have bb := bb'
        clear bb'
        try simp only [Act.put, List.setIfInBounds_toArray, List.set_cons_zero, List.set_cons_succ]
        refine wpAnyH_ready (rs := [5, 7]) (by kernel_rfl) (by simp) ?_
        refine AllReadyH.cons (o := { dst := some 37, op := Op.call { callee := Callee.value (Operand.func 22), args := #[Operand.tmp 36], argTypes := #[45] }, type := 29, pos := "exact.go:4512", after := #[{ on := 4, ground := Ground.data }, { on := 3, ground := Ground.chain }], guard := none }) rfl (fun K hK => ?_) (AllReadyH.cons (o := { dst := some 8, op := Op.alloc 31, type := 0, pos := "exact.go:4512", after := #[], guard := none }) rfl (fun K hK => ?_) AllReadyH.nil)
        · go_simp
          go_at_call 22; with_reducible refine (S2.out _ bb).mono ?_; rintro e v2 ⟨g1b', g2b', rfl, bb', yfvb, yftb, hb5⟩
          try go_wp2_with fail
          refine hK.out _ _ ?_ (fun hHeld => ?_)
          · exact CK.out _ bb'
          clear hK K
          replace fs := fs.keep hb5
          replace fva := fva.keep hb5
          replace fta := fta.keep hb5
          have fvb := yfvb
          clear yfvb
          have ftb := yftb
          clear yftb
          clear bb hb5
          have bb := bb'
          clear bb'
          try simp only [Act.put, List.setIfInBounds_toArray, List.set_cons_zero, List.set_cons_succ]
          refine wpAnyH_ready (rs := [6, 7]) (by kernel_rfl) (by simp) ?_
          refine AllReadyH.cons (o := { dst := some 38, op := Op.call { callee := Callee.value (Operand.func 21), args := #[Operand.tmp 33, Operand.tmp 35, Operand.tmp 37], argTypes := #[35, 29, 29] }, type := 31, pos := "exact.go:4512", after := #[{ on := 1, ground := Ground.data }, { on := 3, ground := Ground.data }, { on := 5, ground := Ground.data }, { on := 5, ground := Ground.chain }], guard := none }) rfl (fun K hK => ?_) (AllReadyH.cons (o := { dst := some 8, op := Op.alloc 31, type := 0, pos := "exact.go:4512", after := #[], guard := none }) rfl (fun K hK => ?_) AllReadyH.nil)
          · go_simp
            go_at_call 21; with_reducible refine (SF.out _ _ _ _ _ _ bb fs fva fta fvb ftb).mono ?_; rintro e v3 ⟨⟨lo', g1', d1', g2', d2', rfl, hga, oo'⟩, bb', hb5⟩
            try go_wp2_with fail
            refine hK.out _ _ ?_ (fun hHeld => ?_)
            · exact CK.out _ bb'
            clear hK K
            have oo0 := oo'
            clear bb hb5
            have bb := bb'
            clear bb'
            try simp only [Act.put, List.setIfInBounds_toArray, List.set_cons_zero, List.set_cons_succ]
            have bb0 := bb
            refine wpAnyH_ready (rs := [7]) (by kernel_rfl) (by simp) ?_
            refine AllReadyH.cons (o := { dst := some 8, op := Op.alloc 31, type := 0, pos := "exact.go:4512", after := #[], guard := none }) rfl (fun K hK => ?_) AllReadyH.nil
            go_simp
            have RR := Bn3.new v3 (.int .i64 0) (.slice none 0 0) (.slice none 0 0) 31
            have hB0 := bb.size
            refine hK.out _ _ ?_ (fun hHeld => ?_)
            · exact CK.out _ (keepB bb (alloc_below _ _))
            clear hK K
            replace bb := keepB bb (alloc_below _ (.cells #[.int .i64 0, .slice none 0 0, .slice none 0 0] 31))
            replace oo' := hidden (oo'.out.keep (alloc_below _ (.cells #[.int .i64 0, .slice none 0 0, .slice none 0 0] 31)))
            try simp only [Act.put, List.setIfInBounds_toArray, List.set_cons_zero, List.set_cons_succ]
            refine wpAnyH_ready (rs := [8]) (by kernel_rfl) (by simp) ?_
            refine AllReadyH.cons (o := { dst := none, op := Op.store 31 (Operand.tmp 8) (Operand.tmp 38), type := 0, pos := "exact.go:4512", after := #[{ on := 7, ground := Ground.data }, { on := 6, ground := Ground.data }, { on := 6, ground := Ground.chain }, { on := 0, ground := Ground.phase }, { on := 1, ground := Ground.phase }, { on := 2, ground := Ground.phase }, { on := 3, ground := Ground.phase }, { on := 4, ground := Ground.phase }, { on := 5, ground := Ground.phase }, { on := 6, ground := Ground.phase }, { on := 7, ground := Ground.phase }], guard := none }) rfl (fun K hK => ?_) AllReadyH.nil
            obtain ⟨q8, q0, q1, q2, g0, g1, g2⟩ := id RR
            go_simp
            refine hK.out _ _ ?_ (fun hHeld => ?_)
            · first | exact CK.out _ (((bb.setCell hB0 _).setCell hB0 _).setCell hB0 _) | exact CK.out _ (keepB bb0 (alloc_below _ _))
            clear hK K
            refine wpAnyH_done (by kernel_rfl) ?_ _
            go_wp2_with fail
            go_meet
            first
              | exact ⟨_, lo', _, g1', d1', g2', d2', rfl, hidden (((RR.set0 _).set1 _).set2 _).two, hidden (((oo'.out.grown (setCell_grownT _ _ _ _) (Or.inl hne)).grown (setCell_grownT _ _ _ _) (Or.inl hne)).grown (setCell_grownT _ _ _ _) (Or.inl hne)), ((bb.setCell hB0 _).setCell hB0 _).setCell hB0 _⟩
              | exact ⟨_, lo', _, g1', d1', g2', d2', rfl, hidden (Three.new _ _ _ _ _), hidden (oo0.out.keep (alloc_below _ _)), keepB bb0 (alloc_below _ _)⟩
          · go_simp
            have RR := Bn3.new v2 (.int .i64 0) (.slice none 0 0) (.slice none 0 0) 31
            have hB0 := bb.size
            refine hK.out _ _ ?_ (fun hHeld => ?_)
            · exact CK.out _ (keepB bb (alloc_below _ _))
            clear hK K
            replace bb := keepB bb (alloc_below _ (.cells #[.int .i64 0, .slice none 0 0, .slice none 0 0] 31))
            replace fs := fs.keep (alloc_below _ (.cells #[.int .i64 0, .slice none 0 0, .slice none 0 0] 31))
            replace fva := fva.keep (alloc_below _ (.cells #[.int .i64 0, .slice none 0 0, .slice none 0 0] 31))
            replace fta := fta.keep (alloc_below _ (.cells #[.int .i64 0, .slice none 0 0, .slice none 0 0] 31))
            replace fvb := fvb.keep (alloc_below _ (.cells #[.int .i64 0, .slice none 0 0, .slice none 0 0] 31))
            replace ftb := ftb.keep (alloc_below _ (.cells #[.int .i64 0, .slice none 0 0, .slice none 0 0] 31))
            try simp only [Act.put, List.setIfInBounds_toArray, List.set_cons_zero, List.set_cons_succ]
            refine wpAnyH_ready (rs := [6]) (by kernel_rfl) (by simp) ?_
            refine AllReadyH.cons (o := { dst := some 38, op := Op.call { callee := Callee.value (Operand.func 21), args := #[Operand.tmp 33, Operand.tmp 35, Operand.tmp 37], argTypes := #[35, 29, 29] }, type := 31, pos := "exact.go:4512", after := #[{ on := 1, ground := Ground.data }, { on := 3, ground := Ground.data }, { on := 5, ground := Ground.data }, { on := 5, ground := Ground.chain }], guard := none }) rfl (fun K hK => ?_) AllReadyH.nil
            go_simp
            go_at_call 21; with_reducible refine (SF.out _ _ _ _ _ _ bb fs fva fta fvb ftb).mono ?_; rintro e v3 ⟨⟨lo', g1', d1', g2', d2', rfl, hga, oo'⟩, bb', hb5⟩
            try go_wp2_with fail
            refine hK.out _ _ ?_ (fun hHeld => ?_)
            · exact CK.out _ bb'
            clear hK K
            have hne := Nat.lt_of_lt_of_le RR.two.blk hga
            have oo0 := oo'
            replace RR := RR.keep hb5
            clear bb hb5
            have bb := bb'
            clear bb'
            try simp only [Act.put, List.setIfInBounds_toArray, List.set_cons_zero, List.set_cons_succ]
            have bb0 := bb
            refine wpAnyH_ready (rs := [8]) (by kernel_rfl) (by simp) ?_
            refine AllReadyH.cons (o := { dst := none, op := Op.store 31 (Operand.tmp 8) (Operand.tmp 38), type := 0, pos := "exact.go:4512", after := #[{ on := 7, ground := Ground.data }, { on := 6, ground := Ground.data }, { on := 6, ground := Ground.chain }, { on := 0, ground := Ground.phase }, { on := 1, ground := Ground.phase }, { on := 2, ground := Ground.phase }, { on := 3, ground := Ground.phase }, { on := 4, ground := Ground.phase }, { on := 5, ground := Ground.phase }, { on := 6, ground := Ground.phase }, { on := 7, ground := Ground.phase }], guard := none }) rfl (fun K hK => ?_) AllReadyH.nil
            obtain ⟨q8, q0, q1, q2, g0, g1, g2⟩ := id RR
            go_simp
            refine hK.out _ _ ?_ (fun hHeld => ?_)
            · first | exact CK.out _ (((bb.setCell hB0 _).setCell hB0 _).setCell hB0 _) | exact CK.out _ (keepB bb0 (alloc_below _ _))
            clear hK K
            refine wpAnyH_done (by kernel_rfl) ?_ _
            go_wp2_with fail
            go_meet
            first
              | exact ⟨_, lo', _, g1', d1', g2', d2', rfl, hidden (((RR.set0 _).set1 _).set2 _).two, hidden (((oo'.out.grown (setCell_grownT _ _ _ _) (Or.inl hne)).grown (setCell_grownT _ _ _ _) (Or.inl hne)).grown (setCell_grownT _ _ _ _) (Or.inl hne)), ((bb.setCell hB0 _).setCell hB0 _).setCell hB0 _⟩
              | exact ⟨_, lo', _, g1', d1', g2', d2', rfl, hidden (Three.new _ _ _ _ _), hidden (oo0.out.keep (alloc_below _ _)), keepB bb0 (alloc_below _ _)⟩
        · go_simp
          have RR := Bn3.new v1 (.int .i64 0) (.slice none 0 0) (.slice none 0 0) 31
          have hB0 := bb.size
          refine hK.out _ _ ?_ (fun hHeld => ?_)
          · exact CK.out _ (keepB bb (alloc_below _ _))
          clear hK K
          replace bb := keepB bb (alloc_below _ (.cells #[.int .i64 0, .slice none 0 0, .slice none 0 0] 31))
          replace fs := fs.keep (alloc_below _ (.cells #[.int .i64 0, .slice none 0 0, .slice none 0 0] 31))
          replace fva := fva.keep (alloc_below _ (.cells #[.int .i64 0, .slice none 0 0, .slice none 0 0] 31))
          replace fta := fta.keep (alloc_below _ (.cells #[.int .i64 0, .slice none 0 0, .slice none 0 0] 31))
          try simp only [Act.put, List.setIfInBounds_toArray, List.set_cons_zero, List.set_cons_succ]
          refine wpAnyH_ready (rs := [5]) (by kernel_rfl) (by simp) ?_
          refine AllReadyH.cons (o := { dst := some 37, op := Op.call { callee := Callee.value (Operand.func 22), args := #[Operand.tmp 36], argTypes := #[45] }, type := 29, pos := "exact.go:4512", after := #[{ on := 4, ground := Ground.data }, { on := 3, ground := Ground.chain }], guard := none }) rfl (fun K hK => ?_) AllReadyH.nil
          go_simp
          go_at_call 22; with_reducible refine (S2.out _ bb).mono ?_; rintro e v2 ⟨g1b', g2b', rfl, bb', yfvb, yftb, hb5⟩
          try go_wp2_with fail
          refine hK.out _ _ ?_ (fun hHeld => ?_)
          · exact CK.out _ bb'
          clear hK K
          replace RR := RR.keep hb5
          replace fs := fs.keep hb5
          replace fva := fva.keep hb5
          replace fta := fta.keep hb5
          have fvb := yfvb
          clear yfvb
          have ftb := yftb
          clear yftb
          clear bb hb5
          have bb := bb'
          clear bb'
          try simp only [Act.put, List.setIfInBounds_toArray, List.set_cons_zero, List.set_cons_succ]
          refine wpAnyH_ready (rs := [6]) (by kernel_rfl) (by simp) ?_
          refine AllReadyH.cons (o := { dst := some 38, op := Op.call { callee := Callee.value (Operand.func 21), args := #[Operand.tmp 33, Operand.tmp 35, Operand.tmp 37], argTypes := #[35, 29, 29] }, type := 31, pos := "exact.go:4512", after := #[{ on := 1, ground := Ground.data }, { on := 3, ground := Ground.data }, { on := 5, ground := Ground.data }, { on := 5, ground := Ground.chain }], guard := none }) rfl (fun K hK => ?_) AllReadyH.nil
          go_simp
          go_at_call 21; with_reducible refine (SF.out _ _ _ _ _ _ bb fs fva fta fvb ftb).mono ?_; rintro e v3 ⟨⟨lo', g1', d1', g2', d2', rfl, hga, oo'⟩, bb', hb5⟩
          try go_wp2_with fail
          refine hK.out _ _ ?_ (fun hHeld => ?_)
          · exact CK.out _ bb'
          clear hK K
          have hne := Nat.lt_of_lt_of_le RR.two.blk hga
          have oo0 := oo'
          replace RR := RR.keep hb5
          clear bb hb5
          have bb := bb'
          clear bb'
          try simp only [Act.put, List.setIfInBounds_toArray, List.set_cons_zero, List.set_cons_succ]
          have bb0 := bb
          refine wpAnyH_ready (rs := [8]) (by kernel_rfl) (by simp) ?_
          refine AllReadyH.cons (o := { dst := none, op := Op.store 31 (Operand.tmp 8) (Operand.tmp 38), type := 0, pos := "exact.go:4512", after := #[{ on := 7, ground := Ground.data }, { on := 6, ground := Ground.data }, { on := 6, ground := Ground.chain }, { on := 0, ground := Ground.phase }, { on := 1, ground := Ground.phase }, { on := 2, ground := Ground.phase }, { on := 3, ground := Ground.phase }, { on := 4, ground := Ground.phase }, { on := 5, ground := Ground.phase }, { on := 6, ground := Ground.phase }, { on := 7, ground := Ground.phase }], guard := none }) rfl (fun K hK => ?_) AllReadyH.nil
          obtain ⟨q8, q0, q1, q2, g0, g1, g2⟩ := id RR
          go_simp
          refine hK.out _ _ ?_ (fun hHeld => ?_)
          · first | exact CK.out _ (((bb.setCell hB0 _).setCell hB0 _).setCell hB0 _) | exact CK.out _ (keepB bb0 (alloc_below _ _))
          clear hK K
          refine wpAnyH_done (by kernel_rfl) ?_ _
          go_wp2_with fail
          go_meet
          first
            | exact ⟨_, lo', _, g1', d1', g2', d2', rfl, hidden (((RR.set0 _).set1 _).set2 _).two, hidden (((oo'.out.grown (setCell_grownT _ _ _ _) (Or.inl hne)).grown (setCell_grownT _ _ _ _) (Or.inl hne)).grown (setCell_grownT _ _ _ _) (Or.inl hne)), ((bb.setCell hB0 _).setCell hB0 _).setCell hB0 _⟩
            | exact ⟨_, lo', _, g1', d1', g2', d2', rfl, hidden (Three.new _ _ _ _ _), hidden (oo0.out.keep (alloc_below _ _)), keepB bb0 (alloc_below _ _)⟩
      · go_simp
        have RR := Bn3.new v0 (.int .i64 0) (.slice none 0 0) (.slice none 0 0) 31
        have hB0 := bb.size
        refine hK.out _ _ ?_ (fun hHeld => ?_)
        · exact CK.out _ (keepB bb (alloc_below _ _))
        clear hK K
        replace bb := keepB bb (alloc_below _ (.cells #[.int .i64 0, .slice none 0 0, .slice none 0 0] 31))
        replace fs := fs.keep (alloc_below _ (.cells #[.int .i64 0, .slice none 0 0, .slice none 0 0] 31))
        try simp only [Act.put, List.setIfInBounds_toArray, List.set_cons_zero, List.set_cons_succ]
        refine wpAnyH_ready (rs := [3]) (by kernel_rfl) (by simp) ?_
        refine AllReadyH.cons (o := { dst := some 35, op := Op.call { callee := Callee.value (Operand.func 22), args := #[Operand.tmp 34], argTypes := #[45] }, type := 29, pos := "exact.go:4512", after := #[{ on := 2, ground := Ground.data }, { on := 1, ground := Ground.chain }], guard := none }) rfl (fun K hK => ?_) AllReadyH.nil
        go_simp
        go_at_call 22; with_reducible refine (S1.out _ bb).mono ?_; rintro e v1 ⟨g1a', g2a', rfl, bb', yfva, yfta, hb5⟩
        try go_wp2_with fail
        refine hK.out _ _ ?_ (fun hHeld => ?_)
        · exact CK.out _ bb'
        clear hK K
        replace RR := RR.keep hb5
        replace fs := fs.keep hb5
        have fva := yfva
        clear yfva
        have fta := yfta
        clear yfta
        clear bb hb5
        have bb := bb'
        clear bb'
        try simp only [Act.put, List.setIfInBounds_toArray, List.set_cons_zero, List.set_cons_succ]
        refine wpAnyH_ready (rs := [5]) (by kernel_rfl) (by simp) ?_
        refine AllReadyH.cons (o := { dst := some 37, op := Op.call { callee := Callee.value (Operand.func 22), args := #[Operand.tmp 36], argTypes := #[45] }, type := 29, pos := "exact.go:4512", after := #[{ on := 4, ground := Ground.data }, { on := 3, ground := Ground.chain }], guard := none }) rfl (fun K hK => ?_) AllReadyH.nil
        go_simp
        go_at_call 22; with_reducible refine (S2.out _ bb).mono ?_; rintro e v2 ⟨g1b', g2b', rfl, bb', yfvb, yftb, hb5⟩
        try go_wp2_with fail
        refine hK.out _ _ ?_ (fun hHeld => ?_)
        · exact CK.out _ bb'
        clear hK K
        replace RR := RR.keep hb5
        replace fs := fs.keep hb5
        replace fva := fva.keep hb5
        replace fta := fta.keep hb5
        have fvb := yfvb
        clear yfvb
        have ftb := yftb
        clear yftb
        clear bb hb5
        have bb := bb'
        clear bb'
        try simp only [Act.put, List.setIfInBounds_toArray, List.set_cons_zero, List.set_cons_succ]
        refine wpAnyH_ready (rs := [6]) (by kernel_rfl) (by simp) ?_
        refine AllReadyH.cons (o := { dst := some 38, op := Op.call { callee := Callee.value (Operand.func 21), args := #[Operand.tmp 33, Operand.tmp 35, Operand.tmp 37], argTypes := #[35, 29, 29] }, type := 31, pos := "exact.go:4512", after := #[{ on := 1, ground := Ground.data }, { on := 3, ground := Ground.data }, { on := 5, ground := Ground.data }, { on := 5, ground := Ground.chain }], guard := none }) rfl (fun K hK => ?_) AllReadyH.nil
        go_simp
        go_at_call 21; with_reducible refine (SF.out _ _ _ _ _ _ bb fs fva fta fvb ftb).mono ?_; rintro e v3 ⟨⟨lo', g1', d1', g2', d2', rfl, hga, oo'⟩, bb', hb5⟩
        try go_wp2_with fail
        refine hK.out _ _ ?_ (fun hHeld => ?_)
        · exact CK.out _ bb'
        clear hK K
        have hne := Nat.lt_of_lt_of_le RR.two.blk hga
        have oo0 := oo'
        replace RR := RR.keep hb5
        clear bb hb5
        have bb := bb'
        clear bb'
        try simp only [Act.put, List.setIfInBounds_toArray, List.set_cons_zero, List.set_cons_succ]
        have bb0 := bb
        refine wpAnyH_ready (rs := [8]) (by kernel_rfl) (by simp) ?_
        refine AllReadyH.cons (o := { dst := none, op := Op.store 31 (Operand.tmp 8) (Operand.tmp 38), type := 0, pos := "exact.go:4512", after := #[{ on := 7, ground := Ground.data }, { on := 6, ground := Ground.data }, { on := 6, ground := Ground.chain }, { on := 0, ground := Ground.phase }, { on := 1, ground := Ground.phase }, { on := 2, ground := Ground.phase }, { on := 3, ground := Ground.phase }, { on := 4, ground := Ground.phase }, { on := 5, ground := Ground.phase }, { on := 6, ground := Ground.phase }, { on := 7, ground := Ground.phase }], guard := none }) rfl (fun K hK => ?_) AllReadyH.nil
        obtain ⟨q8, q0, q1, q2, g0, g1, g2⟩ := id RR
        go_simp
        refine hK.out _ _ ?_ (fun hHeld => ?_)
        · first | exact CK.out _ (((bb.setCell hB0 _).setCell hB0 _).setCell hB0 _) | exact CK.out _ (keepB bb0 (alloc_below _ _))
        clear hK K
        refine wpAnyH_done (by kernel_rfl) ?_ _
        go_wp2_with fail
        go_meet
        first
          | exact ⟨_, lo', _, g1', d1', g2', d2', rfl, hidden (((RR.set0 _).set1 _).set2 _).two, hidden (((oo'.out.grown (setCell_grownT _ _ _ _) (Or.inl hne)).grown (setCell_grownT _ _ _ _) (Or.inl hne)).grown (setCell_grownT _ _ _ _) (Or.inl hne)), ((bb.setCell hB0 _).setCell hB0 _).setCell hB0 _⟩
          | exact ⟨_, lo', _, g1', d1', g2', d2', rfl, hidden (Three.new _ _ _ _ _), hidden (oo0.out.keep (alloc_below _ _)), keepB bb0 (alloc_below _ _)⟩
    · go_simp
      have RR := (Bn3.new w3 (.int .i64 0) (.slice none 0 0) (.slice none 0 0) 31).keep (Below.refl _ _).drew
      have hB0 := bb.size
      refine hK.out _ _ ?_ (fun hHeld => ?_)
      · exact CK.out _ (alloc_below _ _).drew
      clear hK K
      replace bb := (alloc_below w3 (.cells #[.int .i64 0, .slice none 0 0, .slice none 0 0] 31)).drew
      try simp only [Act.put, List.setIfInBounds_toArray, List.set_cons_zero, List.set_cons_succ]
      refine wpAnyH_ready (rs := [1]) (by kernel_rfl) (by simp) ?_
      refine AllReadyH.cons (o := { dst := some 33, op := Op.call { callee := Callee.value (Operand.func 8), args := #[Operand.tmp 32], argTypes := #[24] }, type := 35, pos := "exact.go:4512", after := #[{ on := 0, ground := Ground.data }], guard := none }) rfl (fun K hK => ?_) AllReadyH.nil
      go_simp
      go_at_call 8; with_reducible refine (S0.out _ bb).mono ?_; rintro e v0 ⟨g', rfl, bb', yfs, hb5⟩
      try go_wp2_with fail
      refine hK.out _ _ ?_ (fun hHeld => ?_)
      · exact CK.out _ bb'
      clear hK K
      replace RR := RR.keep hb5
      have fs := yfs
      clear yfs
      clear bb hb5
      have bb := bb'
      clear bb'
      try simp only [Act.put, List.setIfInBounds_toArray, List.set_cons_zero, List.set_cons_succ]
      refine wpAnyH_ready (rs := [3]) (by kernel_rfl) (by simp) ?_
      refine AllReadyH.cons (o := { dst := some 35, op := Op.call { callee := Callee.value (Operand.func 22), args := #[Operand.tmp 34], argTypes := #[45] }, type := 29, pos := "exact.go:4512", after := #[{ on := 2, ground := Ground.data }, { on := 1, ground := Ground.chain }], guard := none }) rfl (fun K hK => ?_) AllReadyH.nil
      go_simp
      go_at_call 22; with_reducible refine (S1.out _ bb).mono ?_; rintro e v1 ⟨g1a', g2a', rfl, bb', yfva, yfta, hb5⟩
      try go_wp2_with fail
      refine hK.out _ _ ?_ (fun hHeld => ?_)
      · exact CK.out _ bb'
      clear hK K
      replace RR := RR.keep hb5
      replace fs := fs.keep hb5
      have fva := yfva
      clear yfva
      have fta := yfta
      clear yfta
      clear bb hb5
      have bb := bb'
      clear bb'
      try simp only [Act.put, List.setIfInBounds_toArray, List.set_cons_zero, List.set_cons_succ]
      refine wpAnyH_ready (rs := [5]) (by kernel_rfl) (by simp) ?_
      refine AllReadyH.cons (o := { dst := some 37, op := Op.call { callee := Callee.value (Operand.func 22), args := #[Operand.tmp 36], argTypes := #[45] }, type := 29, pos := "exact.go:4512", after := #[{ on := 4, ground := Ground.data }, { on := 3, ground := Ground.chain }], guard := none }) rfl (fun K hK => ?_) AllReadyH.nil
      go_simp
      go_at_call 22; with_reducible refine (S2.out _ bb).mono ?_; rintro e v2 ⟨g1b', g2b', rfl, bb', yfvb, yftb, hb5⟩
      try go_wp2_with fail
      refine hK.out _ _ ?_ (fun hHeld => ?_)
      · exact CK.out _ bb'
      clear hK K
      replace RR := RR.keep hb5
      replace fs := fs.keep hb5
      replace fva := fva.keep hb5
      replace fta := fta.keep hb5
      have fvb := yfvb
      clear yfvb
      have ftb := yftb
      clear yftb
      clear bb hb5
      have bb := bb'
      clear bb'
      try simp only [Act.put, List.setIfInBounds_toArray, List.set_cons_zero, List.set_cons_succ]
      refine wpAnyH_ready (rs := [6]) (by kernel_rfl) (by simp) ?_
      refine AllReadyH.cons (o := { dst := some 38, op := Op.call { callee := Callee.value (Operand.func 21), args := #[Operand.tmp 33, Operand.tmp 35, Operand.tmp 37], argTypes := #[35, 29, 29] }, type := 31, pos := "exact.go:4512", after := #[{ on := 1, ground := Ground.data }, { on := 3, ground := Ground.data }, { on := 5, ground := Ground.data }, { on := 5, ground := Ground.chain }], guard := none }) rfl (fun K hK => ?_) AllReadyH.nil
      go_simp
      go_at_call 21; with_reducible refine (SF.out _ _ _ _ _ _ bb fs fva fta fvb ftb).mono ?_; rintro e v3 ⟨⟨lo', g1', d1', g2', d2', rfl, hga, oo'⟩, bb', hb5⟩
      try go_wp2_with fail
      refine hK.out _ _ ?_ (fun hHeld => ?_)
      · exact CK.out _ bb'
      clear hK K
      have hne := Nat.lt_of_lt_of_le RR.two.blk hga
      have oo0 := oo'
      replace RR := RR.keep hb5
      clear bb hb5
      have bb := bb'
      clear bb'
      try simp only [Act.put, List.setIfInBounds_toArray, List.set_cons_zero, List.set_cons_succ]
      have bb0 := bb
      refine wpAnyH_ready (rs := [8]) (by kernel_rfl) (by simp) ?_
      refine AllReadyH.cons (o := { dst := none, op := Op.store 31 (Operand.tmp 8) (Operand.tmp 38), type := 0, pos := "exact.go:4512", after := #[{ on := 7, ground := Ground.data }, { on := 6, ground := Ground.data }, { on := 6, ground := Ground.chain }, { on := 0, ground := Ground.phase }, { on := 1, ground := Ground.phase }, { on := 2, ground := Ground.phase }, { on := 3, ground := Ground.phase }, { on := 4, ground := Ground.phase }, { on := 5, ground := Ground.phase }, { on := 6, ground := Ground.phase }, { on := 7, ground := Ground.phase }], guard := none }) rfl (fun K hK => ?_) AllReadyH.nil
      obtain ⟨q8, q0, q1, q2, g0, g1, g2⟩ := id RR
      go_simp
      refine hK.out _ _ ?_ (fun hHeld => ?_)
      · first | exact CK.out _ (((bb.setCell hB0 _).setCell hB0 _).setCell hB0 _) | exact CK.out _ (keepB bb0 (alloc_below _ _))
      clear hK K
      refine wpAnyH_done (by kernel_rfl) ?_ _
      go_wp2_with fail
      go_meet
      first
        | exact ⟨_, lo', _, g1', d1', g2', d2', rfl, hidden (((RR.set0 _).set1 _).set2 _).two, hidden (((oo'.out.grown (setCell_grownT _ _ _ _) (Or.inl hne)).grown (setCell_grownT _ _ _ _) (Or.inl hne)).grown (setCell_grownT _ _ _ _) (Or.inl hne)), ((bb.setCell hB0 _).setCell hB0 _).setCell hB0 _⟩
        | exact ⟨_, lo', _, g1', d1', g2', d2', rfl, hidden (Three.new _ _ _ _ _), hidden (oo0.out.keep (alloc_below _ _)), keepB bb0 (alloc_below _ _)⟩
  case rest =>
    rename World => w4
    obtain ⟨R0b, low, hiw, gw1, dw1, gw2, dw2, rfl, R0, x, hb⟩ := hcut
    replace D0 := hidden (D0.out.keep hb)
    replace B := hidden (keepB B.out hb)
    replace Da := hidden (Da.out.keep hb)
    replace Db := hidden (Db.out.keep hb)
    replace H := hidden (H.out.keep hb)
    replace H1a := hidden (H1a.out.keep hb)
    replace H2a := hidden (H2a.out.keep hb)
    replace H1b := hidden (H1b.out.keep hb)
    replace H2b := hidden (H2b.out.keep hb)
    have LW := x
    clear x
    clear d0 e0 e1 f0 f1 hb CK SF S0 S1 S2
    have d0 := D0.out.c0
    go_wp2_with fail
    have BSx := hidden B.out.size
    with_reducible refine (toSignature_src p n c N A _ H.out HK.out).mono ?_
    rintro e w5 ⟨gx, rfl, hgx, hs, hb⟩
    have L_D0_Q := hidden (Nat.lt_of_lt_of_le D0.out.blk hgx)
    have L_Da_Q := hidden (Nat.lt_of_lt_of_le Da.out.blk hgx)
    have L_Db_Q := hidden (Nat.lt_of_lt_of_le Db.out.blk hgx)
    have L_R0_Q := hidden (Nat.lt_of_lt_of_le R0.out.blk hgx)
    have L_LW_Q := hidden (Nat.le_trans LW.out.top hgx)
    replace D0 := hidden (D0.out.keep hb)
    replace B := hidden (keepB B.out hb)
    replace Da := hidden (Da.out.keep hb)
    replace Db := hidden (Db.out.keep hb)
    replace H := hidden (H.out.keep hb)
    replace H1a := hidden (H1a.out.keep hb)
    replace H2a := hidden (H2a.out.keep hb)
    replace H1b := hidden (H1b.out.keep hb)
    replace H2b := hidden (H2b.out.keep hb)
    replace R0 := hidden (R0.out.keep hb)
    replace LW := hidden (LW.out.keep hb)
    have Q := hidden (hs)
    clear d0 hb
    have GX := hidden (Nat.le_trans BSx.out hgx)
    clear hs hgx BSx
    have L_LW_X := hidden (Nat.le_trans LW.out.top (Nat.le_refl _))
    have L_Q_X := hidden (Nat.lt_of_lt_of_le Q.out.lt (Nat.le_refl _))
    have hb := alloc_below w5 (.cells #[.slice (some ⟨gx, 0, none⟩) n n] 35)
    replace D0 := hidden (D0.out.keep hb)
    replace B := hidden (keepB B.out hb)
    replace Da := hidden (Da.out.keep hb)
    replace Db := hidden (Db.out.keep hb)
    replace H := hidden (H.out.keep hb)
    replace H1a := hidden (H1a.out.keep hb)
    replace H2a := hidden (H2a.out.keep hb)
    replace H1b := hidden (H1b.out.keep hb)
    replace H2b := hidden (H2b.out.keep hb)
    replace R0 := hidden (R0.out.keep hb)
    replace LW := hidden (LW.out.keep hb)
    replace Q := hidden (Q.out.keep hb)
    clear hb
    have X := hidden (One.new w5 (.slice (some ⟨gx, 0, none⟩) n n) 35)
    have BSx := hidden B.out.size
    have e0 := Da.out.c0
    have e1 := Da.out.c1
    go_wp2_with fail
    with_reducible refine (toBinding_own p1a m1a c1a L1a p2a m2a c2a D2a _ H1a.out H2a.out M1a.out M2a.out).mono ?_
    rintro e w6 ⟨gya, gza, rfl, hs, hb⟩
    have L_D0_BB := hidden (Nat.lt_of_lt_of_le D0.out.blk (Nat.le_refl _))
    have L_Da_BB := hidden (Nat.lt_of_lt_of_le Da.out.blk (Nat.le_refl _))
    have L_Db_BB := hidden (Nat.lt_of_lt_of_le Db.out.blk (Nat.le_refl _))
    have L_R0_BB := hidden (Nat.lt_of_lt_of_le R0.out.blk (Nat.le_refl _))
    have L_LW_BB := hidden (Nat.le_trans LW.out.top (Nat.le_refl _))
    have L_Q_BB := hidden (Nat.lt_of_lt_of_le Q.out.lt (Nat.le_refl _))
    have L_X_BB := hidden (Nat.lt_of_lt_of_le X.out.blk (Nat.le_refl _))
    replace D0 := hidden (D0.out.keep hb)
    replace B := hidden (keepB B.out hb)
    replace Da := hidden (Da.out.keep hb)
    replace Db := hidden (Db.out.keep hb)
    replace H := hidden (H.out.keep hb)
    replace H1a := hidden (H1a.out.keep hb)
    replace H2a := hidden (H2a.out.keep hb)
    replace H1b := hidden (H1b.out.keep hb)
    replace H2b := hidden (H2b.out.keep hb)
    replace R0 := hidden (R0.out.keep hb)
    replace LW := hidden (LW.out.keep hb)
    replace Q := hidden (Q.out.keep hb)
    replace X := hidden (X.out.keep hb)
    have BB := hidden (hs)
    clear e0 e1 hb
    have GBB := BSx
    clear hs BSx
    have L_LW_Y := hidden (Nat.le_trans LW.out.top (Nat.le_refl _))
    have L_Q_Y := hidden (Nat.lt_of_lt_of_le Q.out.lt (Nat.le_refl _))
    have L_BB_Y := hidden (Nat.le_trans BB.out.top (Nat.le_refl _))
    have hb := alloc_below w6 (.cells #[.slice (some ⟨gya, 0, none⟩) m1a m1a, .slice (some ⟨gza, 0, none⟩) m2a m2a] 29)
    replace D0 := hidden (D0.out.keep hb)
    replace B := hidden (keepB B.out hb)
    replace Da := hidden (Da.out.keep hb)
    replace Db := hidden (Db.out.keep hb)
    replace H := hidden (H.out.keep hb)
    replace H1a := hidden (H1a.out.keep hb)
    replace H2a := hidden (H2a.out.keep hb)
    replace H1b := hidden (H1b.out.keep hb)
    replace H2b := hidden (H2b.out.keep hb)
    replace R0 := hidden (R0.out.keep hb)
    replace LW := hidden (LW.out.keep hb)
    replace Q := hidden (Q.out.keep hb)
    replace X := hidden (X.out.keep hb)
    replace BB := hidden (BB.out.keep hb)
    clear hb
    have Y := hidden (Two.new w6 (.slice (some ⟨gya, 0, none⟩) m1a m1a) (.slice (some ⟨gza, 0, none⟩) m2a m2a) 29)
    have BSx := hidden B.out.size
    have e0 := Db.out.c0
    have e1 := Db.out.c1
    go_wp2_with fail
    with_reducible refine (toBinding_own p1b m1b c1b L1b p2b m2b c2b D2b _ H1b.out H2b.out M1b.out M2b.out).mono ?_
    rintro e w7 ⟨gyb, gzb, rfl, hs, hb⟩
    have L_D0_BC := hidden (Nat.lt_of_lt_of_le D0.out.blk (Nat.le_refl _))
    have L_Da_BC := hidden (Nat.lt_of_lt_of_le Da.out.blk (Nat.le_refl _))
    have L_Db_BC := hidden (Nat.lt_of_lt_of_le Db.out.blk (Nat.le_refl _))
    have L_R0_BC := hidden (Nat.lt_of_lt_of_le R0.out.blk (Nat.le_refl _))
    have L_LW_BC := hidden (Nat.le_trans LW.out.top (Nat.le_refl _))
    have L_Q_BC := hidden (Nat.lt_of_lt_of_le Q.out.lt (Nat.le_refl _))
    have L_X_BC := hidden (Nat.lt_of_lt_of_le X.out.blk (Nat.le_refl _))
    have L_BB_BC := hidden (Nat.le_trans BB.out.top (Nat.le_refl _))
    have L_Y_BC := hidden (Nat.lt_of_lt_of_le Y.out.blk (Nat.le_refl _))
    replace D0 := hidden (D0.out.keep hb)
    replace B := hidden (keepB B.out hb)
    replace Da := hidden (Da.out.keep hb)
    replace Db := hidden (Db.out.keep hb)
    replace H := hidden (H.out.keep hb)
    replace H1a := hidden (H1a.out.keep hb)
    replace H2a := hidden (H2a.out.keep hb)
    replace H1b := hidden (H1b.out.keep hb)
    replace H2b := hidden (H2b.out.keep hb)
    replace R0 := hidden (R0.out.keep hb)
    replace LW := hidden (LW.out.keep hb)
    replace Q := hidden (Q.out.keep hb)
    replace X := hidden (X.out.keep hb)
    replace BB := hidden (BB.out.keep hb)
    replace Y := hidden (Y.out.keep hb)
    have BC := hidden (hs)
    clear e0 e1 hb
    have GBC := BSx
    clear hs BSx
    have L_LW_V := hidden (Nat.le_trans LW.out.top (Nat.le_refl _))
    have L_Q_V := hidden (Nat.lt_of_lt_of_le Q.out.lt (Nat.le_refl _))
    have L_BB_V := hidden (Nat.le_trans BB.out.top (Nat.le_refl _))
    have L_BC_V := hidden (Nat.le_trans BC.out.top (Nat.le_refl _))
    have hb := alloc_below w7 (.cells #[.slice (some ⟨gyb, 0, none⟩) m1b m1b, .slice (some ⟨gzb, 0, none⟩) m2b m2b] 29)
    replace D0 := hidden (D0.out.keep hb)
    replace B := hidden (keepB B.out hb)
    replace Da := hidden (Da.out.keep hb)
    replace Db := hidden (Db.out.keep hb)
    replace H := hidden (H.out.keep hb)
    replace H1a := hidden (H1a.out.keep hb)
    replace H2a := hidden (H2a.out.keep hb)
    replace H1b := hidden (H1b.out.keep hb)
    replace H2b := hidden (H2b.out.keep hb)
    replace R0 := hidden (R0.out.keep hb)
    replace LW := hidden (LW.out.keep hb)
    replace Q := hidden (Q.out.keep hb)
    replace X := hidden (X.out.keep hb)
    replace BB := hidden (BB.out.keep hb)
    replace Y := hidden (Y.out.keep hb)
    replace BC := hidden (BC.out.keep hb)
    clear hb
    have V := hidden (Two.new w7 (.slice (some ⟨gyb, 0, none⟩) m1b m1b) (.slice (some ⟨gzb, 0, none⟩) m2b m2b) 29)
    have x0 := X.out.c0
    have y0 := Y.out.c0
    have y1 := Y.out.c1
    have v0 := V.out.c0
    have v1 := V.out.c1
    go_wp2_with fail
    have BSx := hidden B.out.size
    with_reducible refine (IM.out _ _ _ _ _ _ (Q.out.syms HK.out.big HK.out.fits) BB.out.vars.ints BB.out.terms.mats BC.out.vars.ints BC.out.terms.mats HK.out M1a.out M2a.out M1b.out M2b.out).mono ?_
    rintro e w8 ⟨ha, hb⟩
    rcases ha with ⟨ha, -⟩ | ⟨-, -, lob, gb1, db1, gb2, db2, rfl, hlo, ho⟩
    · exact absurd ha (by have h1 := HC0.out.1; have h2 := HC0.out.2; intro h; rcases h with h | h; exact h h1; omega)
    have L_D0_LG := hidden (Nat.lt_of_lt_of_le D0.out.blk hlo)
    have L_Da_LG := hidden (Nat.lt_of_lt_of_le Da.out.blk hlo)
    have L_Db_LG := hidden (Nat.lt_of_lt_of_le Db.out.blk hlo)
    have L_R0_LG := hidden (Nat.lt_of_lt_of_le R0.out.blk hlo)
    have L_LW_LG := hidden (Nat.le_trans LW.out.top hlo)
    have L_Q_LG := hidden (Nat.lt_of_lt_of_le Q.out.lt hlo)
    have L_X_LG := hidden (Nat.lt_of_lt_of_le X.out.blk hlo)
    have L_BB_LG := hidden (Nat.le_trans BB.out.top hlo)
    have L_Y_LG := hidden (Nat.lt_of_lt_of_le Y.out.blk hlo)
    have L_BC_LG := hidden (Nat.le_trans BC.out.top hlo)
    have L_V_LG := hidden (Nat.lt_of_lt_of_le V.out.blk hlo)
    have GBx := hidden hlo
    replace D0 := hidden (D0.out.keep hb)
    replace B := hidden (keepB B.out hb)
    replace Da := hidden (Da.out.keep hb)
    replace Db := hidden (Db.out.keep hb)
    replace H := hidden (H.out.keep hb)
    replace H1a := hidden (H1a.out.keep hb)
    replace H2a := hidden (H2a.out.keep hb)
    replace H1b := hidden (H1b.out.keep hb)
    replace H2b := hidden (H2b.out.keep hb)
    replace R0 := hidden (R0.out.keep hb)
    replace LW := hidden (LW.out.keep hb)
    replace Q := hidden (Q.out.keep hb)
    replace X := hidden (X.out.keep hb)
    replace BB := hidden (BB.out.keep hb)
    replace Y := hidden (Y.out.keep hb)
    replace BC := hidden (BC.out.keep hb)
    replace V := hidden (V.out.keep hb)
    have LG := hidden (ho)
    clear x0 y0 y1 v0 v1 hb ho hlo
    have L_LW_R1 := hidden (Nat.le_trans LW.out.top (Nat.le_refl _))
    have L_Q_R1 := hidden (Nat.lt_of_lt_of_le Q.out.lt (Nat.le_refl _))
    have L_BB_R1 := hidden (Nat.le_trans BB.out.top (Nat.le_refl _))
    have L_BC_R1 := hidden (Nat.le_trans BC.out.top (Nat.le_refl _))
    have L_LG_R1 := hidden (Nat.le_trans LG.out.top (Nat.le_refl _))
    have hb := alloc_below w8 (.cells #[.int .i64 0, .slice (some ⟨gb1, 0, none⟩) (cR M) db1, .slice (some ⟨gb2, 0, none⟩) (cR M) db2] 31)
    replace D0 := hidden (D0.out.keep hb)
    replace B := hidden (keepB B.out hb)
    replace Da := hidden (Da.out.keep hb)
    replace Db := hidden (Db.out.keep hb)
    replace H := hidden (H.out.keep hb)
    replace H1a := hidden (H1a.out.keep hb)
    replace H2a := hidden (H2a.out.keep hb)
    replace H1b := hidden (H1b.out.keep hb)
    replace H2b := hidden (H2b.out.keep hb)
    replace R0 := hidden (R0.out.keep hb)
    replace LW := hidden (LW.out.keep hb)
    replace Q := hidden (Q.out.keep hb)
    replace X := hidden (X.out.keep hb)
    replace BB := hidden (BB.out.keep hb)
    replace Y := hidden (Y.out.keep hb)
    replace BC := hidden (BC.out.keep hb)
    replace V := hidden (V.out.keep hb)
    replace LG := hidden (LG.out.keep hb)
    clear hb
    have R1 := hidden (Three.new w8 (.int .i64 0) (.slice (some ⟨gb1, 0, none⟩) (cR M) db1) (.slice (some ⟨gb2, 0, none⟩) (cR M) db2) 31)
    have r00 := R0.out.c0
    have r01 := R0.out.c1
    have r02 := R0.out.c2
    have r10 := R1.out.c0
    have r11 := R1.out.c1
    have r12 := R1.out.c2
    go_wp2_with fail
    with_reducible refine (eqBdR_eq _ _ _ _ _ _ _ _ _ _ _ (cV M) (cnD M 12) _ LG.out.vars.ints LG.out.terms.mats LW.out.vars.ints LW.out.terms.mats (by have := HR12.out; omega) HKB.out).mono ?_
    rintro e w9 ⟨rfl, hb⟩
    replace D0 := hidden (D0.out.keep hb)
    replace B := hidden (keepB B.out hb)
    replace Da := hidden (Da.out.keep hb)
    replace Db := hidden (Db.out.keep hb)
    replace H := hidden (H.out.keep hb)
    replace H1a := hidden (H1a.out.keep hb)
    replace H2a := hidden (H2a.out.keep hb)
    replace H1b := hidden (H1b.out.keep hb)
    replace H2b := hidden (H2b.out.keep hb)
    replace R0 := hidden (R0.out.keep hb)
    replace LW := hidden (LW.out.keep hb)
    replace Q := hidden (Q.out.keep hb)
    replace X := hidden (X.out.keep hb)
    replace BB := hidden (BB.out.keep hb)
    replace Y := hidden (Y.out.keep hb)
    replace BC := hidden (BC.out.keep hb)
    replace V := hidden (V.out.keep hb)
    replace LG := hidden (LG.out.keep hb)
    replace R1 := hidden (R1.out.keep hb)
    clear r00 r01 r02 r10 r11 r12 hb
    have QS := hidden (Q.out.syms HK.out.big HK.out.fits)
    have S1 := hidden (show ∀ wc, Below w9.heap.size w9 wc → Calls Try.prog 8 #[.agg #[.slice p n c]] wc fun e w' => ∃ g, e = .returned (.agg #[.slice (some ⟨g, 0, none⟩) n n]) ∧ Below w9.heap.size w9 w' ∧ Syms w' g 0 n N A ∧ w'.cell? ⟨w5.heap.size, 0, none⟩ = some (.slice (some ⟨gx, 0, none⟩) n n) from fun wc hc => by
      refine (toSig_new p n c N A wc (H.out.keep hc) HK.out).mono ?_
      rintro e w' ⟨g, rfl, hg, hl, hs, hb⟩
      exact ⟨g, rfl, keepB hc hb, hs, (X.out.keep (keepB hc hb)).c0⟩)
    have S2 := hidden (show ∀ wc g, Below w9.heap.size w9 wc → Syms wc g 0 n N A → Calls Try.prog 12 #[.agg #[.slice (some ⟨gx, 0, none⟩) n n], .agg #[.slice (some ⟨g, 0, none⟩) n n]] wc fun e w' => e = .returned (.bool true) ∧ Below w9.heap.size w9 w' from fun wc g hc hm => by
      refine (eqSignature_eq gx 0 g 0 n n n N A wc (QS.out.keep hc) hm HK.out.most).mono ?_
      rintro e w' ⟨rfl, hb⟩
      exact ⟨rfl, keepB hc hb⟩)
    have x0 := X.out.c0
    have d0 := D0.out.c0
    go_wp2_with fail
    go_cut [57] (fun t wc => t = .bool false ∧ Below w9.heap.size w9 wc)
    case first =>
      go_region_with (first
        | (go_at_call 8; with_reducible refine (S1.out _ ?_).mono ?_; exact (Below.refl _ _).drew; rintro e v5 ⟨g5', rfl, b5', m5', d5'⟩)
        | (go_at_call 12; with_reducible refine (S2.out _ _ b5' m5').mono ?_; rintro e v6 ⟨rfl, b6'⟩))
      all_goals (go_wp2_with fail; go_meet)
      all_goals exact ⟨rfl, b6'⟩
    case rest =>
      rename World => w10
      obtain ⟨rfl, hb⟩ := hcut
      replace D0 := hidden (D0.out.keep hb)
      replace B := hidden (keepB B.out hb)
      replace Da := hidden (Da.out.keep hb)
      replace Db := hidden (Db.out.keep hb)
      replace H := hidden (H.out.keep hb)
      replace H1a := hidden (H1a.out.keep hb)
      replace H2a := hidden (H2a.out.keep hb)
      replace H1b := hidden (H1b.out.keep hb)
      replace H2b := hidden (H2b.out.keep hb)
      replace R0 := hidden (R0.out.keep hb)
      replace LW := hidden (LW.out.keep hb)
      replace Q := hidden (Q.out.keep hb)
      replace X := hidden (X.out.keep hb)
      replace BB := hidden (BB.out.keep hb)
      replace Y := hidden (Y.out.keep hb)
      replace BC := hidden (BC.out.keep hb)
      replace V := hidden (V.out.keep hb)
      replace LG := hidden (LG.out.keep hb)
      replace R1 := hidden (R1.out.keep hb)
      replace QS := hidden (QS.out.keep hb)
      clear x0 d0 hb S1 S2
      clear QS
      have QA := hidden BB.out.vars.ints
      have QB := hidden BB.out.terms.mats
      have S1 := hidden (show ∀ wc, Below w10.heap.size w10 wc → Calls Try.prog 22 #[.agg #[.slice p1a m1a c1a, .slice p2a m2a c2a]] wc fun e w' => ∃ h1 h2, e = .returned (.agg #[.slice (some ⟨h1, 0, none⟩) m1a m1a, .slice (some ⟨h2, 0, none⟩) m2a m2a]) ∧ Below w10.heap.size w10 w' ∧ Ints w' h1 0 m1a L1a ∧ Mats w' h2 0 m2a D2a ∧ w'.cell? ⟨w6.heap.size, 0, none⟩ = some (.slice (some ⟨gya, 0, none⟩) m1a m1a) ∧ w'.cell? ⟨w6.heap.size, 1, none⟩ = some (.slice (some ⟨gza, 0, none⟩) m2a m2a) from fun wc hc => by
        refine (toBinding_src p1a m1a c1a L1a p2a m2a c2a D2a wc (H1a.out.keep hc) (H2a.out.keep hc) M1a.out M2a.out).mono ?_
        rintro e w' ⟨h1, h2, rfl, hg, hl, hs1, hs2, hb⟩
        exact ⟨h1, h2, rfl, keepB hc hb, hs1.ints, hs2.mats, (Y.out.keep (keepB hc hb)).c0, (Y.out.keep (keepB hc hb)).c1⟩)
      have S2 := hidden (show ∀ wc h1 h2, Below w10.heap.size w10 wc → Ints wc h1 0 m1a L1a → Mats wc h2 0 m2a D2a → Calls Try.prog 24 #[.agg #[.slice (some ⟨gya, 0, none⟩) m1a m1a, .slice (some ⟨gza, 0, none⟩) m2a m2a], .agg #[.slice (some ⟨h1, 0, none⟩) m1a m1a, .slice (some ⟨h2, 0, none⟩) m2a m2a]] wc fun e w' => e = .returned (.bool true) ∧ Below w10.heap.size w10 w' from fun wc h1 h2 hc hm1 hm2 => by
        refine (eqBinding_eq _ _ _ _ _ _ _ _ _ _ _ _ _ _ L1a D2a wc (QA.out.keep hc) (QB.out.keep hc) hm1 hm2 M1a.out M2a.out).mono ?_
        rintro e w' ⟨rfl, hb⟩
        exact ⟨rfl, keepB hc hb⟩)
      have x0 := Y.out.c0
      have x1 := Y.out.c1
      have e0 := Da.out.c0
      have e1 := Da.out.c1
      go_wp2_with fail
      go_cut [62] (fun t wc => t = .bool false ∧ Below w10.heap.size w10 wc)
      case first =>
        go_region_with (first
          | (go_at_call 22; with_reducible refine (S1.out _ ?_).mono ?_; exact (Below.refl _ _).drew; rintro e v5 ⟨g5', g6', rfl, b5', m5', m6', d5', d6'⟩)
          | (go_at_call 24; with_reducible refine (S2.out _ _ _ b5' m5' m6').mono ?_; rintro e v6 ⟨rfl, b6'⟩))
        all_goals (go_wp2_with fail; go_meet)
        all_goals exact ⟨rfl, b6'⟩
      case rest =>
        rename World => w11
        obtain ⟨rfl, hb⟩ := hcut
        replace D0 := hidden (D0.out.keep hb)
        replace B := hidden (keepB B.out hb)
        replace Da := hidden (Da.out.keep hb)
        replace Db := hidden (Db.out.keep hb)
        replace H := hidden (H.out.keep hb)
        replace H1a := hidden (H1a.out.keep hb)
        replace H2a := hidden (H2a.out.keep hb)
        replace H1b := hidden (H1b.out.keep hb)
        replace H2b := hidden (H2b.out.keep hb)
        replace R0 := hidden (R0.out.keep hb)
        replace LW := hidden (LW.out.keep hb)
        replace Q := hidden (Q.out.keep hb)
        replace X := hidden (X.out.keep hb)
        replace BB := hidden (BB.out.keep hb)
        replace Y := hidden (Y.out.keep hb)
        replace BC := hidden (BC.out.keep hb)
        replace V := hidden (V.out.keep hb)
        replace LG := hidden (LG.out.keep hb)
        replace R1 := hidden (R1.out.keep hb)
        replace QA := hidden (QA.out.keep hb)
        replace QB := hidden (QB.out.keep hb)
        clear x0 x1 e0 e1 hb S1 S2
        clear QA QB
        have QA := hidden BC.out.vars.ints
        have QB := hidden BC.out.terms.mats
        have S1 := hidden (show ∀ wc, Below w11.heap.size w11 wc → Calls Try.prog 22 #[.agg #[.slice p1b m1b c1b, .slice p2b m2b c2b]] wc fun e w' => ∃ h1 h2, e = .returned (.agg #[.slice (some ⟨h1, 0, none⟩) m1b m1b, .slice (some ⟨h2, 0, none⟩) m2b m2b]) ∧ Below w11.heap.size w11 w' ∧ Ints w' h1 0 m1b L1b ∧ Mats w' h2 0 m2b D2b ∧ w'.cell? ⟨w7.heap.size, 0, none⟩ = some (.slice (some ⟨gyb, 0, none⟩) m1b m1b) ∧ w'.cell? ⟨w7.heap.size, 1, none⟩ = some (.slice (some ⟨gzb, 0, none⟩) m2b m2b) from fun wc hc => by
          refine (toBinding_src p1b m1b c1b L1b p2b m2b c2b D2b wc (H1b.out.keep hc) (H2b.out.keep hc) M1b.out M2b.out).mono ?_
          rintro e w' ⟨h1, h2, rfl, hg, hl, hs1, hs2, hb⟩
          exact ⟨h1, h2, rfl, keepB hc hb, hs1.ints, hs2.mats, (V.out.keep (keepB hc hb)).c0, (V.out.keep (keepB hc hb)).c1⟩)
        have S2 := hidden (show ∀ wc h1 h2, Below w11.heap.size w11 wc → Ints wc h1 0 m1b L1b → Mats wc h2 0 m2b D2b → Calls Try.prog 24 #[.agg #[.slice (some ⟨gyb, 0, none⟩) m1b m1b, .slice (some ⟨gzb, 0, none⟩) m2b m2b], .agg #[.slice (some ⟨h1, 0, none⟩) m1b m1b, .slice (some ⟨h2, 0, none⟩) m2b m2b]] wc fun e w' => e = .returned (.bool true) ∧ Below w11.heap.size w11 w' from fun wc h1 h2 hc hm1 hm2 => by
          refine (eqBinding_eq _ _ _ _ _ _ _ _ _ _ _ _ _ _ L1b D2b wc (QA.out.keep hc) (QB.out.keep hc) hm1 hm2 M1b.out M2b.out).mono ?_
          rintro e w' ⟨rfl, hb⟩
          exact ⟨rfl, keepB hc hb⟩)
        have x0 := V.out.c0
        have x1 := V.out.c1
        have e0 := Db.out.c0
        have e1 := Db.out.c1
        go_wp2_with fail
        go_cut [67] (fun t wc => t = .bool false ∧ Below w11.heap.size w11 wc)
        case first =>
          go_region_with (first
            | (go_at_call 22; with_reducible refine (S1.out _ ?_).mono ?_; exact (Below.refl _ _).drew; rintro e v5 ⟨g5', g6', rfl, b5', m5', m6', d5', d6'⟩)
            | (go_at_call 24; with_reducible refine (S2.out _ _ _ b5' m5' m6').mono ?_; rintro e v6 ⟨rfl, b6'⟩))
          all_goals (go_wp2_with fail; go_meet)
          all_goals exact ⟨rfl, b6'⟩
        case rest =>
          rename World => w12
          obtain ⟨rfl, hb⟩ := hcut
          replace D0 := hidden (D0.out.keep hb)
          replace B := hidden (keepB B.out hb)
          replace Da := hidden (Da.out.keep hb)
          replace Db := hidden (Db.out.keep hb)
          replace H := hidden (H.out.keep hb)
          replace H1a := hidden (H1a.out.keep hb)
          replace H2a := hidden (H2a.out.keep hb)
          replace H1b := hidden (H1b.out.keep hb)
          replace H2b := hidden (H2b.out.keep hb)
          replace R0 := hidden (R0.out.keep hb)
          replace LW := hidden (LW.out.keep hb)
          replace Q := hidden (Q.out.keep hb)
          replace X := hidden (X.out.keep hb)
          replace BB := hidden (BB.out.keep hb)
          replace Y := hidden (Y.out.keep hb)
          replace BC := hidden (BC.out.keep hb)
          replace V := hidden (V.out.keep hb)
          replace LG := hidden (LG.out.keep hb)
          replace R1 := hidden (R1.out.keep hb)
          replace QA := hidden (QA.out.keep hb)
          replace QB := hidden (QB.out.keep hb)
          clear x0 x1 e0 e1 hb S1 S2
          clear QA QB
          have x0 := X.out.c0
          go_wp2_with fail
          with_reducible refine (markSignature_z _ gx n n 1 N A _ Q.out HK.out.most (by omega) (by omega)).mono ?_
          rintro e w13 ⟨rfl, -, hg⟩
          replace B := hidden (grownB B.out hg GX.out)
          replace D0 := hidden (D0.out.grown hg (Nat.ne_of_lt L_D0_Q.out))
          replace Da := hidden (Da.out.grown hg (Nat.ne_of_lt L_Da_Q.out))
          replace Db := hidden (Db.out.grown hg (Nat.ne_of_lt L_Db_Q.out))
          replace H := hidden (Z.out.keep B.out)
          replace H1a := hidden (Z1a.out.keep B.out)
          replace H2a := hidden (Z2a.out.keep B.out)
          replace H1b := hidden (Z1b.out.keep B.out)
          replace H2b := hidden (Z2b.out.keep B.out)
          replace R0 := hidden (R0.out.grown hg (Nat.ne_of_lt L_R0_Q.out))
          replace LW := hidden (LW.out.grown hg (Or.inr L_LW_Q.out))
          replace X := hidden (X.out.grown hg (Nat.ne_of_gt L_Q_X.out))
          replace BB := hidden (BB.out.grown hg (Or.inl L_Q_BB.out))
          replace Y := hidden (Y.out.grown hg (Nat.ne_of_gt L_Q_Y.out))
          replace BC := hidden (BC.out.grown hg (Or.inl L_Q_BC.out))
          replace V := hidden (V.out.grown hg (Nat.ne_of_gt L_Q_V.out))
          replace LG := hidden (LG.out.grown hg (Or.inl L_Q_LG.out))
          replace R1 := hidden (R1.out.grown hg (Nat.ne_of_gt L_Q_R1.out))
          clear Q
          clear x0 hg
          have HN1 := HK.out.most
          have HS1 := HSUM.out
          have HS2 := HSUMb.out
          have HM1 := M1a.out
          have HM2 := M1b.out
          have y0 := Y.out.c0
          have y1 := Y.out.c1
          go_wp2_with fail
          with_reducible refine (markBinding_any _ _ gya m1a gza m2a (1 + 2 * n) L1a D2a _ BB.out M1a.out M2a.out (by omega) (by omega)).mono ?_
          rintro e w14 ⟨rfl, -, hr⟩
          replace B := hidden (Rng.below B.out hr GBB.out)
          replace D0 := hidden (D0.out.rng hr (Or.inl L_D0_BB.out))
          replace Da := hidden (Da.out.rng hr (Or.inl L_Da_BB.out))
          replace Db := hidden (Db.out.rng hr (Or.inl L_Db_BB.out))
          replace H := hidden (Z.out.keep B.out)
          replace H1a := hidden (Z1a.out.keep B.out)
          replace H2a := hidden (Z2a.out.keep B.out)
          replace H1b := hidden (Z1b.out.keep B.out)
          replace H2b := hidden (Z2b.out.keep B.out)
          replace R0 := hidden (R0.out.rng hr (Or.inl L_R0_BB.out))
          replace LW := hidden (LW.out.rng hr (Or.inl L_LW_BB.out))
          replace X := hidden (X.out.rng hr (Or.inl L_X_BB.out))
          replace Y := hidden (Y.out.rng hr (Or.inr L_BB_Y.out))
          replace BC := hidden (BC.out.rng hr (Or.inr L_BB_BC.out))
          replace V := hidden (V.out.rng hr (Or.inr L_BB_V.out))
          replace LG := hidden (LG.out.rng hr (Or.inr L_BB_LG.out))
          replace R1 := hidden (R1.out.rng hr (Or.inr L_BB_R1.out))
          clear BB
          clear y0 y1 hr
          have y0 := V.out.c0
          have y1 := V.out.c1
          go_wp2_with fail
          with_reducible refine (markBinding_any _ _ gyb m1b gzb m2b (1 + 2 * n + m1a + sumM D2a m2a) L1b D2b _ BC.out M1b.out M2b.out (by omega) (by omega)).mono ?_
          rintro e w15 ⟨rfl, -, hr⟩
          replace B := hidden (Rng.below B.out hr GBC.out)
          replace D0 := hidden (D0.out.rng hr (Or.inl L_D0_BC.out))
          replace Da := hidden (Da.out.rng hr (Or.inl L_Da_BC.out))
          replace Db := hidden (Db.out.rng hr (Or.inl L_Db_BC.out))
          replace H := hidden (Z.out.keep B.out)
          replace H1a := hidden (Z1a.out.keep B.out)
          replace H2a := hidden (Z2a.out.keep B.out)
          replace H1b := hidden (Z1b.out.keep B.out)
          replace H2b := hidden (Z2b.out.keep B.out)
          replace R0 := hidden (R0.out.rng hr (Or.inl L_R0_BC.out))
          replace LW := hidden (LW.out.rng hr (Or.inl L_LW_BC.out))
          replace X := hidden (X.out.rng hr (Or.inl L_X_BC.out))
          replace Y := hidden (Y.out.rng hr (Or.inl L_Y_BC.out))
          replace V := hidden (V.out.rng hr (Or.inr L_BC_V.out))
          replace LG := hidden (LG.out.rng hr (Or.inr L_BC_LG.out))
          replace R1 := hidden (R1.out.rng hr (Or.inr L_BC_R1.out))
          clear BC
          clear y0 y1 hr
          have r00 := R0.out.c0
          have r01 := R0.out.c1
          have r02 := R0.out.c2
          have r10 := R1.out.c0
          have r11 := R1.out.c1
          have r12 := R1.out.c2
          have hkk : decide ((1 : Int) + 2 * n + m1a + sumM D2a m2a + m1b + sumM D2b m2b < 0) = false := by simp; omega
          go_wp2_with fail
          with_reducible refine (eqBdR_eq _ _ _ _ _ _ _ _ _ _ _ (cV M) (cnD M 12) _ LG.out.vars.ints LG.out.terms.mats LW.out.vars.ints LW.out.terms.mats (by have := HR12.out; omega) HKB.out).mono ?_
          rintro e w16 ⟨rfl, hb⟩
          replace D0 := hidden (D0.out.keep hb)
          replace B := hidden (keepB B.out hb)
          replace Da := hidden (Da.out.keep hb)
          replace Db := hidden (Db.out.keep hb)
          replace H := hidden (H.out.keep hb)
          replace H1a := hidden (H1a.out.keep hb)
          replace H2a := hidden (H2a.out.keep hb)
          replace H1b := hidden (H1b.out.keep hb)
          replace H2b := hidden (H2b.out.keep hb)
          replace R0 := hidden (R0.out.keep hb)
          replace LW := hidden (LW.out.keep hb)
          replace X := hidden (X.out.keep hb)
          replace Y := hidden (Y.out.keep hb)
          replace V := hidden (V.out.keep hb)
          replace LG := hidden (LG.out.keep hb)
          replace R1 := hidden (R1.out.keep hb)
          clear r00 r01 r02 r10 r11 r12 hb
          have r00 := R1.out.c0
          have r01 := R1.out.c1
          have r02 := R1.out.c2
          go_wp2_with fail
          have GB := hidden (show w.heap.size ≤ lob from Nat.le_trans BSx.out GBx.out)
          with_reducible refine (markBdR_any _ _ _ gb1 (cR M) db1 gb2 (cR M) db2 (cV M) (cnD M 12) _ LG.out (by have := HR12.out; omega) HKB.out HSB.out).mono ?_
          rintro e w17 ⟨rfl, ho, hr⟩
          replace B := hidden (Rng.below B.out hr GB.out)
          replace D0 := hidden (D0.out.rng hr (Or.inl L_D0_LG.out))
          replace Da := hidden (Da.out.rng hr (Or.inl L_Da_LG.out))
          replace Db := hidden (Db.out.rng hr (Or.inl L_Db_LG.out))
          replace H := hidden (Z.out.keep B.out)
          replace H1a := hidden (Z1a.out.keep B.out)
          replace H2a := hidden (Z2a.out.keep B.out)
          replace H1b := hidden (Z1b.out.keep B.out)
          replace H2b := hidden (Z2b.out.keep B.out)
          replace R0 := hidden (R0.out.rng hr (Or.inl L_R0_LG.out))
          replace LW := hidden (LW.out.rng hr (Or.inl L_LW_LG.out))
          replace X := hidden (X.out.rng hr (Or.inl L_X_LG.out))
          replace Y := hidden (Y.out.rng hr (Or.inl L_Y_LG.out))
          replace V := hidden (V.out.rng hr (Or.inl L_V_LG.out))
          replace R1 := hidden (R1.out.rng hr (Or.inr L_LG_R1.out))
          replace LG := hidden (ho)
          clear r00 r01 r02 hr ho
          have hq : ¬ (1 : Int) + (cR M : Nat) + (sumM (cnD M 12) (cR M) : Nat) < 0 := by omega
          have r00 := R1.out.c0
          have r01 := R1.out.c1
          have r02 := R1.out.c2
          go_wp2_with fail
          with_reducible refine (heldBdR_any _ _ _ gb1 (cR M) db1 gb2 (cR M) db2 (cnD M 12) _ LG.out (by have := HR12.out; omega) HKB.out (by have := HSB.out; omega)).mono ?_
          rintro e w18 ⟨rfl, hb⟩
          replace D0 := hidden (D0.out.keep hb)
          replace B := hidden (keepB B.out hb)
          replace Da := hidden (Da.out.keep hb)
          replace Db := hidden (Db.out.keep hb)
          replace H := hidden (H.out.keep hb)
          replace H1a := hidden (H1a.out.keep hb)
          replace H2a := hidden (H2a.out.keep hb)
          replace H1b := hidden (H1b.out.keep hb)
          replace H2b := hidden (H2b.out.keep hb)
          replace R0 := hidden (R0.out.keep hb)
          replace LW := hidden (LW.out.keep hb)
          replace X := hidden (X.out.keep hb)
          replace Y := hidden (Y.out.keep hb)
          replace V := hidden (V.out.keep hb)
          replace LG := hidden (LG.out.keep hb)
          replace R1 := hidden (R1.out.keep hb)
          clear r00 r01 r02 hb
          have CK := hidden (show ∀ w', Below w18.heap.size w18 w' → (w'.cell? ⟨w.heap.size, 0, none⟩ = some (.slice p n c) ∧ w'.cell? ⟨w.heap.size + 1, 0, none⟩ = some (.slice p1a m1a c1a) ∧ w'.cell? ⟨w.heap.size + 1, 1, none⟩ = some (.slice p2a m2a c2a) ∧ w'.cell? ⟨w.heap.size + 1 + 1, 0, none⟩ = some (.slice p1b m1b c1b) ∧ w'.cell? ⟨w.heap.size + 1 + 1, 1, none⟩ = some (.slice p2b m2b c2b)) from fun w' hb => ⟨(D0.out.keep hb).c0, (Da.out.keep hb).c0, (Da.out.keep hb).c1, (Db.out.keep hb).c0, (Db.out.keep hb).c1⟩)
          have S0 := hidden (show ∀ wc, Below w18.heap.size w18 wc → Calls Try.prog 8 #[.agg #[.slice p n c]] wc fun e w' => ∃ g, e = .returned (.agg #[.slice (some ⟨g, 0, none⟩) n n]) ∧ Below w18.heap.size w18 w' ∧ Syms w' g 0 n N A ∧ Below wc.heap.size wc w' from fun wc hc => by
            refine (toSig_new p n c N A wc (H.out.keep hc) HK.out).mono ?_
            rintro e w' ⟨g, rfl, hg, hl, hs, hb⟩
            exact ⟨g, rfl, keepB hc hb, hs, hb⟩)
          have S1 := hidden (show ∀ wc, Below w18.heap.size w18 wc → Calls Try.prog 22 #[.agg #[.slice p1a m1a c1a, .slice p2a m2a c2a]] wc fun e w' => ∃ g1a g2a, e = .returned (.agg #[.slice (some ⟨g1a, 0, none⟩) m1a m1a, .slice (some ⟨g2a, 0, none⟩) m2a m2a]) ∧ Below w18.heap.size w18 w' ∧ Ints w' g1a 0 m1a L1a ∧ Mats w' g2a 0 m2a D2a ∧ Below wc.heap.size wc w' from fun wc hc => by
            refine (toBinding_src p1a m1a c1a L1a p2a m2a c2a D2a wc (H1a.out.keep hc) (H2a.out.keep hc) M1a.out M2a.out).mono ?_
            rintro e w' ⟨g1, g2, rfl, hg, hl, hs1, hs2, hb⟩
            exact ⟨g1, g2, rfl, keepB hc hb, hs1.ints, hs2.mats, hb⟩)
          have S2 := hidden (show ∀ wc, Below w18.heap.size w18 wc → Calls Try.prog 22 #[.agg #[.slice p1b m1b c1b, .slice p2b m2b c2b]] wc fun e w' => ∃ g1b g2b, e = .returned (.agg #[.slice (some ⟨g1b, 0, none⟩) m1b m1b, .slice (some ⟨g2b, 0, none⟩) m2b m2b]) ∧ Below w18.heap.size w18 w' ∧ Ints w' g1b 0 m1b L1b ∧ Mats w' g2b 0 m2b D2b ∧ Below wc.heap.size wc w' from fun wc hc => by
            refine (toBinding_src p1b m1b c1b L1b p2b m2b c2b D2b wc (H1b.out.keep hc) (H2b.out.keep hc) M1b.out M2b.out).mono ?_
            rintro e w' ⟨g1, g2, rfl, hg, hl, hs1, hs2, hb⟩
            exact ⟨g1, g2, rfl, keepB hc hb, hs1.ints, hs2.mats, hb⟩)
          have SF := hidden (show ∀ wc g g1a g2a g1b g2b, Below w18.heap.size w18 wc → Syms wc g 0 n N A → Ints wc g1a 0 m1a L1a → Mats wc g2a 0 m2a D2a → Ints wc g1b 0 m1b L1b → Mats wc g2b 0 m2b D2b → Calls Try.prog 23 #[.agg #[.slice (some ⟨g, 0, none⟩) n n], .agg #[.slice (some ⟨g1a, 0, none⟩) m1a m1a, .slice (some ⟨g2a, 0, none⟩) m2a m2a], .agg #[.slice (some ⟨g1b, 0, none⟩) m1b m1b, .slice (some ⟨g2b, 0, none⟩) m2b m2b]] wc fun e w' => (∃ lo g1 d1 g2 d2, e = .returned (.agg #[.int .i64 0, .slice (some ⟨g1, 0, none⟩) (cR M) d1, .slice (some ⟨g2, 0, none⟩) (cR M) d2]) ∧ wc.heap.size ≤ lo ∧ Hid (OwnBx w' lo w'.heap.size g1 (cR M) d1 (cV M) g2 (cR M) d2 (cnD M 12))) ∧ Below w18.heap.size w18 w' ∧ Below wc.heap.size wc w' from fun wc g g1a g2a g1b g2b hc zfs zfva zfta zfvb zftb => by
            refine (IM.out g g1a g2a g1b g2b wc zfs zfva zfta zfvb zftb HK.out M1a.out M2a.out M1b.out M2b.out).mono ?_
            rintro e w' ⟨ha, hb⟩
            rcases ha with ⟨ha, -⟩ | ⟨-, -, lo, g1, d1, g2, d2, rfl, hlo, ho⟩
            · exact absurd ha (by have h1 := HC0.out.1; have h2 := HC0.out.2; intro h; rcases h with h | h; exact h h1; omega)
            exact ⟨⟨lo, g1, d1, g2, d2, rfl, hlo, hidden ho⟩, keepB hc hb, hb⟩)
          have d0 := D0.out.c0
          have e0 := Da.out.c0
          have e1 := Da.out.c1
          have f0 := Db.out.c0
          have f1 := Db.out.c1
          go_wp2_with fail
          go_cut [16] (fun t wc => ∃ B0 lo hi g1 d1 g2 d2, t = .pointer (some ⟨B0, 0, none⟩) ∧ Hid (Three wc B0 (.int .i64 0) (.slice (some ⟨g1, 0, none⟩) (cR M) d1) (.slice (some ⟨g2, 0, none⟩) (cR M) d2)) ∧ Hid (OwnBx wc lo hi g1 (cR M) d1 (cV M) g2 (cR M) d2 (cnD M 12)) ∧ Below w18.heap.size w18 wc)
          case first =>
            refine wp_region_held_drew (S := fun wz => wz.cell? ⟨w.heap.size, 0, none⟩ = some (.slice p n c) ∧ wz.cell? ⟨w.heap.size + 1, 0, none⟩ = some (.slice p1a m1a c1a) ∧ wz.cell? ⟨w.heap.size + 1, 1, none⟩ = some (.slice p2a m2a c2a) ∧ wz.cell? ⟨w.heap.size + 1 + 1, 0, none⟩ = some (.slice p1b m1b c1b) ∧ wz.cell? ⟨w.heap.size + 1 + 1, 1, none⟩ = some (.slice p2b m2b c2b)) (by kernel_rfl) ⟨d0, e0, e1, f0, f1⟩ (fun hHeld => ?_)
            have bb := (Below.refl w18.heap.size w18).drew
            refine wpAnyH_take (i := 0) (oi := { dst := some 96, op := Op.load 24 (Operand.tmp 3), type := 24, pos := "exact.go:4546", after := #[], guard := none }) (v := ?_) rfl (by kernel_rfl) (by kernel_rfl) (by kernel_rfl) (fun _ _ _ h => h) (Or.inl ⟨by rfl, ?_⟩) (by assumption) ?_
            rotate_left
            · (intro wv hSw; (try dsimp only at hSw); go_simp; try with_reducible rfl)
            try simp only [Act.put, List.setIfInBounds_toArray, List.set_cons_zero, List.set_cons_succ]
            refine wpAnyH_take (i := 2) (oi := { dst := some 98, op := Op.load 45 (Operand.tmp 4), type := 45, pos := "exact.go:4546", after := #[], guard := none }) (v := ?_) rfl (by kernel_rfl) (by kernel_rfl) (by kernel_rfl) (fun _ _ _ h => h) (Or.inl ⟨by rfl, ?_⟩) (by assumption) ?_
            rotate_left
            · (intro wv hSw; (try dsimp only at hSw); go_simp; try with_reducible rfl)
            try simp only [Act.put, List.setIfInBounds_toArray, List.set_cons_zero, List.set_cons_succ]
            refine wpAnyH_take (i := 4) (oi := { dst := some 100, op := Op.load 45 (Operand.tmp 5), type := 45, pos := "exact.go:4546", after := #[], guard := none }) (v := ?_) rfl (by kernel_rfl) (by kernel_rfl) (by kernel_rfl) (fun _ _ _ h => h) (Or.inl ⟨by rfl, ?_⟩) (by assumption) ?_
            rotate_left
            · (intro wv hSw; (try dsimp only at hSw); go_simp; try with_reducible rfl)
            try simp only [Act.put, List.setIfInBounds_toArray, List.set_cons_zero, List.set_cons_succ]
            refine wpAnyH_ready (rs := [1, 7]) (by kernel_rfl) (by simp) ?_
            refine AllReadyH.cons (o := { dst := some 97, op := Op.call { callee := Callee.value (Operand.func 8), args := #[Operand.tmp 96], argTypes := #[24] }, type := 35, pos := "exact.go:4546", after := #[{ on := 0, ground := Ground.data }], guard := none }) rfl (fun K hK => ?_) (AllReadyH.cons (o := { dst := some 16, op := Op.alloc 31, type := 0, pos := "exact.go:4546", after := #[], guard := none }) rfl (fun K hK => ?_) AllReadyH.nil)
            · go_simp
              go_at_call 8; with_reducible refine (S0.out _ bb).mono ?_; rintro e v0 ⟨g', rfl, bb', yfs, hb5⟩
              try go_wp2_with fail
              refine hK.out _ _ ?_ (fun hHeld => ?_)
              · exact CK.out _ bb'
              clear hK K
              have fs := yfs
              clear yfs
              clear bb hb5
              have bb := bb'
              clear bb'
              try simp only [Act.put, List.setIfInBounds_toArray, List.set_cons_zero, List.set_cons_succ]
              refine wpAnyH_ready (rs := [3, 7]) (by kernel_rfl) (by simp) ?_
              refine AllReadyH.cons (o := { dst := some 99, op := Op.call { callee := Callee.value (Operand.func 22), args := #[Operand.tmp 98], argTypes := #[45] }, type := 29, pos := "exact.go:4546", after := #[{ on := 2, ground := Ground.data }, { on := 1, ground := Ground.chain }], guard := none }) rfl (fun K hK => ?_) (AllReadyH.cons (o := { dst := some 16, op := Op.alloc 31, type := 0, pos := "exact.go:4546", after := #[], guard := none }) rfl (fun K hK => ?_) AllReadyH.nil)
              · go_simp
                go_at_call 22; with_reducible refine (S1.out _ bb).mono ?_; rintro e v1 ⟨g1a', g2a', rfl, bb', yfva, yfta, hb5⟩
                try go_wp2_with fail
                refine hK.out _ _ ?_ (fun hHeld => ?_)
                · exact CK.out _ bb'
                clear hK K
                replace fs := fs.keep hb5
                have fva := yfva
                clear yfva
                have fta := yfta
                clear yfta
                clear bb hb5
                have bb := bb'
                clear bb'
                try simp only [Act.put, List.setIfInBounds_toArray, List.set_cons_zero, List.set_cons_succ]
                refine wpAnyH_ready (rs := [5, 7]) (by kernel_rfl) (by simp) ?_
                refine AllReadyH.cons (o := { dst := some 101, op := Op.call { callee := Callee.value (Operand.func 22), args := #[Operand.tmp 100], argTypes := #[45] }, type := 29, pos := "exact.go:4546", after := #[{ on := 4, ground := Ground.data }, { on := 3, ground := Ground.chain }], guard := none }) rfl (fun K hK => ?_) (AllReadyH.cons (o := { dst := some 16, op := Op.alloc 31, type := 0, pos := "exact.go:4546", after := #[], guard := none }) rfl (fun K hK => ?_) AllReadyH.nil)
                · go_simp
                  go_at_call 22; with_reducible refine (S2.out _ bb).mono ?_; rintro e v2 ⟨g1b', g2b', rfl, bb', yfvb, yftb, hb5⟩
                  try go_wp2_with fail
                  refine hK.out _ _ ?_ (fun hHeld => ?_)
                  · exact CK.out _ bb'
                  clear hK K
                  replace fs := fs.keep hb5
                  replace fva := fva.keep hb5
                  replace fta := fta.keep hb5
                  have fvb := yfvb
                  clear yfvb
                  have ftb := yftb
                  clear yftb
                  clear bb hb5
                  have bb := bb'
                  clear bb'
                  try simp only [Act.put, List.setIfInBounds_toArray, List.set_cons_zero, List.set_cons_succ]
                  refine wpAnyH_ready (rs := [6, 7]) (by kernel_rfl) (by simp) ?_
                  refine AllReadyH.cons (o := { dst := some 102, op := Op.call { callee := Callee.value (Operand.func 23), args := #[Operand.tmp 97, Operand.tmp 99, Operand.tmp 101], argTypes := #[35, 29, 29] }, type := 31, pos := "exact.go:4546", after := #[{ on := 1, ground := Ground.data }, { on := 3, ground := Ground.data }, { on := 5, ground := Ground.data }, { on := 5, ground := Ground.chain }], guard := none }) rfl (fun K hK => ?_) (AllReadyH.cons (o := { dst := some 16, op := Op.alloc 31, type := 0, pos := "exact.go:4546", after := #[], guard := none }) rfl (fun K hK => ?_) AllReadyH.nil)
                  · go_simp
                    go_at_call 23; with_reducible refine (SF.out _ _ _ _ _ _ bb fs fva fta fvb ftb).mono ?_; rintro e v3 ⟨⟨lo', g1', d1', g2', d2', rfl, hga, oo'⟩, bb', hb5⟩
                    try go_wp2_with fail
                    refine hK.out _ _ ?_ (fun hHeld => ?_)
                    · exact CK.out _ bb'
                    clear hK K
                    have oo0 := oo'
                    clear bb hb5
                    have bb := bb'
                    clear bb'
                    try simp only [Act.put, List.setIfInBounds_toArray, List.set_cons_zero, List.set_cons_succ]
                    have bb0 := bb
                    refine wpAnyH_ready (rs := [7]) (by kernel_rfl) (by simp) ?_
                    refine AllReadyH.cons (o := { dst := some 16, op := Op.alloc 31, type := 0, pos := "exact.go:4546", after := #[], guard := none }) rfl (fun K hK => ?_) AllReadyH.nil
                    go_simp
                    have RR := Bn3.new v3 (.int .i64 0) (.slice none 0 0) (.slice none 0 0) 31
                    have hB0 := bb.size
                    refine hK.out _ _ ?_ (fun hHeld => ?_)
                    · exact CK.out _ (keepB bb (alloc_below _ _))
                    clear hK K
                    replace bb := keepB bb (alloc_below _ (.cells #[.int .i64 0, .slice none 0 0, .slice none 0 0] 31))
                    replace oo' := hidden (oo'.out.keep (alloc_below _ (.cells #[.int .i64 0, .slice none 0 0, .slice none 0 0] 31)))
                    try simp only [Act.put, List.setIfInBounds_toArray, List.set_cons_zero, List.set_cons_succ]
                    refine wpAnyH_ready (rs := [8]) (by kernel_rfl) (by simp) ?_
                    refine AllReadyH.cons (o := { dst := none, op := Op.store 31 (Operand.tmp 16) (Operand.tmp 102), type := 0, pos := "exact.go:4546", after := #[{ on := 7, ground := Ground.data }, { on := 6, ground := Ground.data }, { on := 6, ground := Ground.chain }, { on := 0, ground := Ground.phase }, { on := 1, ground := Ground.phase }, { on := 2, ground := Ground.phase }, { on := 3, ground := Ground.phase }, { on := 4, ground := Ground.phase }, { on := 5, ground := Ground.phase }, { on := 6, ground := Ground.phase }, { on := 7, ground := Ground.phase }], guard := none }) rfl (fun K hK => ?_) AllReadyH.nil
                    obtain ⟨q8, q0, q1, q2, g0, g1, g2⟩ := id RR
                    go_simp
                    refine hK.out _ _ ?_ (fun hHeld => ?_)
                    · first | exact CK.out _ (((bb.setCell hB0 _).setCell hB0 _).setCell hB0 _) | exact CK.out _ (keepB bb0 (alloc_below _ _))
                    clear hK K
                    refine wpAnyH_done (by kernel_rfl) ?_ _
                    go_wp2_with fail
                    go_meet
                    first
                      | exact ⟨_, lo', _, g1', d1', g2', d2', rfl, hidden (((RR.set0 _).set1 _).set2 _).two, hidden (((oo'.out.grown (setCell_grownT _ _ _ _) (Or.inl hne)).grown (setCell_grownT _ _ _ _) (Or.inl hne)).grown (setCell_grownT _ _ _ _) (Or.inl hne)), ((bb.setCell hB0 _).setCell hB0 _).setCell hB0 _⟩
                      | exact ⟨_, lo', _, g1', d1', g2', d2', rfl, hidden (Three.new _ _ _ _ _), hidden (oo0.out.keep (alloc_below _ _)), keepB bb0 (alloc_below _ _)⟩
                  · go_simp
                    have RR := Bn3.new v2 (.int .i64 0) (.slice none 0 0) (.slice none 0 0) 31
                    have hB0 := bb.size
                    refine hK.out _ _ ?_ (fun hHeld => ?_)
                    · exact CK.out _ (keepB bb (alloc_below _ _))
                    clear hK K
                    replace bb := keepB bb (alloc_below _ (.cells #[.int .i64 0, .slice none 0 0, .slice none 0 0] 31))
                    replace fs := fs.keep (alloc_below _ (.cells #[.int .i64 0, .slice none 0 0, .slice none 0 0] 31))
                    replace fva := fva.keep (alloc_below _ (.cells #[.int .i64 0, .slice none 0 0, .slice none 0 0] 31))
                    replace fta := fta.keep (alloc_below _ (.cells #[.int .i64 0, .slice none 0 0, .slice none 0 0] 31))
                    replace fvb := fvb.keep (alloc_below _ (.cells #[.int .i64 0, .slice none 0 0, .slice none 0 0] 31))
                    replace ftb := ftb.keep (alloc_below _ (.cells #[.int .i64 0, .slice none 0 0, .slice none 0 0] 31))
                    try simp only [Act.put, List.setIfInBounds_toArray, List.set_cons_zero, List.set_cons_succ]
                    refine wpAnyH_ready (rs := [6]) (by kernel_rfl) (by simp) ?_
                    refine AllReadyH.cons (o := { dst := some 102, op := Op.call { callee := Callee.value (Operand.func 23), args := #[Operand.tmp 97, Operand.tmp 99, Operand.tmp 101], argTypes := #[35, 29, 29] }, type := 31, pos := "exact.go:4546", after := #[{ on := 1, ground := Ground.data }, { on := 3, ground := Ground.data }, { on := 5, ground := Ground.data }, { on := 5, ground := Ground.chain }], guard := none }) rfl (fun K hK => ?_) AllReadyH.nil
                    go_simp
                    go_at_call 23; with_reducible refine (SF.out _ _ _ _ _ _ bb fs fva fta fvb ftb).mono ?_; rintro e v3 ⟨⟨lo', g1', d1', g2', d2', rfl, hga, oo'⟩, bb', hb5⟩
                    try go_wp2_with fail
                    refine hK.out _ _ ?_ (fun hHeld => ?_)
                    · exact CK.out _ bb'
                    clear hK K
                    have hne := Nat.lt_of_lt_of_le RR.two.blk hga
                    have oo0 := oo'
                    replace RR := RR.keep hb5
                    clear bb hb5
                    have bb := bb'
                    clear bb'
                    try simp only [Act.put, List.setIfInBounds_toArray, List.set_cons_zero, List.set_cons_succ]
                    have bb0 := bb
                    refine wpAnyH_ready (rs := [8]) (by kernel_rfl) (by simp) ?_
                    refine AllReadyH.cons (o := { dst := none, op := Op.store 31 (Operand.tmp 16) (Operand.tmp 102), type := 0, pos := "exact.go:4546", after := #[{ on := 7, ground := Ground.data }, { on := 6, ground := Ground.data }, { on := 6, ground := Ground.chain }, { on := 0, ground := Ground.phase }, { on := 1, ground := Ground.phase }, { on := 2, ground := Ground.phase }, { on := 3, ground := Ground.phase }, { on := 4, ground := Ground.phase }, { on := 5, ground := Ground.phase }, { on := 6, ground := Ground.phase }, { on := 7, ground := Ground.phase }], guard := none }) rfl (fun K hK => ?_) AllReadyH.nil
                    obtain ⟨q8, q0, q1, q2, g0, g1, g2⟩ := id RR
                    go_simp
                    refine hK.out _ _ ?_ (fun hHeld => ?_)
                    · first | exact CK.out _ (((bb.setCell hB0 _).setCell hB0 _).setCell hB0 _) | exact CK.out _ (keepB bb0 (alloc_below _ _))
                    clear hK K
                    refine wpAnyH_done (by kernel_rfl) ?_ _
                    go_wp2_with fail
                    go_meet
                    first
                      | exact ⟨_, lo', _, g1', d1', g2', d2', rfl, hidden (((RR.set0 _).set1 _).set2 _).two, hidden (((oo'.out.grown (setCell_grownT _ _ _ _) (Or.inl hne)).grown (setCell_grownT _ _ _ _) (Or.inl hne)).grown (setCell_grownT _ _ _ _) (Or.inl hne)), ((bb.setCell hB0 _).setCell hB0 _).setCell hB0 _⟩
                      | exact ⟨_, lo', _, g1', d1', g2', d2', rfl, hidden (Three.new _ _ _ _ _), hidden (oo0.out.keep (alloc_below _ _)), keepB bb0 (alloc_below _ _)⟩
                · go_simp
                  have RR := Bn3.new v1 (.int .i64 0) (.slice none 0 0) (.slice none 0 0) 31
                  have hB0 := bb.size
                  refine hK.out _ _ ?_ (fun hHeld => ?_)
                  · exact CK.out _ (keepB bb (alloc_below _ _))
                  clear hK K
                  replace bb := keepB bb (alloc_below _ (.cells #[.int .i64 0, .slice none 0 0, .slice none 0 0] 31))
                  replace fs := fs.keep (alloc_below _ (.cells #[.int .i64 0, .slice none 0 0, .slice none 0 0] 31))
                  replace fva := fva.keep (alloc_below _ (.cells #[.int .i64 0, .slice none 0 0, .slice none 0 0] 31))
                  replace fta := fta.keep (alloc_below _ (.cells #[.int .i64 0, .slice none 0 0, .slice none 0 0] 31))
                  try simp only [Act.put, List.setIfInBounds_toArray, List.set_cons_zero, List.set_cons_succ]
                  refine wpAnyH_ready (rs := [5]) (by kernel_rfl) (by simp) ?_
                  refine AllReadyH.cons (o := { dst := some 101, op := Op.call { callee := Callee.value (Operand.func 22), args := #[Operand.tmp 100], argTypes := #[45] }, type := 29, pos := "exact.go:4546", after := #[{ on := 4, ground := Ground.data }, { on := 3, ground := Ground.chain }], guard := none }) rfl (fun K hK => ?_) AllReadyH.nil
                  go_simp
                  go_at_call 22; with_reducible refine (S2.out _ bb).mono ?_; rintro e v2 ⟨g1b', g2b', rfl, bb', yfvb, yftb, hb5⟩
                  try go_wp2_with fail
                  refine hK.out _ _ ?_ (fun hHeld => ?_)
                  · exact CK.out _ bb'
                  clear hK K
                  replace RR := RR.keep hb5
                  replace fs := fs.keep hb5
                  replace fva := fva.keep hb5
                  replace fta := fta.keep hb5
                  have fvb := yfvb
                  clear yfvb
                  have ftb := yftb
                  clear yftb
                  clear bb hb5
                  have bb := bb'
                  clear bb'
                  try simp only [Act.put, List.setIfInBounds_toArray, List.set_cons_zero, List.set_cons_succ]
                  refine wpAnyH_ready (rs := [6]) (by kernel_rfl) (by simp) ?_
                  refine AllReadyH.cons (o := { dst := some 102, op := Op.call { callee := Callee.value (Operand.func 23), args := #[Operand.tmp 97, Operand.tmp 99, Operand.tmp 101], argTypes := #[35, 29, 29] }, type := 31, pos := "exact.go:4546", after := #[{ on := 1, ground := Ground.data }, { on := 3, ground := Ground.data }, { on := 5, ground := Ground.data }, { on := 5, ground := Ground.chain }], guard := none }) rfl (fun K hK => ?_) AllReadyH.nil
                  go_simp
                  go_at_call 23; with_reducible refine (SF.out _ _ _ _ _ _ bb fs fva fta fvb ftb).mono ?_; rintro e v3 ⟨⟨lo', g1', d1', g2', d2', rfl, hga, oo'⟩, bb', hb5⟩
                  try go_wp2_with fail
                  refine hK.out _ _ ?_ (fun hHeld => ?_)
                  · exact CK.out _ bb'
                  clear hK K
                  have hne := Nat.lt_of_lt_of_le RR.two.blk hga
                  have oo0 := oo'
                  replace RR := RR.keep hb5
                  clear bb hb5
                  have bb := bb'
                  clear bb'
                  try simp only [Act.put, List.setIfInBounds_toArray, List.set_cons_zero, List.set_cons_succ]
                  have bb0 := bb
                  refine wpAnyH_ready (rs := [8]) (by kernel_rfl) (by simp) ?_
                  refine AllReadyH.cons (o := { dst := none, op := Op.store 31 (Operand.tmp 16) (Operand.tmp 102), type := 0, pos := "exact.go:4546", after := #[{ on := 7, ground := Ground.data }, { on := 6, ground := Ground.data }, { on := 6, ground := Ground.chain }, { on := 0, ground := Ground.phase }, { on := 1, ground := Ground.phase }, { on := 2, ground := Ground.phase }, { on := 3, ground := Ground.phase }, { on := 4, ground := Ground.phase }, { on := 5, ground := Ground.phase }, { on := 6, ground := Ground.phase }, { on := 7, ground := Ground.phase }], guard := none }) rfl (fun K hK => ?_) AllReadyH.nil
                  obtain ⟨q8, q0, q1, q2, g0, g1, g2⟩ := id RR
                  go_simp
                  refine hK.out _ _ ?_ (fun hHeld => ?_)
                  · first | exact CK.out _ (((bb.setCell hB0 _).setCell hB0 _).setCell hB0 _) | exact CK.out _ (keepB bb0 (alloc_below _ _))
                  clear hK K
                  refine wpAnyH_done (by kernel_rfl) ?_ _
                  go_wp2_with fail
                  go_meet
                  first
                    | exact ⟨_, lo', _, g1', d1', g2', d2', rfl, hidden (((RR.set0 _).set1 _).set2 _).two, hidden (((oo'.out.grown (setCell_grownT _ _ _ _) (Or.inl hne)).grown (setCell_grownT _ _ _ _) (Or.inl hne)).grown (setCell_grownT _ _ _ _) (Or.inl hne)), ((bb.setCell hB0 _).setCell hB0 _).setCell hB0 _⟩
                    | exact ⟨_, lo', _, g1', d1', g2', d2', rfl, hidden (Three.new _ _ _ _ _), hidden (oo0.out.keep (alloc_below _ _)), keepB bb0 (alloc_below _ _)⟩
              · go_simp
                have RR := Bn3.new v0 (.int .i64 0) (.slice none 0 0) (.slice none 0 0) 31
                have hB0 := bb.size
                refine hK.out _ _ ?_ (fun hHeld => ?_)
                · exact CK.out _ (keepB bb (alloc_below _ _))
                clear hK K
                replace bb := keepB bb (alloc_below _ (.cells #[.int .i64 0, .slice none 0 0, .slice none 0 0] 31))
                replace fs := fs.keep (alloc_below _ (.cells #[.int .i64 0, .slice none 0 0, .slice none 0 0] 31))
                try simp only [Act.put, List.setIfInBounds_toArray, List.set_cons_zero, List.set_cons_succ]
                refine wpAnyH_ready (rs := [3]) (by kernel_rfl) (by simp) ?_
                refine AllReadyH.cons (o := { dst := some 99, op := Op.call { callee := Callee.value (Operand.func 22), args := #[Operand.tmp 98], argTypes := #[45] }, type := 29, pos := "exact.go:4546", after := #[{ on := 2, ground := Ground.data }, { on := 1, ground := Ground.chain }], guard := none }) rfl (fun K hK => ?_) AllReadyH.nil
                go_simp
                go_at_call 22; with_reducible refine (S1.out _ bb).mono ?_; rintro e v1 ⟨g1a', g2a', rfl, bb', yfva, yfta, hb5⟩
                try go_wp2_with fail
                refine hK.out _ _ ?_ (fun hHeld => ?_)
                · exact CK.out _ bb'
                clear hK K
                replace RR := RR.keep hb5
                replace fs := fs.keep hb5
                have fva := yfva
                clear yfva
                have fta := yfta
                clear yfta
                clear bb hb5
                have bb := bb'
                clear bb'
                try simp only [Act.put, List.setIfInBounds_toArray, List.set_cons_zero, List.set_cons_succ]
                refine wpAnyH_ready (rs := [5]) (by kernel_rfl) (by simp) ?_
                refine AllReadyH.cons (o := { dst := some 101, op := Op.call { callee := Callee.value (Operand.func 22), args := #[Operand.tmp 100], argTypes := #[45] }, type := 29, pos := "exact.go:4546", after := #[{ on := 4, ground := Ground.data }, { on := 3, ground := Ground.chain }], guard := none }) rfl (fun K hK => ?_) AllReadyH.nil
                go_simp
                go_at_call 22; with_reducible refine (S2.out _ bb).mono ?_; rintro e v2 ⟨g1b', g2b', rfl, bb', yfvb, yftb, hb5⟩
                try go_wp2_with fail
                refine hK.out _ _ ?_ (fun hHeld => ?_)
                · exact CK.out _ bb'
                clear hK K
                replace RR := RR.keep hb5
                replace fs := fs.keep hb5
                replace fva := fva.keep hb5
                replace fta := fta.keep hb5
                have fvb := yfvb
                clear yfvb
                have ftb := yftb
                clear yftb
                clear bb hb5
                have bb := bb'
                clear bb'
                try simp only [Act.put, List.setIfInBounds_toArray, List.set_cons_zero, List.set_cons_succ]
                refine wpAnyH_ready (rs := [6]) (by kernel_rfl) (by simp) ?_
                refine AllReadyH.cons (o := { dst := some 102, op := Op.call { callee := Callee.value (Operand.func 23), args := #[Operand.tmp 97, Operand.tmp 99, Operand.tmp 101], argTypes := #[35, 29, 29] }, type := 31, pos := "exact.go:4546", after := #[{ on := 1, ground := Ground.data }, { on := 3, ground := Ground.data }, { on := 5, ground := Ground.data }, { on := 5, ground := Ground.chain }], guard := none }) rfl (fun K hK => ?_) AllReadyH.nil
                go_simp
                go_at_call 23; with_reducible refine (SF.out _ _ _ _ _ _ bb fs fva fta fvb ftb).mono ?_; rintro e v3 ⟨⟨lo', g1', d1', g2', d2', rfl, hga, oo'⟩, bb', hb5⟩
                try go_wp2_with fail
                refine hK.out _ _ ?_ (fun hHeld => ?_)
                · exact CK.out _ bb'
                clear hK K
                have hne := Nat.lt_of_lt_of_le RR.two.blk hga
                have oo0 := oo'
                replace RR := RR.keep hb5
                clear bb hb5
                have bb := bb'
                clear bb'
                try simp only [Act.put, List.setIfInBounds_toArray, List.set_cons_zero, List.set_cons_succ]
                have bb0 := bb
                refine wpAnyH_ready (rs := [8]) (by kernel_rfl) (by simp) ?_
                refine AllReadyH.cons (o := { dst := none, op := Op.store 31 (Operand.tmp 16) (Operand.tmp 102), type := 0, pos := "exact.go:4546", after := #[{ on := 7, ground := Ground.data }, { on := 6, ground := Ground.data }, { on := 6, ground := Ground.chain }, { on := 0, ground := Ground.phase }, { on := 1, ground := Ground.phase }, { on := 2, ground := Ground.phase }, { on := 3, ground := Ground.phase }, { on := 4, ground := Ground.phase }, { on := 5, ground := Ground.phase }, { on := 6, ground := Ground.phase }, { on := 7, ground := Ground.phase }], guard := none }) rfl (fun K hK => ?_) AllReadyH.nil
                obtain ⟨q8, q0, q1, q2, g0, g1, g2⟩ := id RR
                go_simp
                refine hK.out _ _ ?_ (fun hHeld => ?_)
                · first | exact CK.out _ (((bb.setCell hB0 _).setCell hB0 _).setCell hB0 _) | exact CK.out _ (keepB bb0 (alloc_below _ _))
                clear hK K
                refine wpAnyH_done (by kernel_rfl) ?_ _
                go_wp2_with fail
                go_meet
                first
                  | exact ⟨_, lo', _, g1', d1', g2', d2', rfl, hidden (((RR.set0 _).set1 _).set2 _).two, hidden (((oo'.out.grown (setCell_grownT _ _ _ _) (Or.inl hne)).grown (setCell_grownT _ _ _ _) (Or.inl hne)).grown (setCell_grownT _ _ _ _) (Or.inl hne)), ((bb.setCell hB0 _).setCell hB0 _).setCell hB0 _⟩
                  | exact ⟨_, lo', _, g1', d1', g2', d2', rfl, hidden (Three.new _ _ _ _ _), hidden (oo0.out.keep (alloc_below _ _)), keepB bb0 (alloc_below _ _)⟩
            · go_simp
              have RR := (Bn3.new w18 (.int .i64 0) (.slice none 0 0) (.slice none 0 0) 31).keep (Below.refl _ _).drew
              have hB0 := bb.size
              refine hK.out _ _ ?_ (fun hHeld => ?_)
              · exact CK.out _ (alloc_below _ _).drew
              clear hK K
              replace bb := (alloc_below w18 (.cells #[.int .i64 0, .slice none 0 0, .slice none 0 0] 31)).drew
              try simp only [Act.put, List.setIfInBounds_toArray, List.set_cons_zero, List.set_cons_succ]
              refine wpAnyH_ready (rs := [1]) (by kernel_rfl) (by simp) ?_
              refine AllReadyH.cons (o := { dst := some 97, op := Op.call { callee := Callee.value (Operand.func 8), args := #[Operand.tmp 96], argTypes := #[24] }, type := 35, pos := "exact.go:4546", after := #[{ on := 0, ground := Ground.data }], guard := none }) rfl (fun K hK => ?_) AllReadyH.nil
              go_simp
              go_at_call 8; with_reducible refine (S0.out _ bb).mono ?_; rintro e v0 ⟨g', rfl, bb', yfs, hb5⟩
              try go_wp2_with fail
              refine hK.out _ _ ?_ (fun hHeld => ?_)
              · exact CK.out _ bb'
              clear hK K
              replace RR := RR.keep hb5
              have fs := yfs
              clear yfs
              clear bb hb5
              have bb := bb'
              clear bb'
              try simp only [Act.put, List.setIfInBounds_toArray, List.set_cons_zero, List.set_cons_succ]
              refine wpAnyH_ready (rs := [3]) (by kernel_rfl) (by simp) ?_
              refine AllReadyH.cons (o := { dst := some 99, op := Op.call { callee := Callee.value (Operand.func 22), args := #[Operand.tmp 98], argTypes := #[45] }, type := 29, pos := "exact.go:4546", after := #[{ on := 2, ground := Ground.data }, { on := 1, ground := Ground.chain }], guard := none }) rfl (fun K hK => ?_) AllReadyH.nil
              go_simp
              go_at_call 22; with_reducible refine (S1.out _ bb).mono ?_; rintro e v1 ⟨g1a', g2a', rfl, bb', yfva, yfta, hb5⟩
              try go_wp2_with fail
              refine hK.out _ _ ?_ (fun hHeld => ?_)
              · exact CK.out _ bb'
              clear hK K
              replace RR := RR.keep hb5
              replace fs := fs.keep hb5
              have fva := yfva
              clear yfva
              have fta := yfta
              clear yfta
              clear bb hb5
              have bb := bb'
              clear bb'
              try simp only [Act.put, List.setIfInBounds_toArray, List.set_cons_zero, List.set_cons_succ]
              refine wpAnyH_ready (rs := [5]) (by kernel_rfl) (by simp) ?_
              refine AllReadyH.cons (o := { dst := some 101, op := Op.call { callee := Callee.value (Operand.func 22), args := #[Operand.tmp 100], argTypes := #[45] }, type := 29, pos := "exact.go:4546", after := #[{ on := 4, ground := Ground.data }, { on := 3, ground := Ground.chain }], guard := none }) rfl (fun K hK => ?_) AllReadyH.nil
              go_simp
              go_at_call 22; with_reducible refine (S2.out _ bb).mono ?_; rintro e v2 ⟨g1b', g2b', rfl, bb', yfvb, yftb, hb5⟩
              try go_wp2_with fail
              refine hK.out _ _ ?_ (fun hHeld => ?_)
              · exact CK.out _ bb'
              clear hK K
              replace RR := RR.keep hb5
              replace fs := fs.keep hb5
              replace fva := fva.keep hb5
              replace fta := fta.keep hb5
              have fvb := yfvb
              clear yfvb
              have ftb := yftb
              clear yftb
              clear bb hb5
              have bb := bb'
              clear bb'
              try simp only [Act.put, List.setIfInBounds_toArray, List.set_cons_zero, List.set_cons_succ]
              refine wpAnyH_ready (rs := [6]) (by kernel_rfl) (by simp) ?_
              refine AllReadyH.cons (o := { dst := some 102, op := Op.call { callee := Callee.value (Operand.func 23), args := #[Operand.tmp 97, Operand.tmp 99, Operand.tmp 101], argTypes := #[35, 29, 29] }, type := 31, pos := "exact.go:4546", after := #[{ on := 1, ground := Ground.data }, { on := 3, ground := Ground.data }, { on := 5, ground := Ground.data }, { on := 5, ground := Ground.chain }], guard := none }) rfl (fun K hK => ?_) AllReadyH.nil
              go_simp
              go_at_call 23; with_reducible refine (SF.out _ _ _ _ _ _ bb fs fva fta fvb ftb).mono ?_; rintro e v3 ⟨⟨lo', g1', d1', g2', d2', rfl, hga, oo'⟩, bb', hb5⟩
              try go_wp2_with fail
              refine hK.out _ _ ?_ (fun hHeld => ?_)
              · exact CK.out _ bb'
              clear hK K
              have hne := Nat.lt_of_lt_of_le RR.two.blk hga
              have oo0 := oo'
              replace RR := RR.keep hb5
              clear bb hb5
              have bb := bb'
              clear bb'
              try simp only [Act.put, List.setIfInBounds_toArray, List.set_cons_zero, List.set_cons_succ]
              have bb0 := bb
              refine wpAnyH_ready (rs := [8]) (by kernel_rfl) (by simp) ?_
              refine AllReadyH.cons (o := { dst := none, op := Op.store 31 (Operand.tmp 16) (Operand.tmp 102), type := 0, pos := "exact.go:4546", after := #[{ on := 7, ground := Ground.data }, { on := 6, ground := Ground.data }, { on := 6, ground := Ground.chain }, { on := 0, ground := Ground.phase }, { on := 1, ground := Ground.phase }, { on := 2, ground := Ground.phase }, { on := 3, ground := Ground.phase }, { on := 4, ground := Ground.phase }, { on := 5, ground := Ground.phase }, { on := 6, ground := Ground.phase }, { on := 7, ground := Ground.phase }], guard := none }) rfl (fun K hK => ?_) AllReadyH.nil
              obtain ⟨q8, q0, q1, q2, g0, g1, g2⟩ := id RR
              go_simp
              refine hK.out _ _ ?_ (fun hHeld => ?_)
              · first | exact CK.out _ (((bb.setCell hB0 _).setCell hB0 _).setCell hB0 _) | exact CK.out _ (keepB bb0 (alloc_below _ _))
              clear hK K
              refine wpAnyH_done (by kernel_rfl) ?_ _
              go_wp2_with fail
              go_meet
              first
                | exact ⟨_, lo', _, g1', d1', g2', d2', rfl, hidden (((RR.set0 _).set1 _).set2 _).two, hidden (((oo'.out.grown (setCell_grownT _ _ _ _) (Or.inl hne)).grown (setCell_grownT _ _ _ _) (Or.inl hne)).grown (setCell_grownT _ _ _ _) (Or.inl hne)), ((bb.setCell hB0 _).setCell hB0 _).setCell hB0 _⟩
                | exact ⟨_, lo', _, g1', d1', g2', d2', rfl, hidden (Three.new _ _ _ _ _), hidden (oo0.out.keep (alloc_below _ _)), keepB bb0 (alloc_below _ _)⟩
          case rest =>
            rename World => w19
            obtain ⟨R2b, loh, hih, gh1, dh1, gh2, dh2, rfl, R2, x, hb⟩ := hcut
            replace D0 := hidden (D0.out.keep hb)
            replace B := hidden (keepB B.out hb)
            replace Da := hidden (Da.out.keep hb)
            replace Db := hidden (Db.out.keep hb)
            replace H := hidden (H.out.keep hb)
            replace H1a := hidden (H1a.out.keep hb)
            replace H2a := hidden (H2a.out.keep hb)
            replace H1b := hidden (H1b.out.keep hb)
            replace H2b := hidden (H2b.out.keep hb)
            replace R0 := hidden (R0.out.keep hb)
            replace LW := hidden (LW.out.keep hb)
            replace X := hidden (X.out.keep hb)
            replace Y := hidden (Y.out.keep hb)
            replace V := hidden (V.out.keep hb)
            replace LG := hidden (LG.out.keep hb)
            replace R1 := hidden (R1.out.keep hb)
            have LH := x
            clear x
            clear d0 e0 e1 f0 f1 hb CK SF S0 S1 S2
            have r00 := R0.out.c0
            have r01 := R0.out.c1
            have r02 := R0.out.c2
            have r10 := R2.out.c0
            have r11 := R2.out.c1
            have r12 := R2.out.c2
            go_wp2_with fail
            with_reducible refine (eqBdR_eq _ _ _ _ _ _ _ _ _ _ _ (cV M) (cnD M 12) _ LH.out.vars.ints LH.out.terms.mats LW.out.vars.ints LW.out.terms.mats (by have := HR12.out; omega) HKB.out).mono ?_
            rintro e w20 ⟨rfl, hb⟩
            replace D0 := hidden (D0.out.keep hb)
            replace B := hidden (keepB B.out hb)
            replace Da := hidden (Da.out.keep hb)
            replace Db := hidden (Db.out.keep hb)
            replace H := hidden (H.out.keep hb)
            replace H1a := hidden (H1a.out.keep hb)
            replace H2a := hidden (H2a.out.keep hb)
            replace H1b := hidden (H1b.out.keep hb)
            replace H2b := hidden (H2b.out.keep hb)
            replace R0 := hidden (R0.out.keep hb)
            replace LW := hidden (LW.out.keep hb)
            replace X := hidden (X.out.keep hb)
            replace Y := hidden (Y.out.keep hb)
            replace V := hidden (V.out.keep hb)
            replace LG := hidden (LG.out.keep hb)
            replace R1 := hidden (R1.out.keep hb)
            replace R2 := hidden (R2.out.keep hb)
            replace LH := hidden (LH.out.keep hb)
            clear r00 r01 r02 r10 r11 r12 hb
            have r00 := R1.out.c0
            have r01 := R1.out.c1
            have r02 := R1.out.c2
            go_wp2_with fail
            with_reducible refine (heldBdR_any _ _ _ gb1 (cR M) db1 gb2 (cR M) db2 (cnD M 12) _ LG.out (by have := HR12.out; omega) HKB.out (by have := HSB.out; omega)).mono ?_
            rintro e w21 ⟨rfl, hb⟩
            replace D0 := hidden (D0.out.keep hb)
            replace B := hidden (keepB B.out hb)
            replace Da := hidden (Da.out.keep hb)
            replace Db := hidden (Db.out.keep hb)
            replace H := hidden (H.out.keep hb)
            replace H1a := hidden (H1a.out.keep hb)
            replace H2a := hidden (H2a.out.keep hb)
            replace H1b := hidden (H1b.out.keep hb)
            replace H2b := hidden (H2b.out.keep hb)
            replace R0 := hidden (R0.out.keep hb)
            replace LW := hidden (LW.out.keep hb)
            replace X := hidden (X.out.keep hb)
            replace Y := hidden (Y.out.keep hb)
            replace V := hidden (V.out.keep hb)
            replace LG := hidden (LG.out.keep hb)
            replace R1 := hidden (R1.out.keep hb)
            replace R2 := hidden (R2.out.keep hb)
            replace LH := hidden (LH.out.keep hb)
            clear r00 r01 r02 hb
            go_wp2_with fail
            go_ret
            exact ⟨rfl, B.out⟩

end Go.Proofs.Ytenlogljpgdbpaa
