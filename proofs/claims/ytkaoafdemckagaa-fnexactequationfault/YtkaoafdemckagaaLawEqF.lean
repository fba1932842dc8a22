/- Law FnExactEquationFault: at every signature and equation the program's EquationFault answers as the model's, and leaves both as they were. -/
import Derived.Test.YtkaoafdemckagaaEqnF
namespace Go.Proofs.Ytkaoafdemckagaa
open Go.RowKit

set_option maxRecDepth 20000 in
set_option maxHeartbeats 12800000 in
theorem law_eqfault (p : Option Addr) (n c : Nat) (N : Nat → ByteArray) (A : Nat → Int) (p1 : Option Addr) (m1 c1 : Nat) (L1 : Nat → Int) (p2 : Option Addr) (m2 c2 : Nat) (L2 : Nat → Int) (w : World) (h : SrcS w p n N A) (h1 : SrcI w p1 m1 L1) (h2 : SrcI w p2 m2 L2) (hx1 : m1 ≤ maxLen) (hx2 : m2 ≤ maxLen) :
    Calls Try.prog 4 #[.agg #[.slice p n c], .agg #[.slice p1 m1 c1, .slice p2 m2 c2]] w fun e w' => e = .returned (.bool true) ∧ Below w.heap.size w w' := by
  have H0 := hidden h
  have K1 := hidden h1
  have K2 := hidden h2
  have X1 := hidden hx1
  have X2 := hidden hx2
  clear h h1 h2 hx1 hx2
  generalize hS : eqF n N A m1 L1 m2 L2 = S
  have HS := hidden hS
  clear hS
  have D0 := hidden (One.new w (.slice p n c) 24)
  have B := hidden (alloc_below w (.cells #[.slice p n c] 24))
  have hb := alloc_below (w.alloc (.cells #[.slice p n c] 24)) (.cells #[.slice p1 m1 c1, .slice p2 m2 c2] 40)
  replace D0 := hidden (D0.out.keep hb)
  replace B := hidden (keepB B.out hb)
  clear hb
  have D1 := hidden (Two.new (w.alloc (.cells #[.slice p n c] 24)) (.slice p1 m1 c1) (.slice p2 m2 c2) 40)
  simp only [World.size_alloc] at D1
  have H := hidden (H0.out.keep B.out)
  have H1 := hidden (K1.out.keep B.out)
  have H2 := hidden (K2.out.keep B.out)
  go_enter Try.func4, Try.ntmps4
  go_wp2_with fail
  with_reducible refine (szSignature_src p n c N A 1048576 _ H.out (by omega) (by omega)).mono ?_
  rintro e w1 ⟨⟨r1, rfl, hr⟩, hb⟩
  replace D0 := hidden (D0.out.keep hb)
  replace B := hidden (keepB B.out hb)
  replace D1 := hidden (D1.out.keep hb)
  replace H := hidden (H.out.keep hb)
  replace H1 := hidden (H1.out.keep hb)
  replace H2 := hidden (H2.out.keep hb)
  clear hb
  rcases hr with rfl | ⟨q0, q1, q2, q3⟩
  · go_wp2_with fail
    go_ret
    exact ⟨rfl, B.out⟩
  have HK := hidden (Kept.mk q2 q3 H.out.fits)
  clear q2 q3
  have e0 := D1.out.c0
  have e1 := D1.out.c1
  go_wp2_with fail
  with_reducible refine (szEquation_any p1 m1 c1 p2 m2 c2 _ _ X1.out X2.out q0 q1).mono ?_
  rintro e w2 ⟨⟨r2, rfl, hr⟩, hb⟩
  replace D0 := hidden (D0.out.keep hb)
  replace B := hidden (keepB B.out hb)
  replace D1 := hidden (D1.out.keep hb)
  replace H := hidden (H.out.keep hb)
  replace H1 := hidden (H1.out.keep hb)
  replace H2 := hidden (H2.out.keep hb)
  clear e0 e1 hb q0 q1
  rcases hr with rfl | ⟨q0, q1, q2, q3⟩
  · go_wp2_with fail
    go_ret
    exact ⟨rfl, B.out⟩
  have M1 := hidden q2
  have M2 := hidden q3
  clear q1 q2 q3
  have S1 := hidden (show ∀ wc, Below w2.heap.size w2 wc → Calls Try.prog 10 #[.agg #[.slice p n c]] wc fun e w' => ∃ g, e = .returned (.agg #[.slice (some ⟨g, 0, none⟩) n n]) ∧ Below w2.heap.size w2 w' ∧ Syms w' g 0 n N A ∧ w'.cell? ⟨w.heap.size + 1, 0, none⟩ = some (.slice p1 m1 c1) ∧ w'.cell? ⟨w.heap.size + 1, 1, none⟩ = some (.slice p2 m2 c2) from fun wc hc => by
    refine (toSig_new p n c N A wc (H.out.keep hc) HK.out).mono ?_
    rintro e w' ⟨g, rfl, hg, hl, hs, hb⟩
    exact ⟨g, rfl, keepB hc hb, hs, (D1.out.keep (keepB hc hb)).c0, (D1.out.keep (keepB hc hb)).c1⟩)
  have S2 := hidden (show ∀ wc g, Below w2.heap.size w2 wc → Syms wc g 0 n N A → Calls Try.prog 18 #[.agg #[.slice p1 m1 c1, .slice p2 m2 c2]] wc fun e w' => ∃ g1 g2, e = .returned (.agg #[.slice (some ⟨g1, 0, none⟩) m1 m1, .slice (some ⟨g2, 0, none⟩) m2 m2]) ∧ Below w2.heap.size w2 w' ∧ Syms w' g 0 n N A ∧ Ints w' g1 0 m1 L1 ∧ Ints w' g2 0 m2 L2 from fun wc g hc hm => by
    refine (toEquation_src p1 m1 c1 L1 p2 m2 c2 L2 wc (H1.out.keep hc) (H2.out.keep hc) M1.out M2.out).mono ?_
    rintro e w' ⟨g1, g2, rfl, hg, hl, hs1, hs2, hb⟩
    exact ⟨g1, g2, rfl, keepB hc hb, hm.keep hb, hs1.ints, hs2.ints⟩)
  have S3 := hidden (show ∀ wc g g1 g2, Below w2.heap.size w2 wc → Syms wc g 0 n N A → Ints wc g1 0 m1 L1 → Ints wc g2 0 m2 L2 → Calls Try.prog 17 #[.agg #[.slice (some ⟨g, 0, none⟩) n n], .agg #[.slice (some ⟨g1, 0, none⟩) m1 m1, .slice (some ⟨g2, 0, none⟩) m2 m2]] wc fun e w' => e = .returned (.int .i64 S) ∧ Below w2.heap.size w2 w' from fun wc g g1 g2 hc hm hm1 hm2 => by
    refine (specEqF_any g 0 n n g1 0 m1 m1 g2 0 m2 m2 N A L1 L2 wc hm hm1 hm2 HK.out M1.out M2.out).mono ?_
    rintro e w' ⟨rfl, hb⟩
    exact ⟨by rw [HS.out], keepB hc hb⟩)
  have d0 := D0.out.c0
  have e0 := D1.out.c0
  have e1 := D1.out.c1
  go_wp2_with fail
  go_cut [6] (fun t wc => t = .int .i64 S ∧ Below w2.heap.size w2 wc)
  case first =>
    go_region_with (first
      | (go_at_call 10; with_reducible refine (S1.out _ ?_).mono ?_; exact (Below.refl _ _).drew; rintro e v5 ⟨g5', rfl, b5', m5', d5', d6'⟩)
      | (go_at_call 18; with_reducible refine (S2.out _ _ b5' m5').mono ?_; rintro e v6 ⟨g6', g7', rfl, b6', m6', i6', i7'⟩)
      | (go_at_call 17; with_reducible refine (S3.out _ _ _ _ b6' m6' i6' i7').mono ?_; rintro e v7 ⟨rfl, b7'⟩))
    all_goals (go_wp2_with fail; go_meet)
    all_goals exact ⟨rfl, b7'⟩
  case rest =>
    rename World => w3
    obtain ⟨rfl, hb⟩ := hcut
    replace D0 := hidden (D0.out.keep hb)
    replace B := hidden (keepB B.out hb)
    replace D1 := hidden (D1.out.keep hb)
    replace H := hidden (H.out.keep hb)
    replace H1 := hidden (H1.out.keep hb)
    replace H2 := hidden (H2.out.keep hb)
    clear d0 e0 e1 hb S1 S2 S3
    have d0 := D0.out.c0
    go_wp2_with fail
    with_reducible refine (toSig_new p n c N A _ H.out HK.out).mono ?_
    rintro e w4 ⟨g4, rfl, hg, hl, hs, hb⟩
    replace hb := keepB hb (alloc_below _ (.cells #[.slice (some ⟨g4, 0, none⟩) n n] 32))
    replace D0 := hidden (D0.out.keep hb)
    replace B := hidden (keepB B.out hb)
    replace D1 := hidden (D1.out.keep hb)
    replace H := hidden (H.out.keep hb)
    replace H1 := hidden (H1.out.keep hb)
    replace H2 := hidden (H2.out.keep hb)
    clear d0 hb hg hl
    have Q := hidden (hs.keep (alloc_below _ (.cells #[.slice (some ⟨g4, 0, none⟩) n n] 32)))
    clear hs
    have X := hidden (One.new w4 (.slice (some ⟨g4, 0, none⟩) n n) 32)
    have e0 := D1.out.c0
    have e1 := D1.out.c1
    go_wp2_with fail
    with_reducible refine (toEquation_src p1 m1 c1 L1 p2 m2 c2 L2 _ H1.out H2.out M1.out M2.out).mono ?_
    rintro e w5 ⟨ga5, gb5, rfl, hg, hl, hs1, hs2, hb⟩
    replace hb := keepB hb (alloc_below _ (.cells #[.slice (some ⟨ga5, 0, none⟩) m1 m1, .slice (some ⟨gb5, 0, none⟩) m2 m2] 43))
    replace D0 := hidden (D0.out.keep hb)
    replace B := hidden (keepB B.out hb)
    replace D1 := hidden (D1.out.keep hb)
    replace H := hidden (H.out.keep hb)
    replace H1 := hidden (H1.out.keep hb)
    replace H2 := hidden (H2.out.keep hb)
    replace Q := hidden (Q.out.keep hb)
    replace X := hidden (X.out.keep hb)
    clear e0 e1 hb hg hl
    have Q1 := hidden (hs1.ints.keep (alloc_below _ (.cells #[.slice (some ⟨ga5, 0, none⟩) m1 m1, .slice (some ⟨gb5, 0, none⟩) m2 m2] 43)))
    have Q2 := hidden (hs2.ints.keep (alloc_below _ (.cells #[.slice (some ⟨ga5, 0, none⟩) m1 m1, .slice (some ⟨gb5, 0, none⟩) m2 m2] 43)))
    clear hs1 hs2
    have Y := hidden (Two.new w5 (.slice (some ⟨ga5, 0, none⟩) m1 m1) (.slice (some ⟨gb5, 0, none⟩) m2 m2) 43)
    have x0 := X.out.c0
    have y0 := Y.out.c0
    have y1 := Y.out.c1
    go_wp2_with fail
    with_reducible refine (implEqF_any _ _ _ _ _ _ _ _ _ _ _ _ N A L1 L2 _ Q.out Q1.out Q2.out HK.out M1.out M2.out).mono ?_
    rw [HS.out]
    rintro e w6 ⟨rfl, hb⟩
    replace D0 := hidden (D0.out.keep hb)
    replace B := hidden (keepB B.out hb)
    replace D1 := hidden (D1.out.keep hb)
    replace H := hidden (H.out.keep hb)
    replace H1 := hidden (H1.out.keep hb)
    replace H2 := hidden (H2.out.keep hb)
    replace Q := hidden (Q.out.keep hb)
    replace X := hidden (X.out.keep hb)
    replace Q1 := hidden (Q1.out.keep hb)
    replace Q2 := hidden (Q2.out.keep hb)
    replace Y := hidden (Y.out.keep hb)
    clear x0 y0 y1 hb
    have S1 := hidden (show ∀ wc, Below w6.heap.size w6 wc → Calls Try.prog 10 #[.agg #[.slice p n c]] wc fun e w' => ∃ g, e = .returned (.agg #[.slice (some ⟨g, 0, none⟩) n n]) ∧ Below w6.heap.size w6 w' ∧ Syms w' g 0 n N A ∧ w'.cell? ⟨w4.heap.size, 0, none⟩ = some (.slice (some ⟨g4, 0, none⟩) n n) from fun wc hc => by
      refine (toSig_new p n c N A wc (H.out.keep hc) HK.out).mono ?_
      rintro e w' ⟨g, rfl, hg, hl, hs, hb⟩
      exact ⟨g, rfl, keepB hc hb, hs, (X.out.keep (keepB hc hb)).c0⟩)
    have S2 := hidden (show ∀ wc g, Below w6.heap.size w6 wc → Syms wc g 0 n N A → Calls Try.prog 14 #[.agg #[.slice (some ⟨g4, 0, none⟩) n n], .agg #[.slice (some ⟨g, 0, none⟩) n n]] wc fun e w' => e = .returned (.bool true) ∧ Below w6.heap.size w6 w' from fun wc g hc hm => by
      refine (eqSignature_eq g4 0 g 0 n n n N A wc (Q.out.keep hc) hm HK.out.most).mono ?_
      rintro e w' ⟨rfl, hb⟩
      exact ⟨rfl, keepB hc hb⟩)
    have x0 := X.out.c0
    have d0 := D0.out.c0
    go_wp2_with fail
    go_cut [39] (fun t wc => t = .bool false ∧ Below w6.heap.size w6 wc)
    case first =>
      go_region_with (first
        | (go_at_call 10; with_reducible refine (S1.out _ ?_).mono ?_; exact (Below.refl _ _).drew; rintro e v5 ⟨g5', rfl, b5', m5', d5'⟩)
        | (go_at_call 14; with_reducible refine (S2.out _ _ b5' m5').mono ?_; rintro e v6 ⟨rfl, b6'⟩))
      all_goals (go_wp2_with fail; go_meet)
      all_goals exact ⟨rfl, b6'⟩
    case rest =>
      rename World => w7
      obtain ⟨rfl, hb⟩ := hcut
      replace D0 := hidden (D0.out.keep hb)
      replace B := hidden (keepB B.out hb)
      replace D1 := hidden (D1.out.keep hb)
      replace H := hidden (H.out.keep hb)
      replace H1 := hidden (H1.out.keep hb)
      replace H2 := hidden (H2.out.keep hb)
      replace Q := hidden (Q.out.keep hb)
      replace X := hidden (X.out.keep hb)
      replace Q1 := hidden (Q1.out.keep hb)
      replace Q2 := hidden (Q2.out.keep hb)
      replace Y := hidden (Y.out.keep hb)
      clear x0 d0 hb S1 S2
      have S1 := hidden (show ∀ wc, Below w7.heap.size w7 wc → Calls Try.prog 18 #[.agg #[.slice p1 m1 c1, .slice p2 m2 c2]] wc fun e w' => ∃ h1 h2, e = .returned (.agg #[.slice (some ⟨h1, 0, none⟩) m1 m1, .slice (some ⟨h2, 0, none⟩) m2 m2]) ∧ Below w7.heap.size w7 w' ∧ Ints w' h1 0 m1 L1 ∧ Ints w' h2 0 m2 L2 ∧ w'.cell? ⟨w5.heap.size, 0, none⟩ = some (.slice (some ⟨ga5, 0, none⟩) m1 m1) ∧ w'.cell? ⟨w5.heap.size, 1, none⟩ = some (.slice (some ⟨gb5, 0, none⟩) m2 m2) from fun wc hc => by
        refine (toEquation_src p1 m1 c1 L1 p2 m2 c2 L2 wc (H1.out.keep hc) (H2.out.keep hc) M1.out M2.out).mono ?_
        rintro e w' ⟨h1, h2, rfl, hg, hl, hs1, hs2, hb⟩
        exact ⟨h1, h2, rfl, keepB hc hb, hs1.ints, hs2.ints, (Y.out.keep (keepB hc hb)).c0, (Y.out.keep (keepB hc hb)).c1⟩)
      have S2 := hidden (show ∀ wc h1 h2, Below w7.heap.size w7 wc → Ints wc h1 0 m1 L1 → Ints wc h2 0 m2 L2 → Calls Try.prog 20 #[.agg #[.slice (some ⟨ga5, 0, none⟩) m1 m1, .slice (some ⟨gb5, 0, none⟩) m2 m2], .agg #[.slice (some ⟨h1, 0, none⟩) m1 m1, .slice (some ⟨h2, 0, none⟩) m2 m2]] wc fun e w' => e = .returned (.bool true) ∧ Below w7.heap.size w7 w' from fun wc h1 h2 hc hm1 hm2 => by
        refine (eqEquation_eq _ _ _ _ _ _ _ _ _ _ _ _ _ _ L1 L2 wc (Q1.out.keep hc) (Q2.out.keep hc) hm1 hm2 M1.out M2.out).mono ?_
        rintro e w' ⟨rfl, hb⟩
        exact ⟨rfl, keepB hc hb⟩)
      have x0 := Y.out.c0
      have x1 := Y.out.c1
      have e0 := D1.out.c0
      have e1 := D1.out.c1
      go_wp2_with fail
      go_cut [44] (fun t wc => t = .bool false ∧ Below w7.heap.size w7 wc)
      case first =>
        go_region_with (first
          | (go_at_call 18; with_reducible refine (S1.out _ ?_).mono ?_; exact (Below.refl _ _).drew; rintro e v5 ⟨g5', g6', rfl, b5', m5', m6', d5', d6'⟩)
          | (go_at_call 20; with_reducible refine (S2.out _ _ _ b5' m5' m6').mono ?_; rintro e v6 ⟨rfl, b6'⟩))
        all_goals (go_wp2_with fail; go_meet)
        all_goals exact ⟨rfl, b6'⟩
      case rest =>
        rename World => w8
        obtain ⟨rfl, hb⟩ := hcut
        replace D0 := hidden (D0.out.keep hb)
        replace B := hidden (keepB B.out hb)
        replace D1 := hidden (D1.out.keep hb)
        replace H := hidden (H.out.keep hb)
        replace H1 := hidden (H1.out.keep hb)
        replace H2 := hidden (H2.out.keep hb)
        replace Q := hidden (Q.out.keep hb)
        replace X := hidden (X.out.keep hb)
        replace Q1 := hidden (Q1.out.keep hb)
        replace Q2 := hidden (Q2.out.keep hb)
        replace Y := hidden (Y.out.keep hb)
        clear x0 x1 e0 e1 hb S1 S2
        go_wp2_with fail
        go_ret
        exact ⟨rfl, B.out⟩

end Go.Proofs.Ytkaoafdemckagaa
