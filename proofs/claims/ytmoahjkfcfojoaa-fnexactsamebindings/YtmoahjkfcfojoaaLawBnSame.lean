/- Law FnExactSameBindings: at every two bindings the program's SameBindings answers as the model's, and leaves both as they were. -/
import Derived.Test.YtmoahjkfcfojoaaBndSame
namespace Go.Proofs.Ytmoahjkfcfojoaa
open Go.RowKit

set_option maxRecDepth 20000 in
set_option maxHeartbeats 12800000 in
theorem law_bnsame (p1a : Option Addr) (m1a c1a : Nat) (L1a : Nat → Int) (p2a : Option Addr) (m2a c2a : Nat) (D2a : LsL) (p1b : Option Addr) (m1b c1b : Nat) (L1b : Nat → Int) (p2b : Option Addr) (m2b c2b : Nat) (D2b : LsL) (w : World) (h1a : SrcI w p1a m1a L1a) (h2a : SrcM w p2a m2a D2a) (hx1a : m1a ≤ maxLen) (h1b : SrcI w p1b m1b L1b) (h2b : SrcM w p2b m2b D2b) (hx1b : m1b ≤ maxLen) :
    Calls Try.prog 9 #[.agg #[.slice p1a m1a c1a, .slice p2a m2a c2a], .agg #[.slice p1b m1b c1b, .slice p2b m2b c2b]] w fun e w' => e = .returned (.bool true) ∧ Below w.heap.size w w' := by
  have K1a := hidden h1a
  have K2a := hidden h2a
  have X1a := hidden hx1a
  clear h1a h2a hx1a
  have K1b := hidden h1b
  have K2b := hidden h2b
  have X1b := hidden hx1b
  clear h1b h2b hx1b
  generalize hS : sameBd m1a L1a m2a D2a m1b L1b m2b D2b = S
  have HS := hidden hS
  clear hS
  have Da := hidden (Two.new w (.slice p1a m1a c1a) (.slice p2a m2a c2a) 28)
  have B := hidden (alloc_below w (.cells #[.slice p1a m1a c1a, .slice p2a m2a c2a] 28))
  have hb := alloc_below (w.alloc (.cells #[.slice p1a m1a c1a, .slice p2a m2a c2a] 28)) (.cells #[.slice p1b m1b c1b, .slice p2b m2b c2b] 28)
  replace Da := hidden (Da.out.keep hb)
  replace B := hidden (keepB B.out hb)
  clear hb
  have Db := hidden (Two.new (w.alloc (.cells #[.slice p1a m1a c1a, .slice p2a m2a c2a] 28)) (.slice p1b m1b c1b) (.slice p2b m2b c2b) 28)
  simp only [World.size_alloc] at Db
  have H1a := hidden (K1a.out.keep B.out)
  have H2a := hidden (K2a.out.keep B.out)
  have H1b := hidden (K1b.out.keep B.out)
  have H2b := hidden (K2b.out.keep B.out)
  have e0 := Da.out.c0
  have e1 := Da.out.c1
  go_enter Try.func9, Try.ntmps9
  clear e0 e1
  have e0 := Da.out.c0
  have e1 := Da.out.c1
  go_wp2_with fail
  with_reducible refine (szBinding_any p1a m1a c1a p2a m2a c2a D2a _ _ X1a.out H2a.out (by omega) (by omega)).mono ?_
  rintro e w1 ⟨⟨r1, rfl, hr⟩, hb⟩
  replace Da := hidden (Da.out.keep hb)
  replace B := hidden (keepB B.out hb)
  replace Db := hidden (Db.out.keep hb)
  replace H1a := hidden (H1a.out.keep hb)
  replace H2a := hidden (H2a.out.keep hb)
  replace H1b := hidden (H1b.out.keep hb)
  replace H2b := hidden (H2b.out.keep hb)
  clear e0 e1 hb
  skip
  rcases hr with rfl | ⟨q0, q1, q2, q3⟩
  · go_wp2_with fail
    go_ret
    exact ⟨rfl, B.out⟩
  have M1a := hidden q2
  have M2a := hidden q3
  clear q2 q3
  have e0 := Db.out.c0
  have e1 := Db.out.c1
  go_wp2_with fail
  with_reducible refine (szBinding_any p1b m1b c1b p2b m2b c2b D2b _ _ X1b.out H2b.out q0 q1).mono ?_
  rintro e w2 ⟨⟨r2, rfl, hr⟩, hb⟩
  replace Da := hidden (Da.out.keep hb)
  replace B := hidden (keepB B.out hb)
  replace Db := hidden (Db.out.keep hb)
  replace H1a := hidden (H1a.out.keep hb)
  replace H2a := hidden (H2a.out.keep hb)
  replace H1b := hidden (H1b.out.keep hb)
  replace H2b := hidden (H2b.out.keep hb)
  clear e0 e1 hb
  clear q0 q1
  rcases hr with rfl | ⟨q0, q1, q2, q3⟩
  · go_wp2_with fail
    go_ret
    exact ⟨rfl, B.out⟩
  have M1b := hidden q2
  have M2b := hidden q3
  clear q2 q3
  clear q1
  have S1 := hidden (show ∀ wc, Below w2.heap.size w2 wc → Calls Try.prog 14 #[.agg #[.slice p1a m1a c1a, .slice p2a m2a c2a]] wc fun e w' => ∃ g1 g2, e = .returned (.agg #[.slice (some ⟨g1, 0, none⟩) m1a m1a, .slice (some ⟨g2, 0, none⟩) m2a m2a]) ∧ Below w2.heap.size w2 w' ∧ Ints w' g1 0 m1a L1a ∧ Mats w' g2 0 m2a D2a ∧ w'.cell? ⟨w.heap.size + 1, 0, none⟩ = some (.slice p1b m1b c1b) ∧ w'.cell? ⟨w.heap.size + 1, 1, none⟩ = some (.slice p2b m2b c2b) from fun wc hc => by
    refine (toBinding_src p1a m1a c1a L1a p2a m2a c2a D2a wc (H1a.out.keep hc) (H2a.out.keep hc) M1a.out M2a.out).mono ?_
    rintro e w' ⟨g1, g2, rfl, hg, hl, hs1, hs2, hb⟩
    exact ⟨g1, g2, rfl, keepB hc hb, hs1.ints, hs2.mats, (Db.out.keep (keepB hc hb)).c0, (Db.out.keep (keepB hc hb)).c1⟩)
  have S2 := hidden (show ∀ wc g1 g2, Below w2.heap.size w2 wc → Ints wc g1 0 m1a L1a → Mats wc g2 0 m2a D2a → Calls Try.prog 14 #[.agg #[.slice p1b m1b c1b, .slice p2b m2b c2b]] wc fun e w' => ∃ g3 g4, e = .returned (.agg #[.slice (some ⟨g3, 0, none⟩) m1b m1b, .slice (some ⟨g4, 0, none⟩) m2b m2b]) ∧ Below w2.heap.size w2 w' ∧ Ints w' g1 0 m1a L1a ∧ Mats w' g2 0 m2a D2a ∧ Ints w' g3 0 m1b L1b ∧ Mats w' g4 0 m2b D2b from fun wc g1 g2 hc hm1 hm2 => by
    refine (toBinding_src p1b m1b c1b L1b p2b m2b c2b D2b wc (H1b.out.keep hc) (H2b.out.keep hc) M1b.out M2b.out).mono ?_
    rintro e w' ⟨g3, g4, rfl, hg, hl, hs1, hs2, hb⟩
    exact ⟨g3, g4, rfl, keepB hc hb, hm1.keep hb, hm2.keep hb, hs1.ints, hs2.mats⟩)
  have S3 := hidden (show ∀ wc g1 g2 g3 g4, Below w2.heap.size w2 wc → Ints wc g1 0 m1a L1a → Mats wc g2 0 m2a D2a → Ints wc g3 0 m1b L1b → Mats wc g4 0 m2b D2b → Calls Try.prog 39 #[.agg #[.slice (some ⟨g1, 0, none⟩) m1a m1a, .slice (some ⟨g2, 0, none⟩) m2a m2a], .agg #[.slice (some ⟨g3, 0, none⟩) m1b m1b, .slice (some ⟨g4, 0, none⟩) m2b m2b]] wc fun e w' => e = .returned (.bool S) ∧ Below w2.heap.size w2 w' from fun wc g1 g2 g3 g4 hc hm1 hm2 hm3 hm4 => by
    refine (specSameB_any g1 0 m1a m1a g2 0 m2a m2a g3 0 m1b m1b g4 0 m2b m2b L1a L1b D2a D2b wc hm1 hm2 hm3 hm4 M1a.out M2a.out).mono ?_
    rintro e w' ⟨rfl, hb⟩
    exact ⟨by rw [HS.out], keepB hc hb⟩)
  have d0 := Da.out.c0
  have d1 := Da.out.c1
  have e0 := Db.out.c0
  have e1 := Db.out.c1
  go_wp2_with fail
  go_cut [6] (fun t wc => t = .bool S ∧ Below w2.heap.size w2 wc)
  case first =>
    go_region_with (first
      | (go_at_call 14; with_reducible refine (S1.out _ ?_).mono ?_; exact (Below.refl _ _).drew; rintro e v5 ⟨g5', g6', rfl, b5', i5', i6', d5', d6'⟩)
      | (go_at_call 14; with_reducible refine (S2.out _ _ _ b5' i5' i6').mono ?_; rintro e v6 ⟨g7', g8', rfl, b6', j5', j6', i7', i8'⟩)
      | (go_at_call 39; with_reducible refine (S3.out _ _ _ _ _ b6' j5' j6' i7' i8').mono ?_; rintro e v7 ⟨rfl, b7'⟩))
    all_goals (go_wp2_with fail; go_meet)
    all_goals exact ⟨rfl, b7'⟩
  case rest =>
    rename World => w3
    obtain ⟨rfl, hb⟩ := hcut
    replace Da := hidden (Da.out.keep hb)
    replace B := hidden (keepB B.out hb)
    replace Db := hidden (Db.out.keep hb)
    replace H1a := hidden (H1a.out.keep hb)
    replace H2a := hidden (H2a.out.keep hb)
    replace H1b := hidden (H1b.out.keep hb)
    replace H2b := hidden (H2b.out.keep hb)
    clear d0 d1 e0 e1 hb S1 S2 S3
    have e0 := Da.out.c0
    have e1 := Da.out.c1
    go_wp2_with fail
    with_reducible refine (toBinding_src p1a m1a c1a L1a p2a m2a c2a D2a _ H1a.out H2a.out M1a.out M2a.out).mono ?_
    rintro e w4 ⟨ga4, gb4, rfl, hg, hl, hs1, hs2, hb⟩
    replace hb := keepB hb (alloc_below _ (.cells #[.slice (some ⟨ga4, 0, none⟩) m1a m1a, .slice (some ⟨gb4, 0, none⟩) m2a m2a] 36))
    replace Da := hidden (Da.out.keep hb)
    replace B := hidden (keepB B.out hb)
    replace Db := hidden (Db.out.keep hb)
    replace H1a := hidden (H1a.out.keep hb)
    replace H2a := hidden (H2a.out.keep hb)
    replace H1b := hidden (H1b.out.keep hb)
    replace H2b := hidden (H2b.out.keep hb)
    clear e0 e1 hb hg hl
    have Q1 := hidden (hs1.ints.keep (alloc_below _ (.cells #[.slice (some ⟨ga4, 0, none⟩) m1a m1a, .slice (some ⟨gb4, 0, none⟩) m2a m2a] 36)))
    have Q2 := hidden (hs2.mats.keep (alloc_below _ (.cells #[.slice (some ⟨ga4, 0, none⟩) m1a m1a, .slice (some ⟨gb4, 0, none⟩) m2a m2a] 36)))
    clear hs1 hs2
    have X := hidden (Two.new w4 (.slice (some ⟨ga4, 0, none⟩) m1a m1a) (.slice (some ⟨gb4, 0, none⟩) m2a m2a) 36)
    have e0 := Db.out.c0
    have e1 := Db.out.c1
    go_wp2_with fail
    with_reducible refine (toBinding_src p1b m1b c1b L1b p2b m2b c2b D2b _ H1b.out H2b.out M1b.out M2b.out).mono ?_
    rintro e w5 ⟨ga5, gb5, rfl, hg, hl, hs1, hs2, hb⟩
    replace hb := keepB hb (alloc_below _ (.cells #[.slice (some ⟨ga5, 0, none⟩) m1b m1b, .slice (some ⟨gb5, 0, none⟩) m2b m2b] 36))
    replace Da := hidden (Da.out.keep hb)
    replace B := hidden (keepB B.out hb)
    replace Db := hidden (Db.out.keep hb)
    replace H1a := hidden (H1a.out.keep hb)
    replace H2a := hidden (H2a.out.keep hb)
    replace H1b := hidden (H1b.out.keep hb)
    replace H2b := hidden (H2b.out.keep hb)
    replace Q1 := hidden (Q1.out.keep hb)
    replace Q2 := hidden (Q2.out.keep hb)
    replace X := hidden (X.out.keep hb)
    clear e0 e1 hb hg hl
    have Q3 := hidden (hs1.ints.keep (alloc_below _ (.cells #[.slice (some ⟨ga5, 0, none⟩) m1b m1b, .slice (some ⟨gb5, 0, none⟩) m2b m2b] 36)))
    have Q4 := hidden (hs2.mats.keep (alloc_below _ (.cells #[.slice (some ⟨ga5, 0, none⟩) m1b m1b, .slice (some ⟨gb5, 0, none⟩) m2b m2b] 36)))
    clear hs1 hs2
    have Y := hidden (Two.new w5 (.slice (some ⟨ga5, 0, none⟩) m1b m1b) (.slice (some ⟨gb5, 0, none⟩) m2b m2b) 36)
    have x0 := X.out.c0
    have x1 := X.out.c1
    have y0 := Y.out.c0
    have y1 := Y.out.c1
    go_wp2_with fail
    with_reducible refine (implSameB_any _ _ _ _ _ _ _ _ _ _ _ _ _ _ _ _ L1a L1b D2a D2b _ Q1.out Q2.out Q3.out Q4.out M1a.out M2a.out).mono ?_
    rw [HS.out]
    rintro e w6 ⟨rfl, hb⟩
    replace Da := hidden (Da.out.keep hb)
    replace B := hidden (keepB B.out hb)
    replace Db := hidden (Db.out.keep hb)
    replace H1a := hidden (H1a.out.keep hb)
    replace H2a := hidden (H2a.out.keep hb)
    replace H1b := hidden (H1b.out.keep hb)
    replace H2b := hidden (H2b.out.keep hb)
    replace Q1 := hidden (Q1.out.keep hb)
    replace Q2 := hidden (Q2.out.keep hb)
    replace X := hidden (X.out.keep hb)
    replace Q3 := hidden (Q3.out.keep hb)
    replace Q4 := hidden (Q4.out.keep hb)
    replace Y := hidden (Y.out.keep hb)
    clear x0 x1 y0 y1 hb
    have S1 := hidden (show ∀ wc, Below w6.heap.size w6 wc → Calls Try.prog 14 #[.agg #[.slice p1a m1a c1a, .slice p2a m2a c2a]] wc fun e w' => ∃ h1 h2, e = .returned (.agg #[.slice (some ⟨h1, 0, none⟩) m1a m1a, .slice (some ⟨h2, 0, none⟩) m2a m2a]) ∧ Below w6.heap.size w6 w' ∧ Ints w' h1 0 m1a L1a ∧ Mats w' h2 0 m2a D2a ∧ w'.cell? ⟨w4.heap.size, 0, none⟩ = some (.slice (some ⟨ga4, 0, none⟩) m1a m1a) ∧ w'.cell? ⟨w4.heap.size, 1, none⟩ = some (.slice (some ⟨gb4, 0, none⟩) m2a m2a) from fun wc hc => by
      refine (toBinding_src p1a m1a c1a L1a p2a m2a c2a D2a wc (H1a.out.keep hc) (H2a.out.keep hc) M1a.out M2a.out).mono ?_
      rintro e w' ⟨h1, h2, rfl, hg, hl, hs1, hs2, hb⟩
      exact ⟨h1, h2, rfl, keepB hc hb, hs1.ints, hs2.mats, (X.out.keep (keepB hc hb)).c0, (X.out.keep (keepB hc hb)).c1⟩)
    have S2 := hidden (show ∀ wc h1 h2, Below w6.heap.size w6 wc → Ints wc h1 0 m1a L1a → Mats wc h2 0 m2a D2a → Calls Try.prog 17 #[.agg #[.slice (some ⟨ga4, 0, none⟩) m1a m1a, .slice (some ⟨gb4, 0, none⟩) m2a m2a], .agg #[.slice (some ⟨h1, 0, none⟩) m1a m1a, .slice (some ⟨h2, 0, none⟩) m2a m2a]] wc fun e w' => e = .returned (.bool true) ∧ Below w6.heap.size w6 w' from fun wc h1 h2 hc hm1 hm2 => by
      refine (eqBinding_eq _ _ _ _ _ _ _ _ _ _ _ _ _ _ L1a D2a wc (Q1.out.keep hc) (Q2.out.keep hc) hm1 hm2 M1a.out M2a.out).mono ?_
      rintro e w' ⟨rfl, hb⟩
      exact ⟨rfl, keepB hc hb⟩)
    have x0 := X.out.c0
    have x1 := X.out.c1
    have e0 := Da.out.c0
    have e1 := Da.out.c1
    go_wp2_with fail
    go_cut [39] (fun t wc => t = .bool false ∧ Below w6.heap.size w6 wc)
    case first =>
      go_region_with (first
        | (go_at_call 14; with_reducible refine (S1.out _ ?_).mono ?_; exact (Below.refl _ _).drew; rintro e v5 ⟨g5', g6', rfl, b5', m5', m6', d5', d6'⟩)
        | (go_at_call 17; with_reducible refine (S2.out _ _ _ b5' m5' m6').mono ?_; rintro e v6 ⟨rfl, b6'⟩))
      all_goals (go_wp2_with fail; go_meet)
      all_goals exact ⟨rfl, b6'⟩
    case rest =>
      rename World => w7
      obtain ⟨rfl, hb⟩ := hcut
      replace Da := hidden (Da.out.keep hb)
      replace B := hidden (keepB B.out hb)
      replace Db := hidden (Db.out.keep hb)
      replace H1a := hidden (H1a.out.keep hb)
      replace H2a := hidden (H2a.out.keep hb)
      replace H1b := hidden (H1b.out.keep hb)
      replace H2b := hidden (H2b.out.keep hb)
      replace Q1 := hidden (Q1.out.keep hb)
      replace Q2 := hidden (Q2.out.keep hb)
      replace X := hidden (X.out.keep hb)
      replace Q3 := hidden (Q3.out.keep hb)
      replace Q4 := hidden (Q4.out.keep hb)
      replace Y := hidden (Y.out.keep hb)
      clear x0 x1 e0 e1 hb S1 S2
      have S1 := hidden (show ∀ wc, Below w7.heap.size w7 wc → Calls Try.prog 14 #[.agg #[.slice p1b m1b c1b, .slice p2b m2b c2b]] wc fun e w' => ∃ h1 h2, e = .returned (.agg #[.slice (some ⟨h1, 0, none⟩) m1b m1b, .slice (some ⟨h2, 0, none⟩) m2b m2b]) ∧ Below w7.heap.size w7 w' ∧ Ints w' h1 0 m1b L1b ∧ Mats w' h2 0 m2b D2b ∧ w'.cell? ⟨w5.heap.size, 0, none⟩ = some (.slice (some ⟨ga5, 0, none⟩) m1b m1b) ∧ w'.cell? ⟨w5.heap.size, 1, none⟩ = some (.slice (some ⟨gb5, 0, none⟩) m2b m2b) from fun wc hc => by
        refine (toBinding_src p1b m1b c1b L1b p2b m2b c2b D2b wc (H1b.out.keep hc) (H2b.out.keep hc) M1b.out M2b.out).mono ?_
        rintro e w' ⟨h1, h2, rfl, hg, hl, hs1, hs2, hb⟩
        exact ⟨h1, h2, rfl, keepB hc hb, hs1.ints, hs2.mats, (Y.out.keep (keepB hc hb)).c0, (Y.out.keep (keepB hc hb)).c1⟩)
      have S2 := hidden (show ∀ wc h1 h2, Below w7.heap.size w7 wc → Ints wc h1 0 m1b L1b → Mats wc h2 0 m2b D2b → Calls Try.prog 17 #[.agg #[.slice (some ⟨ga5, 0, none⟩) m1b m1b, .slice (some ⟨gb5, 0, none⟩) m2b m2b], .agg #[.slice (some ⟨h1, 0, none⟩) m1b m1b, .slice (some ⟨h2, 0, none⟩) m2b m2b]] wc fun e w' => e = .returned (.bool true) ∧ Below w7.heap.size w7 w' from fun wc h1 h2 hc hm1 hm2 => by
        refine (eqBinding_eq _ _ _ _ _ _ _ _ _ _ _ _ _ _ L1b D2b wc (Q3.out.keep hc) (Q4.out.keep hc) hm1 hm2 M1b.out M2b.out).mono ?_
        rintro e w' ⟨rfl, hb⟩
        exact ⟨rfl, keepB hc hb⟩)
      have x0 := Y.out.c0
      have x1 := Y.out.c1
      have e0 := Db.out.c0
      have e1 := Db.out.c1
      go_wp2_with fail
      go_cut [44] (fun t wc => t = .bool false ∧ Below w7.heap.size w7 wc)
      case first =>
        go_region_with (first
          | (go_at_call 14; with_reducible refine (S1.out _ ?_).mono ?_; exact (Below.refl _ _).drew; rintro e v5 ⟨g5', g6', rfl, b5', m5', m6', d5', d6'⟩)
          | (go_at_call 17; with_reducible refine (S2.out _ _ _ b5' m5' m6').mono ?_; rintro e v6 ⟨rfl, b6'⟩))
        all_goals (go_wp2_with fail; go_meet)
        all_goals exact ⟨rfl, b6'⟩
      case rest =>
        rename World => w8
        obtain ⟨rfl, hb⟩ := hcut
        replace Da := hidden (Da.out.keep hb)
        replace B := hidden (keepB B.out hb)
        replace Db := hidden (Db.out.keep hb)
        replace H1a := hidden (H1a.out.keep hb)
        replace H2a := hidden (H2a.out.keep hb)
        replace H1b := hidden (H1b.out.keep hb)
        replace H2b := hidden (H2b.out.keep hb)
        replace Q1 := hidden (Q1.out.keep hb)
        replace Q2 := hidden (Q2.out.keep hb)
        replace X := hidden (X.out.keep hb)
        replace Q3 := hidden (Q3.out.keep hb)
        replace Q4 := hidden (Q4.out.keep hb)
        replace Y := hidden (Y.out.keep hb)
        clear x0 x1 e0 e1 hb S1 S2
        go_wp2_with fail
        go_ret
        exact ⟨rfl, B.out⟩

end Go.Proofs.Ytmoahjkfcfojoaa
