/- Law FnExactAlgebraFault: at every signature and algebra the program's AlgebraFault answers as the model's, and leaves both as they were. -/
import Derived.Test.YtdcngfdklpdpkaaAlgI
namespace Go.Proofs.Ytdcngfdklpdpkaa
open Go.RowKit

set_option maxRecDepth 20000 in
set_option maxHeartbeats 12800000 in
theorem law_alf (p : Option Addr) (n c : Nat) (N : Nat → ByteArray) (A : Nat → Int) (za : Int) (p2a : Option Addr) (m2a c2a : Nat) (D2a : LsL) (w : World) (h : SrcS w p n N A) (h2a : SrcM w p2a m2a D2a) :
    Calls Try.prog 3 #[.agg #[.slice p n c], .agg #[.int .i64 za, .slice p2a m2a c2a]] w fun e w' => e = .returned (.bool true) ∧ Below w.heap.size w w' := by
  have H0 := hidden h
  have K2 := hidden h2a
  clear h h2a
  generalize hS : algF n N A za m2a D2a = S
  have HS := hidden hS
  clear hS
  have D0 := hidden (One.new w (.slice p n c) 24)
  have B := hidden (alloc_below w (.cells #[.slice p n c] 24))
  have hb := alloc_below (w.alloc (.cells #[.slice p n c] 24)) (.cells #[.int .i64 za, .slice p2a m2a c2a] 27)
  replace D0 := hidden (D0.out.keep hb)
  replace B := hidden (keepB B.out hb)
  clear hb
  have Da := hidden (Two.new (w.alloc (.cells #[.slice p n c] 24)) (.int .i64 za) (.slice p2a m2a c2a) 27)
  simp only [World.size_alloc] at Da
  have H := hidden (H0.out.keep B.out)
  have H2a := hidden (K2.out.keep B.out)
  have d0 := D0.out.c0
  go_enter Try.func3, Try.ntmps3
  go_wp2_with fail
  with_reducible refine (szSignature_src p n c N A 1048576 _ H.out (by omega) (by omega)).mono ?_
  rintro e w1 ⟨⟨r1, rfl, hr⟩, hb⟩
  replace D0 := hidden (D0.out.keep hb)
  replace B := hidden (keepB B.out hb)
  replace Da := hidden (Da.out.keep hb)
  replace H := hidden (H.out.keep hb)
  replace H2a := hidden (H2a.out.keep hb)
  clear d0 hb
  rcases hr with rfl | ⟨q0, q1, q2, q3⟩
  · go_wp2_with fail
    go_ret
    exact ⟨rfl, B.out⟩
  have HK := hidden (Kept.mk q2 q3 H.out.fits)
  clear q2 q3
  have e0 := Da.out.c0
  have e1 := Da.out.c1
  go_wp2_with fail
  with_reducible refine (szAlgebra_any za p2a m2a c2a D2a _ _ H2a.out q0 q1).mono ?_
  rintro e w2 ⟨⟨r2, rfl, hr⟩, hb⟩
  replace D0 := hidden (D0.out.keep hb)
  replace B := hidden (keepB B.out hb)
  replace Da := hidden (Da.out.keep hb)
  replace H := hidden (H.out.keep hb)
  replace H2a := hidden (H2a.out.keep hb)
  clear e0 e1 hb
  clear q0 q1
  rcases hr with rfl | ⟨q0, q1, q3⟩
  · go_wp2_with fail
    go_ret
    exact ⟨rfl, B.out⟩
  have M2a := hidden q3
  clear q3
  clear q1
  have S1 := hidden (show ∀ wc, Below w2.heap.size w2 wc → Calls Try.prog 11 #[.agg #[.slice p n c]] wc fun e w' => ∃ g, e = .returned (.agg #[.slice (some ⟨g, 0, none⟩) n n]) ∧ Below w2.heap.size w2 w' ∧ Syms w' g 0 n N A ∧ w'.cell? ⟨w.heap.size + 1, 0, none⟩ = some (.int .i64 za) ∧ w'.cell? ⟨w.heap.size + 1, 1, none⟩ = some (.slice p2a m2a c2a) from fun wc hc => by
    refine (toSig_new p n c N A wc (H.out.keep hc) HK.out).mono ?_
    rintro e w' ⟨g, rfl, hg, hl, hs, hb⟩
    exact ⟨g, rfl, keepB hc hb, hs, (Da.out.keep (keepB hc hb)).c0, (Da.out.keep (keepB hc hb)).c1⟩)
  have S2 := hidden (show ∀ wc g, Below w2.heap.size w2 wc → Syms wc g 0 n N A → Calls Try.prog 12 #[.agg #[.int .i64 za, .slice p2a m2a c2a]] wc fun e w' => ∃ g2, e = .returned (.agg #[.int .i64 za, .slice (some ⟨g2, 0, none⟩) m2a m2a]) ∧ Below w2.heap.size w2 w' ∧ Syms w' g 0 n N A ∧ Mats w' g2 0 m2a D2a from fun wc g hc hm => by
    refine (toAlgebra_src za p2a m2a c2a D2a wc (H2a.out.keep hc) M2a.out).mono ?_
    rintro e w' ⟨g2, rfl, hg, hs2, hb⟩
    exact ⟨g2, rfl, keepB hc hb, hm.keep hb, hs2.mats⟩)
  have S3 := hidden (show ∀ wc g g2, Below w2.heap.size w2 wc → Syms wc g 0 n N A → Mats wc g2 0 m2a D2a → Calls Try.prog 10 #[.agg #[.slice (some ⟨g, 0, none⟩) n n], .agg #[.int .i64 za, .slice (some ⟨g2, 0, none⟩) m2a m2a]] wc fun e w' => e = .returned (.int .i64 S) ∧ Below w2.heap.size w2 w' from fun wc g g2 hc hm hm2 => by
    refine (specAlg_any g 0 n n g2 0 m2a m2a N A za D2a wc hm hm2 HK.out M2a.out).mono ?_
    rintro e w' ⟨rfl, hb⟩
    exact ⟨by rw [HS.out], keepB hc hb⟩)
  have d0 := D0.out.c0
  have e0 := Da.out.c0
  have e1 := Da.out.c1
  go_wp2_with fail
  go_cut [6] (fun t wc => t = .int .i64 S ∧ Below w2.heap.size w2 wc)
  case first =>
    go_region_with (first
      | (go_at_call 11; with_reducible refine (S1.out _ ?_).mono ?_; exact (Below.refl _ _).drew; rintro e v5 ⟨g5', rfl, b5', m5', d5', d6'⟩)
      | (go_at_call 12; with_reducible refine (S2.out _ _ b5' m5').mono ?_; rintro e v6 ⟨g7', rfl, b6', m6', i7'⟩)
      | (go_at_call 10; with_reducible refine (S3.out _ _ _ b6' m6' i7').mono ?_; rintro e v7 ⟨rfl, b7'⟩))
    all_goals (go_wp2_with fail; go_meet)
    all_goals exact ⟨rfl, b7'⟩
  case rest =>
    rename World => w3
    obtain ⟨rfl, hb⟩ := hcut
    replace D0 := hidden (D0.out.keep hb)
    replace B := hidden (keepB B.out hb)
    replace Da := hidden (Da.out.keep hb)
    replace H := hidden (H.out.keep hb)
    replace H2a := hidden (H2a.out.keep hb)
    clear d0 e0 e1 hb S1 S2 S3
    have d0 := D0.out.c0
    go_wp2_with fail
    with_reducible refine (toSig_new p n c N A _ H.out HK.out).mono ?_
    rintro e w4 ⟨g4, rfl, hg, hl, hs, hb⟩
    replace hb := keepB hb (alloc_below _ (.cells #[.slice (some ⟨g4, 0, none⟩) n n] 33))
    replace D0 := hidden (D0.out.keep hb)
    replace B := hidden (keepB B.out hb)
    replace Da := hidden (Da.out.keep hb)
    replace H := hidden (H.out.keep hb)
    replace H2a := hidden (H2a.out.keep hb)
    clear d0 hb hg hl
    have Q := hidden (hs.keep (alloc_below _ (.cells #[.slice (some ⟨g4, 0, none⟩) n n] 33)))
    clear hs
    have X := hidden (One.new w4 (.slice (some ⟨g4, 0, none⟩) n n) 33)
    have e0 := Da.out.c0
    have e1 := Da.out.c1
    go_wp2_with fail
    with_reducible refine (toAlgebra_src za p2a m2a c2a D2a _ H2a.out M2a.out).mono ?_
    rintro e w5 ⟨gb5, rfl, hg, hs2, hb⟩
    replace hb := keepB hb (alloc_below _ (.cells #[.int .i64 za, .slice (some ⟨gb5, 0, none⟩) m2a m2a] 35))
    replace D0 := hidden (D0.out.keep hb)
    replace B := hidden (keepB B.out hb)
    replace Da := hidden (Da.out.keep hb)
    replace H := hidden (H.out.keep hb)
    replace H2a := hidden (H2a.out.keep hb)
    replace Q := hidden (Q.out.keep hb)
    replace X := hidden (X.out.keep hb)
    clear e0 e1 hb hg
    have Q2 := hidden (hs2.mats.keep (alloc_below _ (.cells #[.int .i64 za, .slice (some ⟨gb5, 0, none⟩) m2a m2a] 35)))
    clear hs2
    have Y := hidden (Two.new w5 (.int .i64 za) (.slice (some ⟨gb5, 0, none⟩) m2a m2a) 35)
    have x0 := X.out.c0
    have y0 := Y.out.c0
    have y1 := Y.out.c1
    go_wp2_with fail
    with_reducible refine (implAlg_any _ _ _ _ _ _ _ _ N A za D2a _ Q.out Q2.out HK.out M2a.out).mono ?_
    rw [HS.out]
    rintro e w6 ⟨rfl, hb⟩
    replace D0 := hidden (D0.out.keep hb)
    replace B := hidden (keepB B.out hb)
    replace Da := hidden (Da.out.keep hb)
    replace H := hidden (H.out.keep hb)
    replace H2a := hidden (H2a.out.keep hb)
    replace Q := hidden (Q.out.keep hb)
    replace X := hidden (X.out.keep hb)
    replace Q2 := hidden (Q2.out.keep hb)
    replace Y := hidden (Y.out.keep hb)
    clear x0 y0 y1 hb
    have S1 := hidden (show ∀ wc, Below w6.heap.size w6 wc → Calls Try.prog 11 #[.agg #[.slice p n c]] wc fun e w' => ∃ g, e = .returned (.agg #[.slice (some ⟨g, 0, none⟩) n n]) ∧ Below w6.heap.size w6 w' ∧ Syms w' g 0 n N A ∧ w'.cell? ⟨w4.heap.size, 0, none⟩ = some (.slice (some ⟨g4, 0, none⟩) n n) from fun wc hc => by
      refine (toSig_new p n c N A wc (H.out.keep hc) HK.out).mono ?_
      rintro e w' ⟨g, rfl, hg, hl, hs, hb⟩
      exact ⟨g, rfl, keepB hc hb, hs, (X.out.keep (keepB hc hb)).c0⟩)
    have S2 := hidden (show ∀ wc g, Below w6.heap.size w6 wc → Syms wc g 0 n N A → Calls Try.prog 14 #[.agg #[.slice (some ⟨g4, 0, none⟩) n n], .agg #[.slice (some ⟨g, 0, none⟩) n n]] wc fun e w' => e = .returned (.bool true) ∧ Below w6.heap.size w6 w' from fun wc g hc hm => by
      refine (eqSignature_eq g4 0 g 0 n n n N A wc (Q.out.keep hc) hm HK.out.most).mono ?_
      rintro e w' ⟨rfl, hb⟩
      exact ⟨rfl, keepB hc hb⟩)
    have x0 := X.out.c0
    have d0 := D0.out.c0
    go_wp2_with fail
    go_cut [39] (fun t wc => t = .bool false ∧ Below w6.heap.size w6 wc)
    case first =>
      go_region_with (first
        | (go_at_call 11; with_reducible refine (S1.out _ ?_).mono ?_; exact (Below.refl _ _).drew; rintro e v5 ⟨g5', rfl, b5', m5', d5'⟩)
        | (go_at_call 14; with_reducible refine (S2.out _ _ b5' m5').mono ?_; rintro e v6 ⟨rfl, b6'⟩))
      all_goals (go_wp2_with fail; go_meet)
      all_goals exact ⟨rfl, b6'⟩
    case rest =>
      rename World => w7
      obtain ⟨rfl, hb⟩ := hcut
      replace D0 := hidden (D0.out.keep hb)
      replace B := hidden (keepB B.out hb)
      replace Da := hidden (Da.out.keep hb)
      replace H := hidden (H.out.keep hb)
      replace H2a := hidden (H2a.out.keep hb)
      replace Q := hidden (Q.out.keep hb)
      replace X := hidden (X.out.keep hb)
      replace Q2 := hidden (Q2.out.keep hb)
      replace Y := hidden (Y.out.keep hb)
      clear x0 d0 hb S1 S2
      have S1 := hidden (show ∀ wc, Below w7.heap.size w7 wc → Calls Try.prog 12 #[.agg #[.int .i64 za, .slice p2a m2a c2a]] wc fun e w' => ∃ h2, e = .returned (.agg #[.int .i64 za, .slice (some ⟨h2, 0, none⟩) m2a m2a]) ∧ Below w7.heap.size w7 w' ∧ Mats w' h2 0 m2a D2a ∧ w'.cell? ⟨w5.heap.size, 0, none⟩ = some (.int .i64 za) ∧ w'.cell? ⟨w5.heap.size, 1, none⟩ = some (.slice (some ⟨gb5, 0, none⟩) m2a m2a) from fun wc hc => by
        refine (toAlgebra_src za p2a m2a c2a D2a wc (H2a.out.keep hc) M2a.out).mono ?_
        rintro e w' ⟨h2, rfl, hg, hs2, hb⟩
        exact ⟨h2, rfl, keepB hc hb, hs2.mats, (Y.out.keep (keepB hc hb)).c0, (Y.out.keep (keepB hc hb)).c1⟩)
      have S2 := hidden (show ∀ wc h2, Below w7.heap.size w7 wc → Mats wc h2 0 m2a D2a → Calls Try.prog 15 #[.agg #[.int .i64 za, .slice (some ⟨gb5, 0, none⟩) m2a m2a], .agg #[.int .i64 za, .slice (some ⟨h2, 0, none⟩) m2a m2a]] wc fun e w' => e = .returned (.bool true) ∧ Below w7.heap.size w7 w' from fun wc h2 hc hm2 => by
        refine (eqAlgebra_eq _ _ _ _ _ _ _ _ D2a wc (Q2.out.keep hc) hm2 M2a.out).mono ?_
        rintro e w' ⟨rfl, hb⟩
        exact ⟨rfl, keepB hc hb⟩)
      have x0 := Y.out.c0
      have x1 := Y.out.c1
      have e0 := Da.out.c0
      have e1 := Da.out.c1
      go_wp2_with fail
      go_cut [44] (fun t wc => t = .bool false ∧ Below w7.heap.size w7 wc)
      case first =>
        go_region_with (first
          | (go_at_call 12; with_reducible refine (S1.out _ ?_).mono ?_; exact (Below.refl _ _).drew; rintro e v5 ⟨g6', rfl, b5', m6', d5', d6'⟩)
          | (go_at_call 15; with_reducible refine (S2.out _ _ b5' m6').mono ?_; rintro e v6 ⟨rfl, b6'⟩))
        all_goals (go_wp2_with fail; go_meet)
        all_goals exact ⟨rfl, b6'⟩
      case rest =>
        rename World => w8
        obtain ⟨rfl, hb⟩ := hcut
        replace D0 := hidden (D0.out.keep hb)
        replace B := hidden (keepB B.out hb)
        replace Da := hidden (Da.out.keep hb)
        replace H := hidden (H.out.keep hb)
        replace H2a := hidden (H2a.out.keep hb)
        replace Q := hidden (Q.out.keep hb)
        replace X := hidden (X.out.keep hb)
        replace Q2 := hidden (Q2.out.keep hb)
        replace Y := hidden (Y.out.keep hb)
        clear x0 x1 e0 e1 hb S1 S2
        go_wp2_with fail
        go_ret
        exact ⟨rfl, B.out⟩

end Go.Proofs.Ytdcngfdklpdpkaa
