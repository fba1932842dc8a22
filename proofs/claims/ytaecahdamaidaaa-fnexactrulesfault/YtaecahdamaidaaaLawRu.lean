/- Law FnExactRulesFault: at every signature and list of equations the program's RulesFault answers as the model's, and leaves both as they were. -/
import Derived.Test.YtaecahdamaidaaaRu
namespace Go.Proofs.Ytaecahdamaidaaa
open Go.RowKit

set_option maxRecDepth 20000 in
set_option maxHeartbeats 6400000 in
theorem law_ruf (p : Option Addr) (n c : Nat) (N : Nat → ByteArray) (A : Nat → Int) (p' : Option Addr) (m c' : Nat) (D : EqL) (w : World) (h : SrcS w p n N A) (h' : SrcE w p' m D) :
    Calls Try.prog 4 #[.agg #[.slice p n c], .slice p' m c'] w fun e w' => e = .returned (.bool true) ∧ Below w.heap.size w w' := by
  generalize hS : ruF n N A m D = S
  have HS0 := hidden hS
  clear hS
  have D0 := hidden (One.new w (.slice p n c) 24)
  have B := hidden (alloc_below w (.cells #[.slice p n c] 24))
  have H := hidden (h.keep B.out)
  have H' := hidden (h'.keep B.out)
  clear h h'
  go_enter Try.func4, Try.ntmps4
  go_wp2_with fail
  with_reducible refine (szSignature_src p n c N A 1048576 _ H.out (by omega) (by omega)).mono ?_
  rintro e w1 ⟨⟨r1, rfl, hr⟩, hb⟩
  replace D0 := hidden (D0.out.keep hb)
  replace B := hidden (keepB B.out hb)
  replace H := hidden (H.out.keep hb)
  replace H' := hidden (H'.out.keep hb)
  clear hb
  rcases hr with rfl | ⟨q0, q1, q2, q3⟩
  · go_wp2_with fail
    go_ret
    exact ⟨rfl, B.out⟩
  have HK := hidden (Kept.mk q2 q3 H.out.fits)
  clear q2 q3
  go_wp2_with fail
  with_reducible refine (szEquationS_src p' m c' D _ _ H'.out q0 q1).mono ?_
  rintro e w2 ⟨⟨r2, rfl, hr⟩, hb⟩
  replace D0 := hidden (D0.out.keep hb)
  replace B := hidden (keepB B.out hb)
  replace H := hidden (H.out.keep hb)
  replace H' := hidden (H'.out.keep hb)
  clear hb
  clear q0 q1
  rcases hr with rfl | ⟨q0, q1, q2⟩
  · go_wp2_with fail
    go_ret
    exact ⟨rfl, B.out⟩
  have HM := hidden q2
  clear q1 q2
  have d0 := D0.out.c0
  go_wp2_with fail
  with_reducible refine (toSig_new p n c N A _ H.out HK.out).mono ?_
  rintro e w3 ⟨g3, rfl, hg, hl, hs, hb⟩
  replace D0 := hidden (D0.out.keep hb)
  replace B := hidden (keepB B.out hb)
  replace H := hidden (H.out.keep hb)
  replace H' := hidden (H'.out.keep hb)
  clear d0 hb hg hl
  have P1 := hidden (hs)
  clear hs
  go_wp2_with fail
  with_reducible refine (toEqs_new p' m c' D _ H'.out HM.out).mono ?_
  rintro e w4 ⟨g4, rfl, hg, hs, hb⟩
  replace D0 := hidden (D0.out.keep hb)
  replace B := hidden (keepB B.out hb)
  replace H := hidden (H.out.keep hb)
  replace H' := hidden (H'.out.keep hb)
  replace P1 := hidden (P1.out.keep hb)
  clear hb hg
  have P2 := hidden (hs.eqs)
  clear hs
  go_wp2_with fail
  with_reducible refine (specRu_any _ _ _ _ _ _ _ _ N A D _ P1.out P2.out HK.out HM.out).mono ?_
  rw [HS0.out]
  rintro e w5 ⟨rfl, hb⟩
  replace D0 := hidden (D0.out.keep hb)
  replace B := hidden (keepB B.out hb)
  replace H := hidden (H.out.keep hb)
  replace H' := hidden (H'.out.keep hb)
  replace P1 := hidden (P1.out.keep hb)
  replace P2 := hidden (P2.out.keep hb)
  clear hb
  clear P1 P2
  have d0 := D0.out.c0
  go_wp2_with fail
  with_reducible refine (toSig_new p n c N A _ H.out HK.out).mono ?_
  rintro e w6 ⟨g6, rfl, hg, hl, hs, hb⟩
  replace hb := keepB hb (alloc_below _ (.cells #[.slice (some ⟨g6, 0, none⟩) n n] 35))
  replace D0 := hidden (D0.out.keep hb)
  replace B := hidden (keepB B.out hb)
  replace H := hidden (H.out.keep hb)
  replace H' := hidden (H'.out.keep hb)
  clear d0 hb hg hl
  have Q := hidden (hs.keep (alloc_below _ (.cells #[.slice (some ⟨g6, 0, none⟩) n n] 35)))
  clear hs
  have X := hidden (One.new w6 (.slice (some ⟨g6, 0, none⟩) n n) 35)
  go_wp2_with fail
  with_reducible refine (toEqs_new p' m c' D _ H'.out HM.out).mono ?_
  rintro e w7 ⟨g7, rfl, hg, hs, hb⟩
  replace D0 := hidden (D0.out.keep hb)
  replace B := hidden (keepB B.out hb)
  replace H := hidden (H.out.keep hb)
  replace H' := hidden (H'.out.keep hb)
  replace Q := hidden (Q.out.keep hb)
  replace X := hidden (X.out.keep hb)
  clear hb hg
  have Q2 := hidden (hs.eqs)
  clear hs
  have x0 := X.out.c0
  go_wp2_with fail
  with_reducible refine (implRu_any _ _ _ _ _ _ _ _ N A D _ Q.out Q2.out HK.out HM.out).mono ?_
  rw [HS0.out]
  rintro e w8 ⟨rfl, hb⟩
  replace D0 := hidden (D0.out.keep hb)
  replace B := hidden (keepB B.out hb)
  replace H := hidden (H.out.keep hb)
  replace H' := hidden (H'.out.keep hb)
  replace Q := hidden (Q.out.keep hb)
  replace X := hidden (X.out.keep hb)
  replace Q2 := hidden (Q2.out.keep hb)
  clear x0 hb
  have S1 := hidden (show ∀ wc, Below w8.heap.size w8 wc → Calls Try.prog 11 #[.agg #[.slice p n c]] wc fun e w' => ∃ g, e = .returned (.agg #[.slice (some ⟨g, 0, none⟩) n n]) ∧ Below w8.heap.size w8 w' ∧ Syms w' g 0 n N A ∧ w'.cell? ⟨w6.heap.size, 0, none⟩ = some (.slice (some ⟨g6, 0, none⟩) n n) from fun wc hc => by
    refine (toSig_new p n c N A wc (H.out.keep hc) HK.out).mono ?_
    rintro e w' ⟨g, rfl, hg, hl, hs, hb⟩
    exact ⟨g, rfl, keepB hc hb, hs, (X.out.keep (keepB hc hb)).c0⟩)
  have S2 := hidden (show ∀ wc g, Below w8.heap.size w8 wc → Syms wc g 0 n N A → Calls Try.prog 15 #[.agg #[.slice (some ⟨g6, 0, none⟩) n n], .agg #[.slice (some ⟨g, 0, none⟩) n n]] wc fun e w' => e = .returned (.bool true) ∧ Below w8.heap.size w8 w' from fun wc g hc hm => by
    refine (eqSignature_eq g6 0 g 0 n n n N A wc (Q.out.keep hc) hm HK.out.most).mono ?_
    rintro e w' ⟨rfl, hb⟩
    exact ⟨rfl, keepB hc hb⟩)
  have x0 := X.out.c0
  have d0 := D0.out.c0
  go_wp2_with fail
  go_cut [39] (fun t wc => t = .bool false ∧ Below w8.heap.size w8 wc)
  case first =>
    go_region_with (first
      | (go_at_call 11; with_reducible refine (S1.out _ ?_).mono ?_; exact (Below.refl _ _).drew; rintro e v5 ⟨g5', rfl, b5', m5', d5'⟩)
      | (go_at_call 15; with_reducible refine (S2.out _ _ b5' m5').mono ?_; rintro e v6 ⟨rfl, b6'⟩))
    all_goals (go_wp2_with fail; go_meet)
    all_goals exact ⟨rfl, b6'⟩
  case rest =>
    rename World => w9
    obtain ⟨rfl, hb⟩ := hcut
    replace D0 := hidden (D0.out.keep hb)
    replace B := hidden (keepB B.out hb)
    replace H := hidden (H.out.keep hb)
    replace H' := hidden (H'.out.keep hb)
    replace Q := hidden (Q.out.keep hb)
    replace X := hidden (X.out.keep hb)
    replace Q2 := hidden (Q2.out.keep hb)
    clear x0 d0 hb S1 S2
    go_wp2_with fail
    with_reducible refine (toEqs_new p' m c' D _ H'.out HM.out).mono ?_
    rintro e w10 ⟨g10, rfl, hg, hs, hb⟩
    replace D0 := hidden (D0.out.keep hb)
    replace B := hidden (keepB B.out hb)
    replace H := hidden (H.out.keep hb)
    replace H' := hidden (H'.out.keep hb)
    replace Q := hidden (Q.out.keep hb)
    replace X := hidden (X.out.keep hb)
    replace Q2 := hidden (Q2.out.keep hb)
    clear hb hg
    have Q3 := hidden (hs.eqs)
    clear hs
    go_wp2_with fail
    with_reducible refine (eqEquationS_eq _ _ _ _ _ _ _ D _ Q2.out Q3.out HM.out).mono ?_
    rintro e w11 ⟨rfl, hb⟩
    replace D0 := hidden (D0.out.keep hb)
    replace B := hidden (keepB B.out hb)
    replace H := hidden (H.out.keep hb)
    replace H' := hidden (H'.out.keep hb)
    replace Q := hidden (Q.out.keep hb)
    replace X := hidden (X.out.keep hb)
    replace Q2 := hidden (Q2.out.keep hb)
    replace Q3 := hidden (Q3.out.keep hb)
    clear hb
    clear Q3
    go_wp2_with fail
    go_ret
    exact ⟨rfl, B.out⟩

end Go.Proofs.Ytaecahdamaidaaa
