/- Law FnExactSameEquations: at every two lists of equations the program's SameEquations answers as the model's, and leaves both as they were. -/
import Derived.Test.YtkaoafdemckagaaEqSame
namespace Go.Proofs.Ytkaoafdemckagaa
open Go.RowKit

set_option maxRecDepth 20000 in
set_option maxHeartbeats 6400000 in
theorem law_sameE (p : Option Addr) (n c : Nat) (D : EqL) (p' : Option Addr) (m c' : Nat) (E : EqL) (w : World) (h : SrcE w p n D) (h' : SrcE w p' m E) :
    Calls Try.prog 7 #[.slice p n c, .slice p' m c'] w fun e w' => e = .returned (.bool true) ∧ Below w.heap.size w w' := by
  generalize hS : sameE n m D E = S
  have HS := hidden hS
  have H := hidden h
  have H' := hidden h'
  have B := hidden (Below.refl w.heap.size w)
  clear h h' hS
  go_enter Try.func7, Try.ntmps7
  go_wp2_with fail
  with_reducible refine (szEquationS_src p n c D 1048576 _ H.out (by omega) (by omega)).mono ?_
  rintro e w1 ⟨⟨r1, rfl, hr⟩, hb⟩
  replace B := hidden (keepB B.out hb)
  replace H := hidden (H.out.keep hb)
  replace H' := hidden (H'.out.keep hb)
  clear hb
  rcases hr with rfl | ⟨q0, q1, q2⟩
  · go_wp2_with fail
    go_ret
    exact ⟨rfl, B.out⟩
  have HK := hidden q2
  clear q2
  go_wp2_with fail
  with_reducible refine (szEquationS_src p' m c' E _ _ H'.out q0 q1).mono ?_
  rintro e w2 ⟨⟨r2, rfl, hr⟩, hb⟩
  replace B := hidden (keepB B.out hb)
  replace H := hidden (H.out.keep hb)
  replace H' := hidden (H'.out.keep hb)
  clear hb q0 q1
  rcases hr with rfl | ⟨q0, q1, q2⟩
  · go_wp2_with fail
    go_ret
    exact ⟨rfl, B.out⟩
  have HK' := hidden q2
  clear q2 q1
  go_wp2_with fail
  with_reducible refine (toEqs_new p n c D _ H.out HK.out).mono ?_
  rintro e w3 ⟨g3, rfl, hg, ho, hb⟩
  replace B := hidden (keepB B.out hb)
  replace H := hidden (H.out.keep hb)
  replace H' := hidden (H'.out.keep hb)
  have P1 := hidden ho.eqs
  clear ho hg
  clear hb
  go_wp2_with fail
  with_reducible refine (toEqs_new p' m c' E _ H'.out HK'.out).mono ?_
  rintro e w4 ⟨g4, rfl, hg, ho, hb⟩
  replace B := hidden (keepB B.out hb)
  replace H := hidden (H.out.keep hb)
  replace H' := hidden (H'.out.keep hb)
  replace P1 := hidden (P1.out.keep hb)
  have P2 := hidden ho.eqs
  clear ho hg
  clear hb
  go_wp2_with fail
  with_reducible refine (specSameE_any _ _ _ _ _ _ _ _ D E _ P1.out P2.out HK.out).mono ?_
  rintro e w5 ⟨rfl, hb⟩
  rw [HS.out]
  replace B := hidden (keepB B.out hb)
  replace H := hidden (H.out.keep hb)
  replace H' := hidden (H'.out.keep hb)
  replace P1 := hidden (P1.out.keep hb)
  replace P2 := hidden (P2.out.keep hb)
  clear hb
  clear P1 P2
  go_wp2_with fail
  with_reducible refine (toEqs_new p n c D _ H.out HK.out).mono ?_
  rintro e w6 ⟨g6, rfl, hg, ho, hb⟩
  replace B := hidden (keepB B.out hb)
  replace H := hidden (H.out.keep hb)
  replace H' := hidden (H'.out.keep hb)
  have Q1 := hidden ho.eqs
  clear ho hg
  clear hb
  go_wp2_with fail
  with_reducible refine (toEqs_new p' m c' E _ H'.out HK'.out).mono ?_
  rintro e w7 ⟨g7, rfl, hg, ho, hb⟩
  replace B := hidden (keepB B.out hb)
  replace H := hidden (H.out.keep hb)
  replace H' := hidden (H'.out.keep hb)
  replace Q1 := hidden (Q1.out.keep hb)
  have Q2 := hidden ho.eqs
  clear ho hg
  clear hb
  go_wp2_with fail
  with_reducible refine (implSameE_any _ _ _ _ _ _ _ _ D E _ Q1.out Q2.out HK.out).mono ?_
  rintro e w8 ⟨rfl, hb⟩
  rw [HS.out]
  replace B := hidden (keepB B.out hb)
  replace H := hidden (H.out.keep hb)
  replace H' := hidden (H'.out.keep hb)
  replace Q1 := hidden (Q1.out.keep hb)
  replace Q2 := hidden (Q2.out.keep hb)
  clear hb
  go_wp2_with fail
  with_reducible refine (toEqs_new p n c D _ H.out HK.out).mono ?_
  rintro e w9 ⟨g9, rfl, hg, ho, hb⟩
  replace B := hidden (keepB B.out hb)
  replace H := hidden (H.out.keep hb)
  replace H' := hidden (H'.out.keep hb)
  replace Q1 := hidden (Q1.out.keep hb)
  replace Q2 := hidden (Q2.out.keep hb)
  have P1 := hidden ho.eqs
  clear ho hg
  clear hb
  go_wp2_with fail
  with_reducible refine (eqEquationS_eq _ _ _ _ _ _ _ D _ Q1.out P1.out HK.out).mono ?_
  rintro e w10 ⟨rfl, hb⟩
  replace B := hidden (keepB B.out hb)
  replace H := hidden (H.out.keep hb)
  replace H' := hidden (H'.out.keep hb)
  replace Q1 := hidden (Q1.out.keep hb)
  replace Q2 := hidden (Q2.out.keep hb)
  replace P1 := hidden (P1.out.keep hb)
  clear hb
  go_wp2_with fail
  with_reducible refine (toEqs_new p' m c' E _ H'.out HK'.out).mono ?_
  rintro e w11 ⟨g11, rfl, hg, ho, hb⟩
  replace B := hidden (keepB B.out hb)
  replace H := hidden (H.out.keep hb)
  replace H' := hidden (H'.out.keep hb)
  replace Q1 := hidden (Q1.out.keep hb)
  replace Q2 := hidden (Q2.out.keep hb)
  replace P1 := hidden (P1.out.keep hb)
  have P2 := hidden ho.eqs
  clear ho hg
  clear hb
  go_wp2_with fail
  with_reducible refine (eqEquationS_eq _ _ _ _ _ _ _ E _ Q2.out P2.out HK'.out).mono ?_
  rintro e w12 ⟨rfl, hb⟩
  replace B := hidden (keepB B.out hb)
  replace H := hidden (H.out.keep hb)
  replace H' := hidden (H'.out.keep hb)
  replace Q1 := hidden (Q1.out.keep hb)
  replace Q2 := hidden (Q2.out.keep hb)
  replace P1 := hidden (P1.out.keep hb)
  replace P2 := hidden (P2.out.keep hb)
  clear hb
  go_wp2_with fail
  go_ret
  exact ⟨rfl, B.out⟩

end Go.Proofs.Ytkaoafdemckagaa
