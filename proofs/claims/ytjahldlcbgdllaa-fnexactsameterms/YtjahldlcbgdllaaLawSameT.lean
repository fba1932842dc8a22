/- Law FnExactSameTerms: at every two lists of numbers the program's SameTerms answers as the model's, and leaves both as they were. -/
import Derived.Test.YtjahldlcbgdllaaSameT
namespace Go.Proofs.Ytjahldlcbgdllaa
open Go.RowKit

set_option maxRecDepth 20000 in
set_option maxHeartbeats 6400000 in
theorem law_same (p : Option Addr) (m c : Nat) (L : Nat → Int) (p' : Option Addr) (k c' : Nat) (M : Nat → Int) (w : World) (h : SrcI w p m L) (h' : SrcI w p' k M) (hm : m ≤ 1048576) (hk : k ≤ 1048576) :
    Calls Try.prog 11 #[.slice p m c, .slice p' k c'] w fun e w' => e = .returned (.bool true) ∧ Below w.heap.size w w' := by
  generalize hS : sameI m k L M = z
  have HS0 := hidden hS
  clear hS
  have B := hidden (Below.refl w.heap.size w)
  have H := hidden (h)
  have H' := hidden (h')
  have HM := hidden hm
  have HK := hidden hk
  clear h h'
  go_enter Try.func11, Try.ntmps11
  go_wp2_with fail
  with_reducible refine (toInts_new p m c L _ H.out HM.out).mono ?_
  rintro e w1 ⟨g1, rfl, hs, hb⟩
  replace B := hidden (keepB B.out hb)
  replace H := hidden (H.out.keep hb)
  replace H' := hidden (H'.out.keep hb)
  clear hb
  have P1 := hidden (hs)
  clear hs
  go_wp2_with fail
  with_reducible refine (toInts_new p' k c' M _ H'.out HK.out).mono ?_
  rintro e w2 ⟨g2, rfl, hs, hb⟩
  replace B := hidden (keepB B.out hb)
  replace H := hidden (H.out.keep hb)
  replace H' := hidden (H'.out.keep hb)
  replace P1 := hidden (P1.out.keep hb)
  clear hb
  have P2 := hidden (hs)
  clear hs
  go_wp2_with fail
  with_reducible refine (specSameT_any _ _ _ _ _ _ _ _ L M _ P1.out P2.out HM.out).mono ?_
  rw [HS0.out]
  rintro e w3 ⟨rfl, hb⟩
  replace B := hidden (keepB B.out hb)
  replace H := hidden (H.out.keep hb)
  replace H' := hidden (H'.out.keep hb)
  replace P1 := hidden (P1.out.keep hb)
  replace P2 := hidden (P2.out.keep hb)
  clear hb
  clear P1 P2
  go_wp2_with fail
  with_reducible refine (toInts_new p m c L _ H.out HM.out).mono ?_
  rintro e w4 ⟨g4, rfl, hs, hb⟩
  replace B := hidden (keepB B.out hb)
  replace H := hidden (H.out.keep hb)
  replace H' := hidden (H'.out.keep hb)
  clear hb
  have Q1 := hidden (hs)
  clear hs
  go_wp2_with fail
  with_reducible refine (toInts_new p' k c' M _ H'.out HK.out).mono ?_
  rintro e w5 ⟨g5, rfl, hs, hb⟩
  replace B := hidden (keepB B.out hb)
  replace H := hidden (H.out.keep hb)
  replace H' := hidden (H'.out.keep hb)
  replace Q1 := hidden (Q1.out.keep hb)
  clear hb
  have Q2 := hidden (hs)
  clear hs
  go_wp2_with fail
  with_reducible refine (implSameT_any _ _ _ _ _ _ _ _ L M _ Q1.out Q2.out HM.out).mono ?_
  rw [HS0.out]
  rintro e w6 ⟨rfl, hb⟩
  replace B := hidden (keepB B.out hb)
  replace H := hidden (H.out.keep hb)
  replace H' := hidden (H'.out.keep hb)
  replace Q1 := hidden (Q1.out.keep hb)
  replace Q2 := hidden (Q2.out.keep hb)
  clear hb
  go_wp2_with fail
  with_reducible refine (toInts_new p m c L _ H.out HM.out).mono ?_
  rintro e w7 ⟨g7, rfl, hs, hb⟩
  replace B := hidden (keepB B.out hb)
  replace H := hidden (H.out.keep hb)
  replace H' := hidden (H'.out.keep hb)
  replace Q1 := hidden (Q1.out.keep hb)
  replace Q2 := hidden (Q2.out.keep hb)
  clear hb
  have P1 := hidden (hs)
  clear hs
  go_wp2_with fail
  with_reducible refine (eqInt64S_eq _ _ _ _ _ _ _ L _ Q1.out P1.out HM.out).mono ?_
  rintro e w8 ⟨rfl, hb⟩
  replace B := hidden (keepB B.out hb)
  replace H := hidden (H.out.keep hb)
  replace H' := hidden (H'.out.keep hb)
  replace Q1 := hidden (Q1.out.keep hb)
  replace Q2 := hidden (Q2.out.keep hb)
  replace P1 := hidden (P1.out.keep hb)
  clear hb
  clear P1 Q1
  go_wp2_with fail
  with_reducible refine (toInts_new p' k c' M _ H'.out HK.out).mono ?_
  rintro e w9 ⟨g9, rfl, hs, hb⟩
  replace B := hidden (keepB B.out hb)
  replace H := hidden (H.out.keep hb)
  replace H' := hidden (H'.out.keep hb)
  replace Q2 := hidden (Q2.out.keep hb)
  clear hb
  have P2 := hidden (hs)
  clear hs
  go_wp2_with fail
  with_reducible refine (eqInt64S_eq _ _ _ _ _ _ _ M _ Q2.out P2.out HK.out).mono ?_
  rintro e w10 ⟨rfl, hb⟩
  replace B := hidden (keepB B.out hb)
  replace H := hidden (H.out.keep hb)
  replace H' := hidden (H'.out.keep hb)
  replace Q2 := hidden (Q2.out.keep hb)
  replace P2 := hidden (P2.out.keep hb)
  clear hb
  go_wp2_with fail
  go_ret
  exact ⟨rfl, B.out⟩

set_option maxHeartbeats 400000 in
theorem law_same_big1 (p : Option Addr) (m c : Nat) (p' : Option Addr) (k c' : Nat) (w : World) (hm : ¬ m ≤ 1048576) :
    Calls Try.prog 11 #[.slice p m c, .slice p' k c'] w fun e w' => e = .returned (.bool true) ∧ Below w.heap.size w w' := by
  have h : (1048576 : Int) < m := by omega
  go_enter Try.func11, Try.ntmps11
  go_wp2
  go_ret
  exact ⟨rfl, Below.refl _ _⟩

set_option maxHeartbeats 400000 in
theorem law_same_big2 (p : Option Addr) (m c : Nat) (p' : Option Addr) (k c' : Nat) (w : World) (hm : m ≤ 1048576) (hk : ¬ k ≤ 1048576) :
    Calls Try.prog 11 #[.slice p m c, .slice p' k c'] w fun e w' => e = .returned (.bool true) ∧ Below w.heap.size w w' := by
  have h : (1048576 : Int) < k := by omega
  have h2 : ¬ (1048576 : Int) < m := by omega
  go_enter Try.func11, Try.ntmps11
  go_wp2
  go_ret
  exact ⟨rfl, Below.refl _ _⟩

theorem law_same_all (p : Option Addr) (m c : Nat) (L : Nat → Int) (p' : Option Addr) (k c' : Nat) (M : Nat → Int) (w : World) (h : SrcI w p m L) (h' : SrcI w p' k M) :
    Calls Try.prog 11 #[.slice p m c, .slice p' k c'] w fun e w' => e = .returned (.bool true) ∧ Below w.heap.size w w' := by
  by_cases hm : m ≤ 1048576
  · by_cases hk : k ≤ 1048576
    · exact law_same p m c L p' k c' M w h h' hm hk
    · exact law_same_big2 p m c p' k c' w hm hk
  · exact law_same_big1 p m c p' k c' w hm

end Go.Proofs.Ytjahldlcbgdllaa
