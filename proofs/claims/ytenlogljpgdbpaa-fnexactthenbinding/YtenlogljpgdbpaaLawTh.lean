/- Law FnExactThenBinding: at every signature and two bindings the program's ThenBinding answers as the model's; its answer owns its memory. -/
import Derived.Test.YtenlogljpgdbpaaLawThO
import Derived.Test.YtenlogljpgdbpaaLawThB
import Derived.Deep.RegionHeld3
namespace Go.Proofs.Ytenlogljpgdbpaa
open Go.RowKit

theorem law_th_all (p : Option Addr) (n c : Nat) (N : Nat → ByteArray) (A : Nat → Int) (p1a : Option Addr) (m1a c1a : Nat) (L1a : Nat → Int) (p2a : Option Addr) (m2a c2a : Nat) (D2a : LsL) (p1b : Option Addr) (m1b c1b : Nat) (L1b : Nat → Int) (p2b : Option Addr) (m2b c2b : Nat) (D2b : LsL) (w : World) (h : SrcS w p n N A) (h1a : SrcI w p1a m1a L1a) (h2a : SrcM w p2a m2a D2a) (hx1a : m1a ≤ maxLen) (h1b : SrcI w p1b m1b L1b) (h2b : SrcM w p2b m2b D2b) (hx1b : m1b ≤ maxLen) :
    Calls Try.prog 5 #[.agg #[.slice p n c], .agg #[.slice p1a m1a c1a, .slice p2a m2a c2a], .agg #[.slice p1b m1b c1b, .slice p2b m2b c2b]] w fun e w' => e = .returned (.bool true) ∧ Below w.heap.size w w' := by
  have SP := hidden (fun b b1 b2 b3 b4 w h h1 h2 h3 h4 hk q1 q2 q3 q4 => specThen_any b 0 n n b1 0 m1a m1a b2 0 m2a m2a b3 0 m1b m1b b4 0 m2b m2b N A L1a L1b D2a D2b w h h1 h2 h3 h4 hk q1 q2 q3 q4)
  have IM := hidden (fun b b1 b2 b3 b4 w h h1 h2 h3 h4 hk q1 q2 q3 q4 => implThen_any b 0 n n b1 0 m1a m1a b2 0 m2a m2a b3 0 m1b m1b b4 0 m2b m2b N A L1a L1b D2a D2b w h h1 h2 h3 h4 hk q1 q2 q3 q4)
  by_cases hc : thC n N A m1a L1a m2a D2a m1b L1b m2b D2b = 0 ∧ 0 < cR (thnM m1a L1a D2a m1b L1b D2b)
  · have hl := thC_len hc.1
    exact law_th_ok p n c N A p1a m1a c1a L1a p2a m2a c2a D2a p1b m1b c1b L1b p2b m2b c2b D2b _ _ w h h1a h2a hx1a h1b h2b hx1b hc (keptD hl) (by have a := sumD_le hl (cR (thnM m1a L1a D2a m1b L1b D2b)); have b := cR_le (thnM m1a L1a D2a m1b L1b D2b); omega) SP IM
  · exact law_th_bad p n c N A p1a m1a c1a L1a p2a m2a c2a D2a p1b m1b c1b L1b p2b m2b c2b D2b _ _ w h h1a h2a hx1a h1b h2b hx1b hc SP IM

end Go.Proofs.Ytenlogljpgdbpaa
