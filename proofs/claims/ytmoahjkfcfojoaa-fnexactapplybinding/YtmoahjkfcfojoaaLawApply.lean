/- Law FnExactApplyBinding: at every signature, binding and list of nodes the program's ApplyBinding answers as the model's; its answer owns its memory. -/
import Derived.Test.YtmoahjkfcfojoaaLawApO
import Derived.Test.YtmoahjkfcfojoaaLawApB
namespace Go.Proofs.Ytmoahjkfcfojoaa
open Go.RowKit

set_option maxRecDepth 20000 in
set_option maxHeartbeats 400000 in
theorem law_apply_big (p : Option Addr) (n c : Nat) (p1a : Option Addr) (m1a c1a : Nat) (p2a : Option Addr) (m2a c2a : Nat) (p3 : Option Addr) (m3 c3 : Nat) (w : World) (hm : ¬ m3 ≤ 1048576) :
    Calls Try.prog 4 #[.agg #[.slice p n c], .agg #[.slice p1a m1a c1a, .slice p2a m2a c2a], .slice p3 m3 c3] w fun e w' => e = .returned (.bool true) ∧ Below w.heap.size w w' := by
  have h : (1048576 : Int) < m3 := by omega
  go_enter Try.func4, Try.ntmps4
  go_wp2
  go_ret
  exact ⟨rfl, keepB (alloc_below _ _) (alloc_below _ _)⟩

theorem law_apply_all (p : Option Addr) (n c : Nat) (N : Nat → ByteArray) (A : Nat → Int) (p1a : Option Addr) (m1a c1a : Nat) (L1a : Nat → Int) (p2a : Option Addr) (m2a c2a : Nat) (D2a : LsL) (p3 : Option Addr) (m3 c3 : Nat) (L3 : Nat → Int) (w : World) (h : SrcS w p n N A) (h1a : SrcI w p1a m1a L1a) (h2a : SrcM w p2a m2a D2a) (hx1a : m1a ≤ maxLen) (h3 : SrcI w p3 m3 L3) :
    Calls Try.prog 4 #[.agg #[.slice p n c], .agg #[.slice p1a m1a c1a, .slice p2a m2a c2a], .slice p3 m3 c3] w fun e w' => e = .returned (.bool true) ∧ Below w.heap.size w w' := by
  by_cases hm : m3 ≤ 1048576
  · have SP := hidden (fun b b1 b2 b3 w h h1 h2 h3 hk hm1 hk2 => specApply_any b 0 n n b1 0 m1a m1a b2 0 m2a m2a b3 0 m3 m3 N A L1a D2a L3 w h h1 h2 h3 hk hm1 hk2 hm)
    have IM := hidden (fun b b1 b2 b3 w h h1 h2 h3 hk hm1 hk2 => implApply_any b 0 n n b1 0 m1a m1a b2 0 m2a m2a b3 0 m3 m3 N A L1a D2a L3 w h h1 h2 h3 hk hm1 hk2 hm)
    by_cases hc : apC n N A m1a L1a m2a D2a m3 L3 = 0
    · refine law_apply_ok p n c N A p1a m1a c1a L1a p2a m2a c2a D2a p3 m3 c3 L3 _ _ _ w h h1a h2a hx1a h3 hm hc ?_ SP IM
      exact Nat.le_trans (ap_len hc) (by omega)
    · exact law_apply_bad p n c N A p1a m1a c1a L1a p2a m2a c2a D2a p3 m3 c3 L3 _ _ _ w h h1a h2a hx1a h3 hm hc SP IM
  · exact law_apply_big p n c p1a m1a c1a p2a m2a c2a p3 m3 c3 w hm

end Go.Proofs.Ytmoahjkfcfojoaa
