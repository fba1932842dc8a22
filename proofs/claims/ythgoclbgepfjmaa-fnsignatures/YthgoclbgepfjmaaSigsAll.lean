/- The law at every list of bytes. -/
import Derived.Test.YthgoclbgepfjmaaLawSigs
namespace Go.Proofs.Ythgoclbgepfjmaa
open Go.RowKit

set_option maxRecDepth 20000 in
set_option maxHeartbeats 800000 in
theorem law_sigs_big (p : Option Addr) (nn c : Nat) (w : World) (hn : ¬ nn ≤ 1048576) :
    Calls Try.prog 3 #[.slice p nn c] w fun e w' => e = .returned (.bool true) ∧ Below w.heap.size w w' := by
  go_enter Try.func3, Try.ntmps3
  go_wp2_with fail
  with_reducible refine (sgBig_big p nn c w hn).mono ?_
  rintro e w0 ⟨rfl, rfl⟩
  go_wp2
  go_ret
  exact ⟨rfl, Below.refl _ _⟩

theorem law_sigs_all (p : Option Addr) (nn c : Nat) (z : List Int) (w : World) (h : Byt.IsRow .u8 w p nn c z) :
    Calls Try.prog 3 #[.slice p nn c] w fun e w' => e = .returned (.bool true) ∧ Below w.heap.size w w' := by
  by_cases hn : nn ≤ 1048576
  · exact law_sigs p nn c _ w (h.src (by omega)) hn
  · exact law_sigs_big p nn c w hn

end Go.Proofs.Ythgoclbgepfjmaa
