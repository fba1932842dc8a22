/- Contracts: what the functions on precedences and terms answer where there is no symbol. -/
import Derived.Test.YtjjpkhlbokfjpaaRank
namespace Go.Proofs.Ytjjpkhlbokfjpaa
open Go.RowKit

theorem specFault_nil (w : World) : Calls Try.prog 50 #[.agg #[.slice none 0 0]] w fun e w' => e = .returned (.int .i64 2) ∧ Below w.heap.size w w' := by
  have h := specFault_many none 0 0 w (Or.inl (by omega)) (fun _ => ByteArray.empty) (fun _ => 0)
  rw [show faultF 0 (fun _ => ByteArray.empty) (fun _ => 0) = 2 by rw [faultF, if_pos (Or.inl (by omega))]] at h
  exact h

theorem implFault_nil (w : World) : Calls Try.prog 42 #[.agg #[.slice none 0 0]] w fun e w' => e = .returned (.int .i64 2) ∧ Below w.heap.size w w' := by
  have h := implFault_many none 0 0 w (Or.inl (by omega)) (fun _ => ByteArray.empty) (fun _ => 0)
  rw [show faultF 0 (fun _ => ByteArray.empty) (fun _ => 0) = 2 by rw [faultF, if_pos (Or.inl (by omega))]] at h
  exact h

set_option maxRecDepth 20000 in
set_option maxHeartbeats 400000 in
theorem specTerm_nil (p' : Option Addr) (m c' : Nat) (w : World) : Calls Try.prog 37 #[.agg #[.slice none 0 0], .slice p' m c'] w fun e w' => e = .returned (.int .i64 2) ∧ Below w.heap.size w w' := by
  go_enter Try.func37, Try.ntmps37
  go_wp2_with fail
  with_reducible refine (specFault_nil _).mono ?_
  rintro e w1 ⟨rfl, hb⟩
  have B := hidden (keepB (alloc_below _ _) hb)
  clear hb
  go_wp2
  go_ret
  exact ⟨rfl, B.out⟩

set_option maxRecDepth 20000 in
set_option maxHeartbeats 400000 in
theorem implTerm_nil (p' : Option Addr) (m c' : Nat) (w : World) : Calls Try.prog 14 #[.agg #[.slice none 0 0], .slice p' m c'] w fun e w' => e = .returned (.int .i64 2) ∧ Below w.heap.size w w' := by
  go_enter Try.func14, Try.ntmps14
  go_wp2_with fail
  with_reducible refine (implFault_nil _).mono ?_
  rintro e w1 ⟨rfl, hb⟩
  have B := hidden (keepB (alloc_below _ _) hb)
  clear hb
  go_wp2
  go_ret
  exact ⟨rfl, B.out⟩

end Go.Proofs.Ytjjpkhlbokfjpaa
