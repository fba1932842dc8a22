/- Contracts: what the functions on precedences and terms answer where there is no symbol. -/
import Derived.Test.YthgoclbgepfjmaaRank
namespace Go.Proofs.Ythgoclbgepfjmaa
open Go.RowKit

theorem specFault_nil (w : World) : Calls Try.prog 12 #[.agg #[.slice none 0 0]] w fun e w' => e = .returned (.int .i64 2) ∧ Below w.heap.size w w' := by
  have h := specFault_many none 0 0 w (Or.inl (by omega)) (fun _ => ByteArray.empty) (fun _ => 0)
  rw [show faultF 0 (fun _ => ByteArray.empty) (fun _ => 0) = 2 by rw [faultF, if_pos (Or.inl (by omega))]] at h
  exact h

theorem implFault_nil (w : World) : Calls Try.prog 13 #[.agg #[.slice none 0 0]] w fun e w' => e = .returned (.int .i64 2) ∧ Below w.heap.size w w' := by
  have h := implFault_many none 0 0 w (Or.inl (by omega)) (fun _ => ByteArray.empty) (fun _ => 0)
  rw [show faultF 0 (fun _ => ByteArray.empty) (fun _ => 0) = 2 by rw [faultF, if_pos (Or.inl (by omega))]] at h
  exact h

set_option maxRecDepth 20000 in
set_option maxHeartbeats 400000 in
theorem specOrder_nil (p' : Option Addr) (m c' : Nat) (w : World) : Calls Try.prog 24 #[.agg #[.slice none 0 0], .slice p' m c'] w fun e w' => e = .returned (.int .i64 2) ∧ Below w.heap.size w w' := by
  go_enter Try.func24, Try.ntmps24
  go_wp2_with fail
  with_reducible refine (specFault_nil _).mono ?_
  rintro e w1 ⟨rfl, hb⟩
  have B := hidden (keepB (alloc_below _ _) hb)
  clear hb
  go_wp2
  go_ret
  exact ⟨rfl, B.out⟩

set_option maxRecDepth 20000 in
set_option maxHeartbeats 400000 in
theorem implOrder_nil (p' : Option Addr) (m c' : Nat) (w : World) : Calls Try.prog 23 #[.agg #[.slice none 0 0], .slice p' m c'] w fun e w' => e = .returned (.int .i64 2) ∧ Below w.heap.size w w' := by
  go_enter Try.func23, Try.ntmps23
  go_wp2_with fail
  with_reducible refine (implFault_nil _).mono ?_
  rintro e w1 ⟨rfl, hb⟩
  have B := hidden (keepB (alloc_below _ _) hb)
  clear hb
  go_wp2
  go_ret
  exact ⟨rfl, B.out⟩

set_option maxRecDepth 20000 in
set_option maxHeartbeats 800000 in
theorem specRank_nil (p' : Option Addr) (m c' : Nat) (x : Int) (w : World) : Calls Try.prog 26 #[.agg #[.slice none 0 0], .slice p' m c', .int .i64 x] w fun e w' => e = .returned (.agg #[.int .i64 2, .int .i64 0]) ∧ Below w.heap.size w w' := by
  have R := hidden (Res.new (w.alloc (.cells #[.slice none 0 0] 26)) (.int .i64 0) (.int .i64 0) 38)
  have B := hidden (keepB (alloc_below w (.cells #[.slice none 0 0] 26)) (alloc_below _ (.cells #[.int .i64 0, .int .i64 0] 38)))
  rw [World.size_alloc] at R
  go_enter Try.func26, Try.ntmps26
  go_wp2_with fail
  with_reducible refine (specOrder_nil _ _ _ _).mono ?_
  rintro e w1 ⟨rfl, hb⟩
  replace R := hidden (R.out.keep hb)
  replace B := hidden (keepB B.out hb)
  clear hb
  obtain ⟨_, q0, q1, f0, f1⟩ := id R.out
  go_wp2
  exact bodyPost_ret (v := .agg #[.int .i64 2, .int .i64 0]) (by simp [results, Try.results26, go_sem, q0, q1]) rfl ⟨rfl, (B.out.setCell (by simp) _).setCell (by simp) _⟩

set_option maxRecDepth 20000 in
set_option maxHeartbeats 800000 in
theorem implRank_nil (p' : Option Addr) (m c' : Nat) (x : Int) (w : World) : Calls Try.prog 25 #[.agg #[.slice none 0 0], .slice p' m c', .int .i64 x] w fun e w' => e = .returned (.agg #[.int .i64 2, .int .i64 0]) ∧ Below w.heap.size w w' := by
  have R := hidden (Res.new (w.alloc (.cells #[.slice none 0 0] 26)) (.int .i64 0) (.int .i64 0) 38)
  have B := hidden (keepB (alloc_below w (.cells #[.slice none 0 0] 26)) (alloc_below _ (.cells #[.int .i64 0, .int .i64 0] 38)))
  rw [World.size_alloc] at R
  go_enter Try.func25, Try.ntmps25
  go_wp2_with fail
  with_reducible refine (implOrder_nil _ _ _ _).mono ?_
  rintro e w1 ⟨rfl, hb⟩
  replace R := hidden (R.out.keep hb)
  replace B := hidden (keepB B.out hb)
  clear hb
  obtain ⟨_, q0, q1, f0, f1⟩ := id R.out
  go_wp2
  exact bodyPost_ret (v := .agg #[.int .i64 2, .int .i64 0]) (by simp [results, Try.results25, go_sem, q0, q1]) rfl ⟨rfl, (B.out.setCell (by simp) _).setCell (by simp) _⟩

set_option maxRecDepth 20000 in
set_option maxHeartbeats 800000 in
theorem specRaise_nil (p' : Option Addr) (m c' : Nat) (x : Int) (w : World) : Calls Try.prog 22 #[.agg #[.slice none 0 0], .slice p' m c', .int .i64 x] w fun e w' => e = .returned (.agg #[.int .i64 2, .slice none 0 0]) ∧ Below w.heap.size w w' := by
  have R := hidden (Res.new (w.alloc (.cells #[.slice none 0 0] 26)) (.int .i64 0) (.slice none 0 0) 48)
  have B := hidden (keepB (alloc_below w (.cells #[.slice none 0 0] 26)) (alloc_below _ (.cells #[.int .i64 0, .slice none 0 0] 48)))
  rw [World.size_alloc] at R
  go_enter Try.func22, Try.ntmps22
  go_wp2_with fail
  with_reducible refine (specOrder_nil _ _ _ _).mono ?_
  rintro e w1 ⟨rfl, hb⟩
  replace R := hidden (R.out.keep hb)
  replace B := hidden (keepB B.out hb)
  clear hb
  obtain ⟨_, q0, q1, f0, f1⟩ := id R.out
  go_wp2
  exact bodyPost_ret (v := .agg #[.int .i64 2, .slice none 0 0]) (by simp [results, Try.results22, go_sem, q0, q1]) rfl ⟨rfl, (B.out.setCell (by simp) _).setCell (by simp) _⟩

set_option maxRecDepth 20000 in
set_option maxHeartbeats 800000 in
theorem implRaise_nil (p' : Option Addr) (m c' : Nat) (x : Int) (w : World) : Calls Try.prog 21 #[.agg #[.slice none 0 0], .slice p' m c', .int .i64 x] w fun e w' => e = .returned (.agg #[.int .i64 2, .slice none 0 0]) ∧ Below w.heap.size w w' := by
  have R := hidden (Res.new (w.alloc (.cells #[.slice none 0 0] 26)) (.int .i64 0) (.slice none 0 0) 48)
  have B := hidden (keepB (alloc_below w (.cells #[.slice none 0 0] 26)) (alloc_below _ (.cells #[.int .i64 0, .slice none 0 0] 48)))
  rw [World.size_alloc] at R
  go_enter Try.func21, Try.ntmps21
  go_wp2_with fail
  with_reducible refine (implRank_nil _ _ _ _ _).mono ?_
  rintro e w1 ⟨rfl, hb⟩
  have V := Two.new w1 (.int .i64 2) (.int .i64 0) 38
  obtain ⟨_, v0, v1⟩ := V
  replace hb := keepB hb (alloc_below _ (.cells #[.int .i64 2, .int .i64 0] 38))
  replace R := hidden (R.out.keep hb)
  replace B := hidden (keepB B.out hb)
  clear hb
  obtain ⟨_, q0, q1, f0, f1⟩ := id R.out
  go_wp2
  exact bodyPost_ret (v := .agg #[.int .i64 2, .slice none 0 0]) (by simp [results, Try.results21, go_sem, q0, q1]) rfl ⟨rfl, (B.out.setCell (by simp) _).setCell (by simp) _⟩

set_option maxRecDepth 20000 in
set_option maxHeartbeats 400000 in
theorem specTerm_nil (p' : Option Addr) (m c' : Nat) (w : World) : Calls Try.prog 37 #[.agg #[.slice none 0 0], .slice p' m c'] w fun e w' => e = .returned (.int .i64 2) ∧ Below w.heap.size w w' := by
  go_enter Try.func37, Try.ntmps37
  go_wp2_with fail
  with_reducible refine (specFault_nil _).mono ?_
  rintro e w1 ⟨rfl, hb⟩
  have B := hidden (keepB (alloc_below _ _) hb)
  clear hb
  go_wp2
  go_ret
  exact ⟨rfl, B.out⟩

set_option maxRecDepth 20000 in
set_option maxHeartbeats 400000 in
theorem implTerm_nil (p' : Option Addr) (m c' : Nat) (w : World) : Calls Try.prog 34 #[.agg #[.slice none 0 0], .slice p' m c'] w fun e w' => e = .returned (.int .i64 2) ∧ Below w.heap.size w w' := by
  go_enter Try.func34, Try.ntmps34
  go_wp2_with fail
  with_reducible refine (implFault_nil _).mono ?_
  rintro e w1 ⟨rfl, hb⟩
  have B := hidden (keepB (alloc_below _ _) hb)
  clear hb
  go_wp2
  go_ret
  exact ⟨rfl, B.out⟩

end Go.Proofs.Ythgoclbgepfjmaa
