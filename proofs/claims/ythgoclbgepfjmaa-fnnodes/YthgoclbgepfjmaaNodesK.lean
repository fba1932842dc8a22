/- What the laws on nodes need: answers where there is no symbol, fields, and what was drawn. -/
import Derived.Test.YthgoclbgepfjmaaRank
import Derived.Test.YthgoclbgepfjmaaDrawTerm
import Derived.Test.YthgoclbgepfjmaaNodeB
/- Contracts: what the functions on precedences and terms answer where there is no symbol. -/
namespace Go.Proofs.Ythgoclbgepfjmaa
open Go.RowKit

theorem specFault_nil (w : World) : Calls Try.prog 12 #[.agg #[.slice none 0 0]] w fun e w' => e = .returned (.int .i64 2) ∧ Below w.heap.size w w' := by
  have h := specFault_many none 0 0 w (Or.inl (by omega)) (fun _ => ByteArray.empty) (fun _ => 0)
  rw [show faultF 0 (fun _ => ByteArray.empty) (fun _ => 0) = 2 by rw [faultF, if_pos (Or.inl (by omega))]] at h
  exact h

theorem implFault_nil (w : World) : Calls Try.prog 13 #[.agg #[.slice none 0 0]] w fun e w' => e = .returned (.int .i64 2) ∧ Below w.heap.size w w' := by
  have h := implFault_many none 0 0 w (Or.inl (by omega)) (fun _ => ByteArray.empty) (fun _ => 0)
  rw [show faultF 0 (fun _ => ByteArray.empty) (fun _ => 0) = 2 by rw [faultF, if_pos (Or.inl (by omega))]] at h
  exact h

set_option maxRecDepth 20000 in
set_option maxHeartbeats 400000 in
theorem specOrder_nil (p' : Option Addr) (m c' : Nat) (w : World) : Calls Try.prog 24 #[.agg #[.slice none 0 0], .slice p' m c'] w fun e w' => e = .returned (.int .i64 2) ∧ Below w.heap.size w w' := by
  go_enter Try.func24, Try.ntmps24
  go_wp2_with fail
  with_reducible refine (specFault_nil _).mono ?_
  rintro e w1 ⟨rfl, hb⟩
  have B := hidden (keepB (alloc_below _ _) hb)
  clear hb
  go_wp2
  go_ret
  exact ⟨rfl, B.out⟩

set_option maxRecDepth 20000 in
set_option maxHeartbeats 400000 in
theorem implOrder_nil (p' : Option Addr) (m c' : Nat) (w : World) : Calls Try.prog 23 #[.agg #[.slice none 0 0], .slice p' m c'] w fun e w' => e = .returned (.int .i64 2) ∧ Below w.heap.size w w' := by
  go_enter Try.func23, Try.ntmps23
  go_wp2_with fail
  with_reducible refine (implFault_nil _).mono ?_
  rintro e w1 ⟨rfl, hb⟩
  have B := hidden (keepB (alloc_below _ _) hb)
  clear hb
  go_wp2
  go_ret
  exact ⟨rfl, B.out⟩

set_option maxRecDepth 20000 in
set_option maxHeartbeats 800000 in
theorem specRank_nil (p' : Option Addr) (m c' : Nat) (x : Int) (w : World) : Calls Try.prog 26 #[.agg #[.slice none 0 0], .slice p' m c', .int .i64 x] w fun e w' => e = .returned (.agg #[.int .i64 2, .int .i64 0]) ∧ Below w.heap.size w w' := by
  have R := hidden (Res.new (w.alloc (.cells #[.slice none 0 0] 26)) (.int .i64 0) (.int .i64 0) 38)
  have B := hidden (keepB (alloc_below w (.cells #[.slice none 0 0] 26)) (alloc_below _ (.cells #[.int .i64 0, .int .i64 0] 38)))
  rw [World.size_alloc] at R
  go_enter Try.func26, Try.ntmps26
  go_wp2_with fail
  with_reducible refine (specOrder_nil _ _ _ _).mono ?_
  rintro e w1 ⟨rfl, hb⟩
  replace R := hidden (R.out.keep hb)
  replace B := hidden (keepB B.out hb)
  clear hb
  obtain ⟨_, q0, q1, f0, f1⟩ := id R.out
  go_wp2
  exact bodyPost_ret (v := .agg #[.int .i64 2, .int .i64 0]) (by simp [results, Try.results26, go_sem, q0, q1]) rfl ⟨rfl, (B.out.setCell (by simp) _).setCell (by simp) _⟩

set_option maxRecDepth 20000 in
set_option maxHeartbeats 800000 in
theorem implRank_nil (p' : Option Addr) (m c' : Nat) (x : Int) (w : World) : Calls Try.prog 25 #[.agg #[.slice none 0 0], .slice p' m c', .int .i64 x] w fun e w' => e = .returned (.agg #[.int .i64 2, .int .i64 0]) ∧ Below w.heap.size w w' := by
  have R := hidden (Res.new (w.alloc (.cells #[.slice none 0 0] 26)) (.int .i64 0) (.int .i64 0) 38)
  have B := hidden (keepB (alloc_below w (.cells #[.slice none 0 0] 26)) (alloc_below _ (.cells #[.int .i64 0, .int .i64 0] 38)))
  rw [World.size_alloc] at R
  go_enter Try.func25, Try.ntmps25
  go_wp2_with fail
  with_reducible refine (implOrder_nil _ _ _ _).mono ?_
  rintro e w1 ⟨rfl, hb⟩
  replace R := hidden (R.out.keep hb)
  replace B := hidden (keepB B.out hb)
  clear hb
  obtain ⟨_, q0, q1, f0, f1⟩ := id R.out
  go_wp2
  exact bodyPost_ret (v := .agg #[.int .i64 2, .int .i64 0]) (by simp [results, Try.results25, go_sem, q0, q1]) rfl ⟨rfl, (B.out.setCell (by simp) _).setCell (by simp) _⟩

set_option maxRecDepth 20000 in
set_option maxHeartbeats 800000 in
theorem specRaise_nil (p' : Option Addr) (m c' : Nat) (x : Int) (w : World) : Calls Try.prog 22 #[.agg #[.slice none 0 0], .slice p' m c', .int .i64 x] w fun e w' => e = .returned (.agg #[.int .i64 2, .slice none 0 0]) ∧ Below w.heap.size w w' := by
  have R := hidden (Res.new (w.alloc (.cells #[.slice none 0 0] 26)) (.int .i64 0) (.slice none 0 0) 48)
  have B := hidden (keepB (alloc_below w (.cells #[.slice none 0 0] 26)) (alloc_below _ (.cells #[.int .i64 0, .slice none 0 0] 48)))
  rw [World.size_alloc] at R
  go_enter Try.func22, Try.ntmps22
  go_wp2_with fail
  with_reducible refine (specOrder_nil _ _ _ _).mono ?_
  rintro e w1 ⟨rfl, hb⟩
  replace R := hidden (R.out.keep hb)
  replace B := hidden (keepB B.out hb)
  clear hb
  obtain ⟨_, q0, q1, f0, f1⟩ := id R.out
  go_wp2
  exact bodyPost_ret (v := .agg #[.int .i64 2, .slice none 0 0]) (by simp [results, Try.results22, go_sem, q0, q1]) rfl ⟨rfl, (B.out.setCell (by simp) _).setCell (by simp) _⟩

set_option maxRecDepth 20000 in
set_option maxHeartbeats 800000 in
theorem implRaise_nil (p' : Option Addr) (m c' : Nat) (x : Int) (w : World) : Calls Try.prog 21 #[.agg #[.slice none 0 0], .slice p' m c', .int .i64 x] w fun e w' => e = .returned (.agg #[.int .i64 2, .slice none 0 0]) ∧ Below w.heap.size w w' := by
  have R := hidden (Res.new (w.alloc (.cells #[.slice none 0 0] 26)) (.int .i64 0) (.slice none 0 0) 48)
  have B := hidden (keepB (alloc_below w (.cells #[.slice none 0 0] 26)) (alloc_below _ (.cells #[.int .i64 0, .slice none 0 0] 48)))
  rw [World.size_alloc] at R
  go_enter Try.func21, Try.ntmps21
  go_wp2_with fail
  with_reducible refine (implRank_nil _ _ _ _ _).mono ?_
  rintro e w1 ⟨rfl, hb⟩
  have V := Two.new w1 (.int .i64 2) (.int .i64 0) 38
  obtain ⟨_, v0, v1⟩ := V
  replace hb := keepB hb (alloc_below _ (.cells #[.int .i64 2, .int .i64 0] 38))
  replace R := hidden (R.out.keep hb)
  replace B := hidden (keepB B.out hb)
  clear hb
  obtain ⟨_, q0, q1, f0, f1⟩ := id R.out
  go_wp2
  exact bodyPost_ret (v := .agg #[.int .i64 2, .slice none 0 0]) (by simp [results, Try.results21, go_sem, q0, q1]) rfl ⟨rfl, (B.out.setCell (by simp) _).setCell (by simp) _⟩

set_option maxRecDepth 20000 in
set_option maxHeartbeats 400000 in
theorem specTerm_nil (p' : Option Addr) (m c' : Nat) (w : World) : Calls Try.prog 37 #[.agg #[.slice none 0 0], .slice p' m c'] w fun e w' => e = .returned (.int .i64 2) ∧ Below w.heap.size w w' := by
  go_enter Try.func37, Try.ntmps37
  go_wp2_with fail
  with_reducible refine (specFault_nil _).mono ?_
  rintro e w1 ⟨rfl, hb⟩
  have B := hidden (keepB (alloc_below _ _) hb)
  clear hb
  go_wp2
  go_ret
  exact ⟨rfl, B.out⟩

set_option maxRecDepth 20000 in
set_option maxHeartbeats 400000 in
theorem implTerm_nil (p' : Option Addr) (m c' : Nat) (w : World) : Calls Try.prog 34 #[.agg #[.slice none 0 0], .slice p' m c'] w fun e w' => e = .returned (.int .i64 2) ∧ Below w.heap.size w w' := by
  go_enter Try.func34, Try.ntmps34
  go_wp2_with fail
  with_reducible refine (implFault_nil _).mono ?_
  rintro e w1 ⟨rfl, hb⟩
  have B := hidden (keepB (alloc_below _ _) hb)
  clear hb
  go_wp2
  go_ret
  exact ⟨rfl, B.out⟩

end Go.Proofs.Ythgoclbgepfjmaa

namespace Go.Proofs.Ythgoclbgepfjmaa
open Go.RowKit

set_option maxHeartbeats 400000 in
theorem lwBig_any (p : Option Addr) (n c : Nat) (w : World) (hn : n ≤ 1048576) : Calls Try.prog 7 #[.slice p n c] w fun e w' => e = .returned (.bool false) ∧ w' = w := by
  have h : ¬ (1048576 : Int) < n := by omega
  go_enter Try.func7, Try.ntmps7
  go_wp2
  go_ret
  exact ⟨rfl, rfl⟩

set_option maxHeartbeats 400000 in
theorem lwBig_big (p : Option Addr) (n c : Nat) (w : World) (hn : ¬ n ≤ 1048576) : Calls Try.prog 7 #[.slice p n c] w fun e w' => e = .returned (.bool true) ∧ w' = w := by
  have h : (1048576 : Int) < n := by omega
  go_enter Try.func7, Try.ntmps7
  go_wp2
  go_ret
  exact ⟨rfl, rfl⟩

end Go.Proofs.Ythgoclbgepfjmaa

/- Plain facts: the fields of answers. -/
namespace Go.Proofs.Ythgoclbgepfjmaa
open Go.RowKit

theorem fld48 (C : Int) (a : Option Addr) (b k : Nat) (v : World) : (Instr.field 48 (.agg #[.int .i64 C, .slice a b k]) 0).run Try.prog v = .ok (.int .i64 C) v := by kernel_rfl
theorem fld38a (x y : Int) (v : World) : (Instr.field 38 (.agg #[.int .i64 x, .int .i64 y]) 0).run Try.prog v = .ok (.int .i64 x) v := by kernel_rfl
theorem fld38b (x y : Int) (v : World) : (Instr.field 38 (.agg #[.int .i64 x, .int .i64 y]) 1).run Try.prog v = .ok (.int .i64 y) v := by kernel_rfl

end Go.Proofs.Ythgoclbgepfjmaa

/- Contracts for law FnNodes: where there is no symbol; lists of numbers; what was drawn is wrong, or a term. -/
namespace Go.Proofs.Ythgoclbgepfjmaa
open Go.RowKit

theorem fld48b (C : Int) (a : Option Addr) (b k : Nat) (v : World) : (Instr.field 48 (.agg #[.int .i64 C, .slice a b k]) 1).run Try.prog v = .ok (.slice a b k) v := by kernel_rfl

set_option maxRecDepth 20000 in
set_option maxHeartbeats 800000 in
theorem implVars_nil (p' : Option Addr) (m c' : Nat) (w : World) : Calls Try.prog 36 #[.agg #[.slice none 0 0], .slice p' m c'] w fun e w' => e = .returned (.agg #[.int .i64 2, .slice none 0 0]) ∧ Below w.heap.size w w' := by
  have R := hidden (Res.new (w.alloc (.cells #[.slice none 0 0] 26)) (.int .i64 0) (.slice none 0 0) 48)
  have B := hidden (keepB (alloc_below w (.cells #[.slice none 0 0] 26)) (alloc_below _ (.cells #[.int .i64 0, .slice none 0 0] 48)))
  rw [World.size_alloc] at R
  go_enter Try.func36, Try.ntmps36
  go_wp2_with fail
  with_reducible refine (implTerm_nil _ _ _ _).mono ?_
  rintro e w1 ⟨rfl, hb⟩
  replace R := hidden (R.out.keep hb)
  replace B := hidden (keepB B.out hb)
  clear hb
  obtain ⟨_, q0, q1, f0, f1⟩ := id R.out
  go_wp2
  exact bodyPost_ret (v := .agg #[.int .i64 2, .slice none 0 0]) (by simp [results, Try.results36, go_sem, q0, q1]) rfl ⟨rfl, (B.out.setCell (by simp) _).setCell (by simp) _⟩

set_option maxRecDepth 20000 in
set_option maxHeartbeats 800000 in
theorem implGround_nil (p' : Option Addr) (m c' : Nat) (w : World) : Calls Try.prog 38 #[.agg #[.slice none 0 0], .slice p' m c'] w fun e w' => e = .returned (.bool false) ∧ Below w.heap.size w w' := by
  go_enter Try.func38, Try.ntmps38
  go_wp2_with fail
  with_reducible refine (implTerm_nil _ _ _ _).mono ?_
  rintro e w1 ⟨rfl, hb⟩
  have B := hidden (keepB (alloc_below _ _) hb)
  clear hb
  go_wp2
  go_ret
  exact ⟨rfl, B.out⟩

/-- A row of numbers, or no number at all. -/
def Nmz (w : World) (q : Option Addr) (k : Nat) (L : Nat → Int) : Prop := k = 0 ∨ ∃ b, q = some ⟨b, 0, none⟩ ∧ Ints w b 0 k L

theorem Nmz.keep {w w' : World} {q : Option Addr} {k : Nat} {L : Nat → Int} (h : Nmz w q k L) (hb : Below w.heap.size w w') : Nmz w' q k L := by
  rcases h with h | ⟨b, e, hi⟩
  · exact Or.inl h
  · exact Or.inr ⟨b, e, hi.keep hb⟩

set_option maxHeartbeats 800000 in
theorem lwNums_row (b k d b' d' : Nat) (L : Nat → Int) (w : World) (h : Ints w b 0 k L) (h' : Ints w b' 0 k L) (hm : k ≤ 1048576) :
    Calls Try.prog 32 #[.slice (some ⟨b, 0, none⟩) k d, .slice (some ⟨b', 0, none⟩) k d'] w fun e w' => e = .returned (.bool true) ∧ Below w.heap.size w w' := by
  go_enter Try.func32, Try.ntmps32
  go_wp2
  go_loopw [5] (fun i wr => ∃ j : Nat, j ≤ k ∧ i = .int .i64 j ∧ ∃ q, wr = w.drewN q) (fun i _ => k - (intOf i).toNat)
  case atStart => exact ⟨0, Nat.zero_le _, rfl, 0, rfl⟩
  case round =>
    obtain ⟨j, hj, rfl, q, rfl⟩ := hrel
    by_cases hlt : j < k
    · have c1 := h.cell j hlt
      have c2 := h'.cell j hlt
      rw [Nat.zero_add] at c1 c2
      go_wp2
      go_quiet (fail)
      go_wp2
      go_roundw
      case rel => exact ⟨j + 1, by omega, by go_num, _, rfl⟩
      case measure => simp [intOf]; omega
    · go_wp2
      go_ret
      exact ⟨rfl, below_drewN (Below.refl _ _) _⟩

set_option maxHeartbeats 800000 in
theorem lwNums_none (q q' : Option Addr) (d d' : Nat) (w : World) :
    Calls Try.prog 32 #[.slice q 0 d, .slice q' 0 d'] w fun e w' => e = .returned (.bool true) ∧ Below w.heap.size w w' := by
  go_enter Try.func32, Try.ntmps32
  go_wp2
  go_loopw [5] (fun i wr => i = .int .i64 0 ∧ wr = w) (fun _ _ => 0)
  case atStart => exact ⟨rfl, rfl⟩
  case round =>
    obtain ⟨rfl, rfl⟩ := hrel
    go_wp2
    go_ret
    exact ⟨rfl, Below.refl _ _⟩

theorem lwNums_any (q q' : Option Addr) (k d d' : Nat) (L : Nat → Int) (w : World) (h : Nmz w q k L) (h' : Nmz w q' k L) (hm : k ≤ 1048576) :
    Calls Try.prog 32 #[.slice q k d, .slice q' k d'] w fun e w' => e = .returned (.bool true) ∧ Below w.heap.size w w' := by
  by_cases h0 : k = 0
  · subst h0; exact lwNums_none q q' d d' w
  · rcases h with h | ⟨b, rfl, hi⟩
    · exact absurd h h0
    rcases h' with h' | ⟨b', rfl, hi'⟩
    · exact absurd h' h0
    exact lwNums_row b k d b' d' L w hi hi' hm

/-- What was drawn is wrong in one way, as all functions tell; or it is a term. -/
theorem nodes_key (q : Option Addr) (n d0 g m d : Nat) (w1 : World) (hm : m ≤ 25) (hL : ∃ L, Ints w1 g 0 m L) (hv : SigV w1 (.slice q n d0)) :
    (∃ C : Int, C ≠ 0 ∧ (∀ wc, Below w1.heap.size w1 wc → Calls Try.prog 36 #[.agg #[.slice q n d0], .slice (some ⟨g, 0, none⟩) m d] wc fun e w' => e = .returned (.agg #[.int .i64 C, .slice none 0 0]) ∧ Below wc.heap.size wc w')
      ∧ (∀ wc, Below w1.heap.size w1 wc → Calls Try.prog 37 #[.agg #[.slice q n d0], .slice (some ⟨g, 0, none⟩) m d] wc fun e w' => e = .returned (.int .i64 C) ∧ Below wc.heap.size wc w')
      ∧ (∀ wc, Below w1.heap.size w1 wc → Calls Try.prog 34 #[.agg #[.slice q n d0], .slice (some ⟨g, 0, none⟩) m d] wc fun e w' => e = .returned (.int .i64 C) ∧ Below wc.heap.size wc w')
      ∧ (∀ wc, Below w1.heap.size w1 wc → Calls Try.prog 38 #[.agg #[.slice q n d0], .slice (some ⟨g, 0, none⟩) m d] wc fun e w' => e = .returned (.bool false) ∧ Below wc.heap.size wc w'))
    ∨ (∃ g0 N A L, q = some ⟨g0, 0, none⟩ ∧ n ≤ 7 ∧ Kept n N A ∧ Syms w1 g0 0 n N A ∧ Ints w1 g 0 m L ∧ termF n N A m L = 0) := by
  obtain ⟨L, hL⟩ := hL
  rcases hv with hv | ⟨g0, n', d', N, A, hv, hn, hk, hS⟩
  · cases hv
    exact Or.inl ⟨2, by decide, fun wc _ => implVars_nil _ _ _ wc, fun wc _ => specTerm_nil _ _ _ wc, fun wc _ => implTerm_nil _ _ _ wc, fun wc _ => implGround_nil _ _ _ wc⟩
  · cases hv
    by_cases hc : termF n N A m L = 0
    · exact Or.inr ⟨g0, N, A, L, rfl, hn, hk, hS, hL, hc⟩
    · refine Or.inl ⟨termF n N A m L, hc, fun wc hb => ?_, fun wc hb => specTerm_any _ _ _ _ _ _ _ _ N A L wc (hS.keep hb) (hL.keep hb) hk (by omega), fun wc hb => implTerm_any _ _ _ _ _ _ _ _ N A L wc (hS.keep hb) (hL.keep hb) hk (by omega), fun wc hb => ?_⟩
      · refine (implVars_any _ _ _ _ _ _ _ _ N A L wc (hS.keep hb) (hL.keep hb) hk (by omega)).mono ?_
        rintro e w' ⟨⟨_, rfl⟩ | ⟨h0, _⟩ | ⟨h0, _⟩, hb'⟩
        · exact ⟨rfl, hb'⟩
        · exact absurd h0 hc
        · exact absurd h0 hc
      · refine (implGround_any _ _ _ _ _ _ _ _ N A L wc (hS.keep hb) (hL.keep hb) hk (by omega)).mono ?_
        rintro e w' ⟨rfl, hb'⟩
        exact ⟨by rw [show grB n N A m L = false from decide_eq_false (fun h => hc h.1)], hb'⟩

end Go.Proofs.Ythgoclbgepfjmaa
