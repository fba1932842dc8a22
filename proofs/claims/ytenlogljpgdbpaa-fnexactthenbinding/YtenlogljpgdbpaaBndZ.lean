/- Contracts: how great bindings are, all their lists together. -/
import Derived.Test.YtenlogljpgdbpaaMB
namespace Go.Proofs.Ytenlogljpgdbpaa
open Go.RowKit

set_option maxRecDepth 20000 in
set_option maxHeartbeats 400000 in
theorem szInt64S_sum (p : Option Addr) (n c : Nat) (left : Int) (w : World) (hn : n ≤ maxLen) (h0 : 0 ≤ left) (h1 : left ≤ 1048576) :
    Calls Try.prog 42 #[.slice p n c, .int .i64 left] w fun e w' => (∃ r, e = .returned (.int .i64 r) ∧ (r = -1 ∨ (0 ≤ r ∧ r + n ≤ left ∧ n ≤ 1048576))) ∧ Below w.heap.size w w' := by
  unfold maxLen at hn
  go_enter Try.func42, Try.ntmps42
  by_cases h : left < n
  · go_wp2
    go_ret
    exact ⟨⟨_, rfl, Or.inl rfl⟩, Below.refl _ _⟩
  · go_wp2
    go_ret
    exact ⟨⟨_, rfl, Or.inr ⟨by omega, by omega, by omega⟩⟩, Below.refl _ _⟩

set_option maxRecDepth 20000 in
set_option maxHeartbeats 800000 in
theorem szSum_any (b off n c : Nat) (D : LsL) (left : Int) (w : World) (h : RowM w b off n D) (h0 : 0 ≤ left) (h1 : left ≤ 1048576) (hn : ¬ left < n) :
    Calls Try.prog 43 #[.slice (some ⟨b, off, none⟩) n c, .int .i64 left] w fun e w' => (∃ r, e = .returned (.int .i64 r) ∧ (r = -1 ∨ (0 ≤ r ∧ r + sumM D n ≤ left ∧ KeptM n D))) ∧ Below w.heap.size w w' := by
  have HR := hidden h
  clear h
  go_enter Try.func43, Try.ntmps43
  go_wp2
  go_loopw [1, 5] (fun l i wr => ∃ (k : Nat) (r : Int), k ≤ n ∧ i = .int .i64 k ∧ l = .int .i64 r ∧ 0 ≤ r ∧ r ≤ left ∧ Hid (r + sumM D k ≤ left) ∧ Hid (∀ i, i < k → D.m i ≤ 1048576) ∧ Hid (Below w.heap.size w wr)) (fun _ i _ => n - (intOf i).toNat)
  case atStart => exact ⟨0, _, Nat.zero_le _, rfl, rfl, by omega, by omega, hidden (by simp [sumM]; omega), hidden (fun i hi => by omega), hidden (Below.refl _ _)⟩
  case round =>
    obtain ⟨k, r, hk, rfl, rfl, hr0, hr1, HX, HZ, HB⟩ := hrel
    by_cases hlt : k < n
    · obtain ⟨p1, c1, e1, e3, e5⟩ := (HR.out.keep HB.out).row k hlt
      have E5 := hidden e5
      clear e3 e5
      go_wp2_with fail
      with_reducible refine (szInt64S_sum _ _ _ _ _ E5.out hr0 (by omega)).mono ?_
      rintro e w1 ⟨⟨r1, rfl, hr⟩, hb1⟩
      have B1 := hidden (keepB HB.out hb1)
      clear hb1 e1
      rcases hr with rfl | ⟨q0, q1, q2⟩
      · go_wp2
        go_ret
        exact ⟨⟨_, rfl, Or.inl rfl⟩, B1.out⟩
      · have Q := hidden q2
        clear q2
        go_wp2
        go_roundw
        case rel => exact ⟨k + 1, r1, by omega, by go_num, rfl, q0, by omega, hidden (by have := HX.out; simp only [sumM]; omega), hidden (fun i hi => by
          by_cases e : i = k
          · rw [e]; exact Q.out
          · exact HZ.out i (by omega)), B1⟩
        case measure => simp [intOf]; omega
    · go_wp2
      go_ret
      exact ⟨⟨_, rfl, Or.inr ⟨hr0, by rw [← show k = n by omega]; exact HX.out, by omega, fun i hi => HZ.out i (by omega)⟩⟩, HB.out⟩

theorem szSum_src (p : Option Addr) (n c : Nat) (D : LsL) (left : Int) (w : World) (h : SrcM w p n D) (h0 : 0 ≤ left) (h1 : left ≤ 1048576) :
    Calls Try.prog 43 #[.slice p n c, .int .i64 left] w fun e w' => (∃ r, e = .returned (.int .i64 r) ∧ (r = -1 ∨ (0 ≤ r ∧ r + sumM D n ≤ left ∧ KeptM n D))) ∧ Below w.heap.size w w' := by
  by_cases hn : left < n
  · refine (szInt64SS_many p n c left w h.1 h0 h1 hn).mono ?_
    rintro e w' ⟨rfl, hb⟩
    exact ⟨⟨_, rfl, Or.inl rfl⟩, hb⟩
  · rcases h.2 with rfl | ⟨b, off, rfl, hs⟩
    · refine (szInt64SS_none p c left w h0 h1).mono ?_
      rintro e w' ⟨rfl, hb⟩
      exact ⟨⟨_, rfl, Or.inr ⟨h0, by simp [sumM], by omega, fun i hi => by omega⟩⟩, hb⟩
    · exact szSum_any b off n c D left w hs h0 h1 hn

set_option maxRecDepth 20000 in
set_option maxHeartbeats 400000 in
theorem szBinding_sum (p1 : Option Addr) (m1 c1 : Nat) (p2 : Option Addr) (m2 c2 : Nat) (D2 : LsL) (left : Int) (w : World) (hn1 : m1 ≤ maxLen) (h2 : SrcM w p2 m2 D2) (h0 : 0 ≤ left) (h1 : left ≤ 1048576) :
    Calls Try.prog 20 #[.agg #[.slice p1 m1 c1, .slice p2 m2 c2], .int .i64 left] w fun e w' => (∃ r, e = .returned (.int .i64 r) ∧ (r = -1 ∨ (0 ≤ r ∧ r + m1 + sumM D2 m2 ≤ left ∧ m1 ≤ 1048576 ∧ KeptM m2 D2))) ∧ Below w.heap.size w w' := by
  have D := hidden (Two.new w (.slice p1 m1 c1) (.slice p2 m2 c2) 45)
  have B := hidden (alloc_below w (.cells #[.slice p1 m1 c1, .slice p2 m2 c2] 45))
  have H2 := hidden (h2.keep B.out)
  clear h2
  go_enter Try.func20, Try.ntmps20
  go_wp2_with fail
  with_reducible refine (szInt64S_sum _ _ _ _ _ hn1 h0 h1).mono ?_
  rintro e w1 ⟨⟨r1, rfl, hr⟩, hb⟩
  replace D := hidden (D.out.keep hb)
  replace B := hidden (keepB B.out hb)
  replace H2 := hidden (H2.out.keep hb)
  clear hb
  rcases hr with rfl | ⟨q0, q1, q2⟩
  · go_wp2
    go_ret
    exact ⟨⟨_, rfl, Or.inl rfl⟩, B.out⟩
  · have d1 := D.out.c1
    go_wp2_with fail
    with_reducible refine (szSum_src _ _ _ D2 _ _ H2.out q0 (by omega)).mono ?_
    rintro e w2 ⟨⟨r2, rfl, hr⟩, hb⟩
    replace B := hidden (keepB B.out hb)
    clear hb d1
    rcases hr with rfl | ⟨s0, s1, s2⟩
    · go_wp2
      go_ret
      exact ⟨⟨_, rfl, Or.inl rfl⟩, B.out⟩
    · go_wp2
      go_ret
      exact ⟨⟨_, rfl, Or.inr ⟨by omega, by omega, q2, s2⟩⟩, B.out⟩

end Go.Proofs.Ytenlogljpgdbpaa
