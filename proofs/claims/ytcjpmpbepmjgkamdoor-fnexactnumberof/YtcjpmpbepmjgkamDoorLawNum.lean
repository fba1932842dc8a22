/- Law FnExactNumberOf: at every text the program's NumberOf answers as the model's. -/
import Derived.Test.YtcjpmpbepmjgkamDoorImplNum
namespace Go.Proofs.YtcjpmpbepmjgkamDoor
open Go.RowKit

open Classical in
/-- What both answer: the number of a number's text, or that it is none. -/
noncomputable def numR (s : ByteArray) : Int × Int := if isNum s.data.toList then (0, (valA 0 s.data.toList : Int)) else (5, 0)

theorem numR_yes {s : ByteArray} (h : isNum s.data.toList) : numR s = (0, (valA 0 s.data.toList : Int)) := if_pos h
theorem numR_no {s : ByteArray} (h : ¬ isNum s.data.toList) : numR s = (5, 0) := if_neg h

theorem specNum_all (s : ByteArray) (w : World) (hs : s.size ≤ 1048576) :
    Calls Tryd.prog 8 #[.string s] w fun e w' => e = .returned (.agg #[.int .i64 (numR s).1, .int .i64 (numR s).2]) ∧ Below w.heap.size w w' := by
  by_cases h : s.size < 1 ∨ 6 < s.size
  · have hn : ¬ isNum s.data.toList := by
      intro hn
      have := isNum_len hn
      rw [size_len] at this
      omega
    rw [numR_no hn]
    exact specNum_len s w hs h
  · exact specNum_in s w (by omega) (by omega) _ (fun h => by rw [numR_yes h]) (fun h => by rw [numR_no h])

theorem implNum_all (s : ByteArray) (w : World) (hs : s.size ≤ 1048576) (ht : Tab w) (he : Errs w) :
    Calls Tryd.prog 9 #[.string s] w fun e w' => e = .returned (.agg #[.int .i64 (numR s).1, .int .i64 (numR s).2]) ∧ Below w.heap.size w w' := by
  by_cases hv : ∃ v, Lib.parseIntB 64 s.data.toList = .ok v
  · obtain ⟨v, hv⟩ := hv
    refine implNum_ok s w hs v hv ht _ ?_ ?_
    · intro hc hb
      have hr : ¬ (v < 0 ∨ 999999 < v) := by
        intro hr
        rw [textC, if_pos hr] at hc
        omega
      rw [textB, if_neg hr] at hb
      have hl : Lib.decDigits v.toNat = s.data.toList := by rw [← hb]
      have hn : isNum s.data.toList := by rw [← hl]; exact isNum_dec _ (by omega)
      rw [numR_yes hn, ← hl, val_dec, Int.toNat_of_nonneg (by omega)]
    · intro hno
      have hn : ¬ isNum s.data.toList := by
        intro hn
        have e := parse_num hn
        rw [hv] at e
        obtain rfl : v = (valA 0 s.data.toList : Int) := by injection e
        have h9 := hn.2
        apply hno
        rw [textC, textB, if_neg (by omega), if_neg (by omega)]
        exact ⟨rfl, of_list s (by simpa using hn.1)⟩
      rw [numR_no hn]
  · have hn : ¬ isNum s.data.toList := fun hn => hv ⟨_, parse_num hn⟩
    rw [numR_no hn]
    exact implNum_bad s w hs (fun v h => hv ⟨v, h⟩) he

set_option maxHeartbeats 800000 in
theorem eqNum_eq (x y : Int) (w : World) :
    Calls Tryd.prog 10 #[.agg #[.int .i64 x, .int .i64 y], .agg #[.int .i64 x, .int .i64 y]] w fun e w' => e = .returned (.bool true) ∧ Below w.heap.size w w' := by
  go_enter Tryd.func10, Tryd.ntmps10
  go_wp2
  go_ret
  exact ⟨rfl, ((Below.refl _ _).alloc (Nat.le_refl _) _).alloc (by simp) _⟩

theorem Errs.pos {w : World} (h : Errs w) : 0 < w.heap.size := by
  obtain ⟨⟨t, v, h1⟩, _⟩ := h
  exact Nat.lt_trans Nat.zero_lt_one (World.block_lt_of_cell? w _ h1)

set_option maxHeartbeats 800000 in
theorem law_num_big (s : ByteArray) (w : World) (h : 1048576 < s.size) :
    Calls Tryd.prog 4 #[.string s] w fun e w' => e = .returned (.bool true) ∧ Below w.heap.size w w' := by
  have h1 : (1048576 : Int) < (s.size : Int) := by omega
  go_enter Tryd.func4, Tryd.ntmps4
  go_wp2
  go_ret
  exact ⟨rfl, Below.refl _ _⟩

set_option maxHeartbeats 800000 in
theorem law_num (s : ByteArray) (w : World) (ht : Tab w) (he : Errs w) :
    Calls Tryd.prog 4 #[.string s] w fun e w' => e = .returned (.bool true) ∧ Below w.heap.size w w' := by
  by_cases hs : 1048576 < s.size
  · exact law_num_big s w hs
  have HT := hidden ht
  have HE := hidden he
  have C1 := hidden (fun w => specNum_all s w (by omega))
  have C2 := hidden (fun w ht he => implNum_all s w (by omega) ht he)
  clear ht he
  have h1 : ¬ (1048576 : Int) < (s.size : Int) := by omega
  generalize (numR s).1 = tc at *
  generalize (numR s).2 = tb at *
  go_enter Tryd.func4, Tryd.ntmps4
  go_wp2_with fail
  refine (C1.out _).mono ?_
  rintro e w1 ⟨rfl, b1⟩
  go_wp2_with fail
  refine (C2.out _ ((HT.out.later b1).later (alloc_below _ _)) ((HE.out.later b1).later (alloc_below _ _))).mono ?_
  rintro e w2 ⟨rfl, hb2⟩
  have b2 : Below w.heap.size w w2 := (b1.alloc b1.size _).trans (hb2.mono (by simp; have := b1.size; omega))
  obtain ⟨y2, q0, q1⟩ := (Two.new w1 (.int .i64 tc) (.int .i64 tb) 28).keep hb2
  clear hb2
  go_wp2_with fail
  refine (eqNum_eq _ _ _).mono ?_
  rintro e w3 ⟨rfl, hb3⟩
  have b3 : Below w.heap.size w w3 := (b2.alloc b2.size _).trans (hb3.mono (by simp; have := b2.size; omega))
  clear hb3
  go_wp2_with fail
  go_ret
  exact ⟨rfl, b3⟩

end Go.Proofs.YtcjpmpbepmjgkamDoor
