/- Contracts: whether a text is a name, as the model and as the program asks it; the fault of one symbol. -/
import Derived.Test.YtbdgnpjbmlcchaaKit
namespace Go.Proofs.Ytbdgnpjbmlcchaa
open Go.RowKit

/-- The first k letters are a to z. -/
def lowTo (s : ByteArray) (k : Nat) : Prop := ∀ i (h : i < s.size), i < k → 97 ≤ s[i].toNat ∧ s[i].toNat ≤ 122
/-- A name: 1 to 3 letters a to z. -/
def isNm (s : ByteArray) : Prop := 1 ≤ s.size ∧ s.size ≤ 3 ∧ lowTo s s.size

open Classical in
noncomputable def nmB (s : ByteArray) : Bool := decide (isNm s)

theorem lowTo_step {s : ByteArray} {k : Nat} (h : lowTo s k) (hk : k < s.size) (h0 : 97 ≤ s[k].toNat) (h1 : s[k].toNat ≤ 122) : lowTo s (k + 1) := by
  intro i hi hik
  by_cases e : i = k
  · subst e; exact ⟨h0, h1⟩
  · exact h i hi (by omega)

set_option maxRecDepth 20000 in
set_option maxHeartbeats 400000 in
theorem l2Name_any (s : ByteArray) (w : World) (hs : s.size ≤ 1048576) :
    Calls Try.prog 68 #[.string s] w fun e w' => e = .returned (.bool (nmB s)) ∧ Below w.heap.size w w' := by
  by_cases h0 : s.size < 1
  · have h1 : ((s.size : Int) < 1) := by omega
    have HN := hidden (show nmB s = false by simp only [nmB, decide_eq_false_iff_not]; rintro ⟨h, _⟩; omega)
    go_enter Try.func68, Try.ntmps68
    go_wp2
    go_ret
    exact ⟨by rw [HN.out]; rfl, Below.refl _ _⟩
  have h2 : decide ((s.size : Int) < 1) = false := by simp; omega
  by_cases h3 : 3 < s.size
  · have h4 : (3 : Int) < (s.size : Int) := by omega
    have HN := hidden (show nmB s = false by simp only [nmB, decide_eq_false_iff_not]; rintro ⟨_, h, _⟩; omega)
    go_enter Try.func68, Try.ntmps68
    go_wp2
    go_ret
    exact ⟨by rw [HN.out]; rfl, Below.refl _ _⟩
  have h4 : ¬ (3 : Int) < (s.size : Int) := by omega
  go_enter Try.func68, Try.ntmps68
  go_wp2
  go_loop [3] (fun i => ∃ k : Nat, k ≤ s.size ∧ i = .int .i64 k ∧ Hid (lowTo s k)) (fun i => s.size - (intOf i).toNat)
  case atStart => exact ⟨0, Nat.zero_le _, rfl, hidden fun i _ hi => by omega⟩
  case round =>
    obtain ⟨k, hk, rfl, HD⟩ := hrel
    by_cases hlt : k < s.size
    · by_cases hd : 97 ≤ s[k].toNat ∧ s[k].toNat ≤ 122
      · have hd1 : ¬ ((s[k].toNat : Int) < 97) := by omega
        have hd2 : ¬ (122 : Int) < (s[k].toNat : Int) := by omega
        have HL := hidden (lowTo_step HD.out hlt hd.1 hd.2)
        clear hd
        go_wp2
        go_round
        case rel => exact ⟨k + 1, by omega, by go_num, HL⟩
        case measure => simp [intOf]; omega
      · have HN := hidden (show nmB s = false by simp only [nmB, decide_eq_false_iff_not]; rintro ⟨_, _, h⟩; exact hd (h k hlt hlt))
        have hd' : (s[k].toNat : Int) < 97 ∨ (122 : Int) < (s[k].toNat : Int) := by omega
        clear hd
        rcases hd' with hd' | hd'
        · go_wp2
          go_ret
          exact ⟨by rw [HN.out]; rfl, Below.refl _ _⟩
        · have hd1 : decide ((s[k].toNat : Int) < 97) = false := by simp; omega
          go_wp2
          go_ret
          exact ⟨by rw [HN.out]; rfl, Below.refl _ _⟩
    · have HN := hidden (show nmB s = true by
        simp only [nmB, decide_eq_true_eq]
        refine ⟨by omega, by omega, fun i hi _ => HD.out i hi (by omega)⟩)
      go_wp2
      go_ret
      exact ⟨by rw [HN.out]; rfl, Below.refl _ _⟩

set_option maxRecDepth 20000 in
set_option maxHeartbeats 400000 in
theorem isName_any (s : ByteArray) (w : World) (hs : s.size ≤ 1048576) :
    Calls Try.prog 96 #[.string s] w fun e w' => e = .returned (.bool (nmB s)) ∧ Below w.heap.size w w' := by
  by_cases h0 : s.size < 1
  · have h1 : ((s.size : Int) == 0) = true := by rw [beq_iff_eq]; omega
    have HN := hidden (show nmB s = false by simp only [nmB, decide_eq_false_iff_not]; rintro ⟨h, _⟩; omega)
    go_enter Try.func96, Try.ntmps96
    go_wp2
    go_ret
    exact ⟨by rw [HN.out]; rfl, Below.refl _ _⟩
  have h2 : ((s.size : Int) == 0) = false := by rw [beq_eq_false_iff_ne]; omega
  by_cases h3 : 3 < s.size
  · have h4 : (3 : Int) < (s.size : Int) := by omega
    have HN := hidden (show nmB s = false by simp only [nmB, decide_eq_false_iff_not]; rintro ⟨_, h, _⟩; omega)
    go_enter Try.func96, Try.ntmps96
    go_wp2
    go_ret
    exact ⟨by rw [HN.out]; rfl, Below.refl _ _⟩
  have h4 : ¬ (3 : Int) < (s.size : Int) := by omega
  go_enter Try.func96, Try.ntmps96
  go_wp2
  go_loop [14] (fun i => ∃ k : Nat, k ≤ s.size ∧ i = .int .i64 k ∧ Hid (lowTo s k)) (fun i => s.size - (intOf i).toNat)
  case atStart => exact ⟨0, Nat.zero_le _, rfl, hidden fun i _ hi => by omega⟩
  case round =>
    obtain ⟨k, hk, rfl, HD⟩ := hrel
    by_cases hlt : k < s.size
    · by_cases hd : 97 ≤ s[k].toNat ∧ s[k].toNat ≤ 122
      · have hd1 : ¬ ((s[k].toNat : Int) < 97) := by omega
        have hd2 : ¬ (122 : Int) < (s[k].toNat : Int) := by omega
        have HL := hidden (lowTo_step HD.out hlt hd.1 hd.2)
        clear hd
        go_wp2
        go_round
        case rel => exact ⟨k + 1, by omega, by go_num, HL⟩
        case measure => simp [intOf]; omega
      · have HN := hidden (show nmB s = false by simp only [nmB, decide_eq_false_iff_not]; rintro ⟨_, _, h⟩; exact hd (h k hlt hlt))
        have hd' : (s[k].toNat : Int) < 97 ∨ (122 : Int) < (s[k].toNat : Int) := by omega
        clear hd
        rcases hd' with hd' | hd'
        · go_wp2
          go_ret
          exact ⟨by rw [HN.out]; rfl, Below.refl _ _⟩
        · have hd1 : decide ((s[k].toNat : Int) < 97) = false := by simp; omega
          go_wp2
          go_ret
          exact ⟨by rw [HN.out]; rfl, Below.refl _ _⟩
    · have HN := hidden (show nmB s = true by
        simp only [nmB, decide_eq_true_eq]
        refine ⟨by omega, by omega, fun i hi _ => HD.out i hi (by omega)⟩)
      go_wp2
      go_ret
      exact ⟨by rw [HN.out]; rfl, Below.refl _ _⟩

/-- The code of one symbol. -/
noncomputable def oneF (s : ByteArray) (x : Int) : Int := if nmB s = true then (if 0 ≤ x ∧ x ≤ 2 then 0 else 3) else 5

set_option maxRecDepth 20000 in
set_option maxHeartbeats 400000 in
theorem l1In_any (x l h : Int) (w : World) :
    Calls Try.prog 30 #[.int .i64 x, .int .i64 l, .int .i64 h] w fun e w' => e = .returned (.bool (decide (l ≤ x ∧ x ≤ h))) ∧ Below w.heap.size w w' := by
  by_cases h0 : l ≤ x
  · by_cases h1 : x ≤ h
    · have HN := hidden (show decide (l ≤ x ∧ x ≤ h) = true by simp; omega)
      go_enter Try.func30, Try.ntmps30
      go_wp2
      go_ret
      exact ⟨by first | rfl | (rw [HN.out]; rfl), Below.refl _ _⟩
    · have HN := hidden (show decide (l ≤ x ∧ x ≤ h) = false by simp; omega)
      have h1' : decide (x ≤ h) = false := by simp; omega
      go_enter Try.func30, Try.ntmps30
      go_wp2
      go_ret
      exact ⟨by first | rfl | (rw [HN.out]; rfl), Below.refl _ _⟩
  · have HN := hidden (show decide (l ≤ x ∧ x ≤ h) = false by simp; omega)
    have h1' : decide (l ≤ x) = false := by simp; omega
    go_enter Try.func30, Try.ntmps30
    go_wp2
    go_ret
    exact ⟨by first | rfl | (rw [HN.out]; rfl), Below.refl _ _⟩

set_option maxRecDepth 20000 in
set_option maxHeartbeats 400000 in
theorem symbolFault_any (s : ByteArray) (x : Int) (w : World) (hs : s.size ≤ 1048576) :
    Calls Try.prog 79 #[.agg #[.string s, .int .i64 x]] w fun e w' => e = .returned (.int .i64 (oneF s x)) ∧ Below w.heap.size w w' := by
  have S := hidden (isName_any s)
  generalize hB : nmB s = b at *
  cases b
  · have HN := hidden (show oneF s x = 5 by simp [oneF, hB])
    clear hB
    go_enter Try.func79, Try.ntmps79
    go_wp2_with fail
    refine (S.out _ hs).mono ?_
    rintro e w1 ⟨rfl, hb⟩
    replace hb := keepB (alloc_below _ _) hb
    go_wp2
    go_ret
    exact ⟨by rw [HN.out]; rfl, hb⟩
  · by_cases h0 : 0 ≤ x
    · by_cases h1 : x ≤ 2
      · have HN := hidden (show oneF s x = 0 by simp [oneF, hB, h0, h1])
        have h0' : decide (x < 0) = false := by simp; omega
        have h1' : ¬ 2 < x := by omega
        clear hB
        go_enter Try.func79, Try.ntmps79
        go_wp2_with fail
        refine (S.out _ hs).mono ?_
        rintro e w1 ⟨rfl, hb⟩
        have X := (Two.new w (.string s) (.int .i64 x) 70).keep hb
        replace hb := keepB (alloc_below _ _) hb
        have x1 := X.c1
        go_wp2
        go_ret
        exact ⟨by rw [HN.out]; rfl, hb⟩
      · have HN := hidden (show oneF s x = 3 by simp [oneF, hB, h1])
        have h0' : decide (x < 0) = false := by simp; omega
        have h1' : 2 < x := by omega
        clear hB
        go_enter Try.func79, Try.ntmps79
        go_wp2_with fail
        refine (S.out _ hs).mono ?_
        rintro e w1 ⟨rfl, hb⟩
        have X := (Two.new w (.string s) (.int .i64 x) 70).keep hb
        replace hb := keepB (alloc_below _ _) hb
        have x1 := X.c1
        go_wp2
        go_ret
        exact ⟨by rw [HN.out]; rfl, hb⟩
    · have HN := hidden (show oneF s x = 3 by simp [oneF, hB, h0])
      have h0' : x < 0 := by omega
      clear hB
      go_enter Try.func79, Try.ntmps79
      go_wp2_with fail
      refine (S.out _ hs).mono ?_
      rintro e w1 ⟨rfl, hb⟩
      have X := (Two.new w (.string s) (.int .i64 x) 70).keep hb
      replace hb := keepB (alloc_below _ _) hb
      have x1 := X.c1
      go_wp2
      go_ret
      exact ⟨by rw [HN.out]; rfl, hb⟩

end Go.Proofs.Ytbdgnpjbmlcchaa
