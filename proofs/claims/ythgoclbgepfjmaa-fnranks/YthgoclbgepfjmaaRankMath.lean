/- Plain facts: what becomes of the ranks where one symbol is raised. -/
import Derived.Test.YthgoclbgepfjmaaRaise
namespace Go.Proofs.Ythgoclbgepfjmaa
open Go.RowKit

/-- Two places changed. -/
def sw (i j : Nat) : Nat := if j = i then i + 1 else if j = i + 1 then i else j

theorem sw_sw (i j : Nat) : sw i (sw i j) = j := by unfold sw; split <;> (try split) <;> (try split) <;> omega
theorem sw_lt {i j m : Nat} (hi : i + 1 < m) (hj : j < m) : sw i j < m := by unfold sw; split <;> (try split) <;> omega
theorem sw_inj {i j k : Nat} (h : sw i j = sw i k) : j = k := by rw [← sw_sw i j, h, sw_sw]

theorem raised_sw (L : Nat → Int) (i j : Nat) : raised L i j = L (sw i j) := by
  unfold raised upd sw
  by_cases h1 : j = i
  · subst h1; simp
  · by_cases h2 : j = i + 1
    · subst h2; simp
    · simp [h1, h2]

section
variable {n : Nat} {N : Nat → ByteArray} {A : Nat → Int} {m : Nat} {L : Nat → Int} {x : Int}
theorem order_sig (h : orderF n N A m L = 0) : faultF n N A = 0 := by
  refine Classical.byContradiction fun hf => ?_
  rw [order_fault hf] at h; exact hf h

theorem order_inj (h : orderF n N A m L = 0) {j k : Nat} (hj : j < m) (hk : k < m) (e : L j = L k) : j = k := by
  obtain ⟨rfl, _, _, _, hd⟩ := order_ok h
  rcases Nat.lt_trichotomy j k with h1 | h1 | h1
  · exact absurd ⟨k, hk, j, h1, e.symm⟩ hd
  · exact h1
  · exact absurd ⟨j, hj, k, h1, e⟩ hd

theorem raised_order (h : orderF n N A m L = 0) {i : Nat} (hi : i + 1 < m) : orderF n N A m (raised L i) = 0 := by
  have hs := order_sig h
  have hinj := fun j k hj hk e => order_inj h (j := j) (k := k) hj hk e
  obtain ⟨rfl, _, _, ho, hd⟩ := order_ok h
  rw [order_right hs]
  refine ord_ok ?_ ?_
  · rintro ⟨j, hj, e⟩
    rw [raised_sw] at e
    exact ho ⟨_, sw_lt hi hj, e⟩
  · rintro ⟨j, hj, k, hk, e⟩
    rw [raised_sw, raised_sw] at e
    have := sw_inj (hinj _ _ (sw_lt hi hj) (sw_lt hi (by omega)) e)
    omega

/-- The ranks of one symbol, before and behind the raise. -/
theorem rank_raised (h : orderF n N A m L = 0) {i : Nat} (hi : i + 1 < m) (hx : inB x n = true) : ∃ r : Nat, r < m ∧ L r = x ∧ rkF m L x = r ∧ rkF m (raised L i) x = sw i r := by
  obtain ⟨r, hr, e, hk⟩ := rank_at h hx
  obtain ⟨r', hr', e', hk'⟩ := rank_at (raised_order h hi) hx
  rw [raised_sw] at e'
  have := order_inj h (sw_lt hi hr') hr (e'.trans e.symm)
  refine ⟨r, hr, e, hk, ?_⟩
  rw [hk', ← this, sw_sw]
end

/-- How many of the first k numbers are one of two. -/
def mvN (a b : Int) : Nat → Nat
  | 0 => 0
  | k + 1 => mvN a b k + (if (k : Int) = a ∨ (k : Int) = b then 1 else 0)

theorem mv_le (a b : Int) : ∀ k, mvN a b k ≤ k
  | 0 => Nat.le_refl _
  | k + 1 => by have := mv_le a b k; simp only [mvN]; split <;> omega

theorem mv_at {a b : Int} (hab : a ≠ b) (ha : 0 ≤ a) (hb : 0 ≤ b) : ∀ k : Nat, mvN a b k = (if a < k then 1 else 0) + (if b < k then 1 else 0)
  | 0 => by simp only [mvN]; rw [if_neg (by omega), if_neg (by omega)]
  | k + 1 => by
    simp only [mvN]
    rw [mv_at hab ha hb k]
    by_cases h1 : (k : Int) = a
    · rw [if_pos (Or.inl h1), if_neg (show ¬ a < (k : Int) by omega), if_pos (show a < ((k + 1 : Nat) : Int) by omega)]
      by_cases h2 : b < (k : Int)
      · rw [if_pos h2, if_pos (by omega)]
      · rw [if_neg h2, if_neg (by omega)]
    · by_cases h2 : (k : Int) = b
      · rw [if_pos (Or.inr h2), if_neg (show ¬ b < (k : Int) by omega), if_pos (show b < ((k + 1 : Nat) : Int) by omega)]
        by_cases h3 : a < (k : Int)
        · rw [if_pos h3, if_pos (by omega)]
        · rw [if_neg h3, if_neg (by omega)]
      · rw [if_neg (show ¬ ((k : Int) = a ∨ (k : Int) = b) by omega)]
        have e1 : (a < (k : Int)) ↔ (a < ((k + 1 : Nat) : Int)) := by omega
        have e2 : (b < (k : Int)) ↔ (b < ((k + 1 : Nat) : Int)) := by omega
        simp only [e1, e2, Nat.add_zero]

theorem mv_two {a b : Int} {m : Nat} (hab : a ≠ b) (ha : 0 ≤ a ∧ a < m) (hb : 0 ≤ b ∧ b < m) : mvN a b m = 2 := by
  rw [mv_at hab ha.1 hb.1, if_pos ha.2, if_pos hb.2]

end Go.Proofs.Ythgoclbgepfjmaa
