/- Contracts: the rank of a symbol, as the model and as the program tells it. -/
import Derived.Test.YtcnkkoegfjggaaaOrder
namespace Go.Proofs.Ytcnkkoegfjggaaa
open Go.RowKit

open Classical in
/-- The first place of a number in a list, or -1. -/
noncomputable def rkF (m : Nat) (L : Nat → Int) (x : Int) : Int := if h : ∃ i : Nat, i < m ∧ L i = x ∧ ∀ j, j < i → L j ≠ x then (h.choose : Int) else -1

theorem rkF_at {m : Nat} {L : Nat → Int} {x : Int} {i : Nat} (hi : i < m) (e : L i = x) (hj : ∀ j, j < i → L j ≠ x) : rkF m L x = i := by
  have h : ∃ i : Nat, i < m ∧ L i = x ∧ ∀ j, j < i → L j ≠ x := ⟨i, hi, e, hj⟩
  rw [rkF, dif_pos h]
  obtain ⟨_, h2, h3⟩ := h.choose_spec
  congr 1
  apply Nat.le_antisymm
  · exact Nat.le_of_not_lt fun hlt => h3 i hlt e
  · exact Nat.le_of_not_lt fun hlt => hj _ hlt h2

theorem rkF_none {m : Nat} {L : Nat → Int} {x : Int} (h : ∀ j, j < m → L j ≠ x) : rkF m L x = -1 := by
  rw [rkF, dif_neg]
  rintro ⟨i, hi, e, _⟩
  exact h i hi e

/-- What RankOf answers: code and value. -/
noncomputable def rkC (n : Nat) (N : Nat → ByteArray) (A : Nat → Int) (m : Nat) (L : Nat → Int) (x : Int) : Int := if orderF n N A m L = 0 then (if inB x n = true then 0 else 3) else orderF n N A m L
noncomputable def rkV (n : Nat) (N : Nat → ByteArray) (A : Nat → Int) (m : Nat) (L : Nat → Int) (x : Int) : Int := if orderF n N A m L = 0 ∧ inB x n = true then rkF m L x else 0

section
variable {n : Nat} {N : Nat → ByteArray} {A : Nat → Int} {m : Nat} {L : Nat → Int} {x : Int}
theorem rk_fault (h : orderF n N A m L ≠ 0) : rkC n N A m L x = orderF n N A m L ∧ rkV n N A m L x = 0 := by simp [rkC, rkV, h]
theorem rk_range (h : orderF n N A m L = 0) (hx : inB x n = false) : rkC n N A m L x = 3 ∧ rkV n N A m L x = 0 := by simp [rkC, rkV, h, hx]
theorem rk_ok (h : orderF n N A m L = 0) (hx : inB x n = true) : rkC n N A m L x = 0 ∧ rkV n N A m L x = rkF m L x := by simp [rkC, rkV, h, hx]
end

end Go.Proofs.Ytcnkkoegfjggaaa
