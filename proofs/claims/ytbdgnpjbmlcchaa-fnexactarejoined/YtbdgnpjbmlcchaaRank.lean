/- Contracts: the rank of a symbol, as the model and as the program tells it. -/
import Derived.Test.YtbdgnpjbmlcchaaOrder
namespace Go.Proofs.Ytbdgnpjbmlcchaa
open Go.RowKit

open Classical in
/-- The first place of a number in a list, or -1. -/
noncomputable def rkF (m : Nat) (L : Nat → Int) (x : Int) : Int := if h : ∃ i : Nat, i < m ∧ L i = x ∧ ∀ j, j < i → L j ≠ x then (h.choose : Int) else -1

theorem rkF_at {m : Nat} {L : Nat → Int} {x : Int} {i : Nat} (hi : i < m) (e : L i = x) (hj : ∀ j, j < i → L j ≠ x) : rkF m L x = i := by
  have h : ∃ i : Nat, i < m ∧ L i = x ∧ ∀ j, j < i → L j ≠ x := ⟨i, hi, e, hj⟩
  rw [rkF, dif_pos h]
  obtain ⟨_, h2, h3⟩ := h.choose_spec
  congr 1
  apply Nat.le_antisymm
  · exact Nat.le_of_not_lt fun hlt => h3 i hlt e
  · exact Nat.le_of_not_lt fun hlt => hj _ hlt h2

theorem rkF_none {m : Nat} {L : Nat → Int} {x : Int} (h : ∀ j, j < m → L j ≠ x) : rkF m L x = -1 := by
  rw [rkF, dif_neg]
  rintro ⟨i, hi, e, _⟩
  exact h i hi e

set_option maxRecDepth 20000 in
set_option maxHeartbeats 400000 in
theorem index_any (b off m c : Nat) (L : Nat → Int) (x : Int) (w : World) (h : Ints w b off m L) (hm : m ≤ 1048576) :
    Calls Try.prog 95 #[.slice (some ⟨b, off, none⟩) m c, .int .i64 x] w fun e w' => e = .returned (.int .i64 (rkF m L x)) ∧ Below w.heap.size w w' := by
  go_enter Try.func95, Try.ntmps95
  go_wp2
  go_loopw [8] (fun i wr => ∃ k : Nat, k ≤ m ∧ i = .int .i64 k ∧ Hid (∀ j, j < k → L j ≠ x) ∧ ∃ q, wr = w.drewN q) (fun i _ => m - (intOf i).toNat)
  case atStart => exact ⟨0, Nat.zero_le _, rfl, hidden (fun i hi => by omega), 0, rfl⟩
  case round =>
    obtain ⟨k, hk, rfl, HE, q, rfl⟩ := hrel
    by_cases hlt : k < m
    · have c1 := h.cell k hlt
      by_cases he : L k = x
      · have HR := hidden (rkF_at hlt he HE.out)
        rw [he] at c1
        clear he
        go_wp2
        go_ret
        exact ⟨by rw [HR.out]; rfl, below_drewN (Below.refl _ _) _⟩
      · have he' : (x == L k) = false := by simpa using fun e => he e.symm
        have he2 : (L k == x) = false := by simpa using he
        have HR := hidden he
        clear he
        go_wp2
        go_roundw
        case rel => exact ⟨k + 1, by omega, by go_num, hidden (fun j hj => by
          by_cases e : j = k
          · rw [e]; exact HR.out
          · exact HE.out j (by omega)), _, rfl⟩
        case measure => simp [intOf]; omega
    · have HR := hidden (rkF_none (m := m) (L := L) (x := x) (fun j hj => HE.out j (by omega)))
      go_wp2
      go_ret
      exact ⟨by rw [HR.out]; rfl, below_drewN (Below.refl _ _) _⟩

/-- What RankOf answers: code and value. -/
noncomputable def rkC (n : Nat) (N : Nat → ByteArray) (A : Nat → Int) (m : Nat) (L : Nat → Int) (x : Int) : Int := if orderF n N A m L = 0 then (if inB x n = true then 0 else 3) else orderF n N A m L
noncomputable def rkV (n : Nat) (N : Nat → ByteArray) (A : Nat → Int) (m : Nat) (L : Nat → Int) (x : Int) : Int := if orderF n N A m L = 0 ∧ inB x n = true then rkF m L x else 0

section
variable {n : Nat} {N : Nat → ByteArray} {A : Nat → Int} {m : Nat} {L : Nat → Int} {x : Int}
theorem rk_fault (h : orderF n N A m L ≠ 0) : rkC n N A m L x = orderF n N A m L ∧ rkV n N A m L x = 0 := by simp [rkC, rkV, h]
theorem rk_range (h : orderF n N A m L = 0) (hx : inB x n = false) : rkC n N A m L x = 3 ∧ rkV n N A m L x = 0 := by simp [rkC, rkV, h, hx]
theorem rk_ok (h : orderF n N A m L = 0) (hx : inB x n = true) : rkC n N A m L x = 0 ∧ rkV n N A m L x = rkF m L x := by simp [rkC, rkV, h, hx]
end

end Go.Proofs.Ytbdgnpjbmlcchaa
