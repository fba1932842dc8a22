/- Plain facts: a right precedence names each symbol. -/
import Derived.Test.YtbdgnpjbmlcchaaRank
namespace Go.Proofs.Ytbdgnpjbmlcchaa
open Go.RowKit

theorem named_all : ∀ (n : Nat) (L : Nat → Int), (∀ i, i < n → 0 ≤ L i ∧ L i < n) → (∀ i, i < n → ∀ j, j < i → L i ≠ L j) → ∀ x : Nat, x < n → ∃ i, i < n ∧ L i = x
  | 0, _, _, _, x, hx => by omega
  | n + 1, L, hr, hd, x, hx => by
    refine Classical.byContradiction fun hno => ?_
    have hno' : ∀ i, i < n + 1 → L i ≠ x := fun i hi e => hno ⟨i, hi, e⟩
    have hi : ∀ i, i < n + 1 → ∀ j, j < n + 1 → i ≠ j → L i ≠ L j := by
      intro i hi j hj hne
      by_cases h : j < i
      · exact hd i hi j h
      · exact fun e => hd j hj i (by omega) e.symm
    have hM : ∀ i, i < n + 1 → 0 ≤ (if L i = n then (x : Int) else L i) ∧ (if L i = n then (x : Int) else L i) < n := by
      intro i hi'
      have h1 := hr i hi'
      have h2 := hno' i hi'
      split <;> omega
    have hMi : ∀ i, i < n + 1 → ∀ j, j < n + 1 → i ≠ j → (if L i = n then (x : Int) else L i) ≠ (if L j = n then (x : Int) else L j) := by
      intro i hi' j hj' hne
      have h1 := hi i hi' j hj' hne
      have h2 := hno' i hi'
      have h3 := hno' j hj'
      split <;> split <;> omega
    have hl := hM n (by omega)
    obtain ⟨i, hin, e⟩ := named_all n (fun i => if L i = n then (x : Int) else L i) (fun i hi' => hM i (by omega)) (fun i hi' j hj => hMi i (by omega) j (by omega) (by omega)) ((if L n = n then (x : Int) else L n)).toNat (by omega)
    rw [Int.toNat_of_nonneg hl.1] at e
    exact hMi i (by omega) n (by omega) (by omega) e

section
variable {n : Nat} {N : Nat → ByteArray} {A : Nat → Int} {m : Nat} {L : Nat → Int} {x : Int}
theorem order_ok (h : orderF n N A m L = 0) : m = n ∧ 1 ≤ n ∧ n ≤ 6 ∧ ¬ outI n n L ∧ ¬ dupI n L := by
  unfold orderF at h
  by_cases hf : faultF n N A = 0
  · rw [if_pos hf] at h
    have hn : 1 ≤ n ∧ n ≤ 6 := by
      unfold faultF at hf
      by_cases hx : n < 1 ∨ 6 < n
      · rw [if_pos hx] at hf; omega
      · omega
    unfold ordF at h
    by_cases e : m = n
    · subst e
      rw [if_pos rfl] at h
      by_cases ho : outI m m L
      · rw [if_pos ho] at h; omega
      · rw [if_neg ho] at h
        by_cases hd : dupI m L
        · rw [if_pos hd] at h; omega
        · exact ⟨rfl, hn.1, hn.2, ho, hd⟩
    · rw [if_neg e] at h; omega
  · rw [if_neg hf] at h; exact absurd h hf

/-- In a right precedence each symbol stands at one place. -/
theorem rank_at (h : orderF n N A m L = 0) (hx : inB x n = true) : ∃ i : Nat, i < m ∧ L i = x ∧ rkF m L x = i := by
  obtain ⟨rfl, _, _, ho, hd⟩ := order_ok h
  have hx' : 0 ≤ x ∧ x < m := by simpa [inB] using hx
  have hr : ∀ i, i < m → 0 ≤ L i ∧ L i < m := by
    intro i hi
    cases hb : inB (L i) m
    · exact absurd ⟨i, hi, hb⟩ ho
    · simpa [inB] using hb
  obtain ⟨i, hi, e⟩ := named_all m L hr (fun i hi j hj e => hd ⟨i, hi, j, hj, e⟩) x.toNat (by omega)
  rw [Int.toNat_of_nonneg hx'.1] at e
  exact ⟨i, hi, e, rkF_at hi e (fun j hj e' => hd ⟨i, hi, j, hj, e.trans e'.symm⟩)⟩
end

/-- One place of a list changed. -/
def upd (L : Nat → Int) (i : Nat) (x : Int) (j : Nat) : Int := if j = i then x else L j

/-- The precedence in which place i and the one behind it have changed. -/
def raised (L : Nat → Int) (i : Nat) : Nat → Int := upd (upd L i (L (i + 1))) (i + 1) (L i)

end Go.Proofs.Ytbdgnpjbmlcchaa
