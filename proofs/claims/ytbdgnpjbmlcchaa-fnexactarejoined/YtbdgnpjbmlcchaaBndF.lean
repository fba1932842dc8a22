/- Contracts: the fault of a binding, as the model and as the program tells it. -/
import Derived.Test.YtbdgnpjbmlcchaaBnd
namespace Go.Proofs.Ytbdgnpjbmlcchaa
open Go.RowKit

theorem wrap_sm (x : Int) (h0 : 0 ≤ x) (h : x < 100000000000000) : IntKind.i64.wrap x = x := by
  have e : x % 2 ^ 64 = x := Int.emod_eq_of_lt (by omega) (by omega)
  simp only [IntKind.wrap, IntKind.bits, IntKind.signed, e]
  rw [if_neg]
  simp; omega

open Classical in
/-- Whether the first m numbers rise. -/
noncomputable def riseB (m : Nat) (V : Nat → Int) : Bool := decide (∀ i, i + 1 < m → V i < V (i + 1))

open Classical in
theorem rise_no {m : Nat} {V : Nat → Int} {i : Nat} (hi : i + 1 < m) (h : ¬ V i < V (i + 1)) : riseB m V = false := by
  unfold riseB; exact decide_eq_false (fun hx => h (hx i hi))
open Classical in
theorem rise_yes {m : Nat} {V : Nat → Int} (h : ∀ i, i + 1 < m → V i < V (i + 1)) : riseB m V = true := by
  unfold riseB; exact decide_eq_true h
open Classical in
theorem rise_all {m : Nat} {V : Nat → Int} (h : riseB m V = true) : ∀ i, i + 1 < m → V i < V (i + 1) := by
  unfold riseB at h; exact of_decide_eq_true h

/-- The code of one variable and its term. -/
noncomputable def bnOne (n : Nat) (A : Nat → Int) (v : Int) (m : Nat) (T : Nat → Int) : Int := if 0 ≤ v ∧ v ≤ 11 then lF n A m T else 3

/-- The code of the first k variables and their terms. -/
noncomputable def bnTo (n : Nat) (A : Nat → Int) (V : Nat → Int) (D : LsL) : Nat → Int
  | 0 => 0
  | k + 1 => if bnTo n A V D k = 0 then bnOne n A (V k) (D.m k) (D.L k) else bnTo n A V D k

/-- The fault of a binding of a right signature. -/
noncomputable def bnL (n : Nat) (A : Nat → Int) (m : Nat) (V : Nat → Int) (t : Nat) (D : LsL) : Int :=
  if m ≠ t ∨ 12 < m then 2 else if bnTo n A V D m = 0 then (if riseB m V = true then 0 else 1) else bnTo n A V D m

/-- The fault of a binding. -/
noncomputable def bnF (n : Nat) (N : Nat → ByteArray) (A : Nat → Int) (m : Nat) (V : Nat → Int) (t : Nat) (D : LsL) : Int :=
  if faultF n N A = 0 then bnL n A m V t D else faultF n N A

section
variable {n : Nat} {N : Nat → ByteArray} {A : Nat → Int} {m : Nat} {V : Nat → Int} {t : Nat} {D : LsL}
theorem bn_fault (h : faultF n N A ≠ 0) : bnF n N A m V t D = faultF n N A := by rw [bnF, if_neg h]
theorem bn_l (h : faultF n N A = 0) : bnF n N A m V t D = bnL n A m V t D := by rw [bnF, if_pos h]
theorem bnL_many (h : m ≠ t ∨ 12 < m) : bnL n A m V t D = 2 := by rw [bnL, if_pos h]
theorem bnL_to (h : ¬ (m ≠ t ∨ 12 < m)) (hz : bnTo n A V D m ≠ 0) : bnL n A m V t D = bnTo n A V D m := by rw [bnL, if_neg h, if_neg hz]
theorem bnL_rise (h : ¬ (m ≠ t ∨ 12 < m)) (hz : bnTo n A V D m = 0) : bnL n A m V t D = if riseB m V = true then 0 else 1 := by rw [bnL, if_neg h, if_pos hz]
theorem bnTo_first {k : Nat} (h : bnTo n A V D k = 0) (hk : bnOne n A (V k) (D.m k) (D.L k) ≠ 0) : ∀ j, k < j → bnTo n A V D j = bnOne n A (V k) (D.m k) (D.L k)
  | 0, hj => by omega
  | j + 1, hj => by
    by_cases e : k = j
    · subst e; show (if _ then _ else _) = _; rw [if_pos h]
    · have ih := bnTo_first h hk j (by omega)
      show (if bnTo n A V D j = 0 then _ else bnTo n A V D j) = _
      rw [ih, if_neg hk]
theorem bnTo_next {k : Nat} (h : bnTo n A V D k = 0) (hk : bnOne n A (V k) (D.m k) (D.L k) = 0) : bnTo n A V D (k + 1) = 0 := by
  show (if _ then _ else _) = _; rw [if_pos h, hk]
theorem bnTo_each : ∀ k, bnTo n A V D k = 0 → ∀ i, i < k → bnOne n A (V i) (D.m i) (D.L i) = 0
  | 0, _, i, hi => by omega
  | k + 1, h, i, hi => by
    have h' : (if bnTo n A V D k = 0 then bnOne n A (V k) (D.m k) (D.L k) else bnTo n A V D k) = 0 := h
    by_cases e : bnTo n A V D k = 0
    · rw [if_pos e] at h'
      by_cases ei : i = k
      · rw [ei]; exact h'
      · exact bnTo_each k e i (by omega)
    · rw [if_neg e] at h'; exact absurd h' e
theorem bnOne_out {v : Int} {k : Nat} {T : Nat → Int} (h : ¬ (0 ≤ v ∧ v ≤ 11)) : bnOne n A v k T = 3 := by rw [bnOne, if_neg h]
theorem bnOne_in {v : Int} {k : Nat} {T : Nat → Int} (h : 0 ≤ v ∧ v ≤ 11) : bnOne n A v k T = lF n A k T := by rw [bnOne, if_pos h]
/-- A binding without a fault. -/
structure Bn (n : Nat) (A : Nat → Int) (m : Nat) (V : Nat → Int) (D : LsL) : Prop where
  most : m ≤ 12
  rng : ∀ i, i < m → 0 ≤ V i ∧ V i ≤ 11
  trm : ∀ i, i < m → lF n A (D.m i) (D.L i) = 0
  rise : ∀ i, i + 1 < m → V i < V (i + 1)
theorem bn_right (h : bnL n A m V t D = 0) : m = t ∧ Bn n A m V D := by
  by_cases h1 : m ≠ t ∨ 12 < m
  · rw [bnL_many h1] at h; cases h
  · by_cases h2 : bnTo n A V D m = 0
    · rw [bnL_rise h1 h2] at h
      have h3 : riseB m V = true := by
        by_cases e : riseB m V = true
        · exact e
        · rw [if_neg e] at h; cases h
      have hh : m = t ∧ m ≤ 12 := by omega
      refine ⟨hh.1, hh.2, fun i hi => ?_, fun i hi => ?_, rise_all h3⟩
      · have := bnTo_each m h2 i hi
        by_cases e : 0 ≤ V i ∧ V i ≤ 11
        · exact e
        · rw [bnOne_out e] at this; cases this
      · have := bnTo_each m h2 i hi
        by_cases e : 0 ≤ V i ∧ V i ≤ 11
        · rw [bnOne_in e] at this; exact this
        · rw [bnOne_out e] at this; cases this
    · rw [bnL_to h1 h2] at h; exact absurd h h2
end

end Go.Proofs.Ytbdgnpjbmlcchaa
