/- Contracts: whether a term has no variable, as the model and as the program asks it. -/
import Derived.Test.YtdcngfdklpdpkaaTermF
namespace Go.Proofs.Ytdcngfdklpdpkaa
open Go.RowKit

open Classical in
noncomputable def gndB (m : Nat) (T : Nat → Int) : Bool := decide (∀ i, i < m → 0 ≤ T i)
open Classical in
noncomputable def hasVar (m : Nat) (T : Nat → Int) : Bool := decide (∃ i, i < m ∧ varB (T i) = true)

open Classical in
/-- What IsGround answers. -/
noncomputable def grB (n : Nat) (N : Nat → ByteArray) (A : Nat → Int) (m : Nat) (T : Nat → Int) : Bool := decide (termF n N A m T = 0 ∧ ∀ i, i < m → 0 ≤ T i)

set_option maxRecDepth 20000 in
set_option maxHeartbeats 400000 in
theorem indexVar_any (b off m c : Nat) (T : Nat → Int) (w : World) (h : Ints w b off m T) (hm : m ≤ 1048576) :
    Calls Try.prog 91 #[.slice (some ⟨b, off, none⟩) m c, .func (Fn.func 92) #[] #[]] w fun e w' => (∃ r : Int, e = .returned (.int .i64 r) ∧ (decide (0 ≤ r) = hasVar m T)) ∧ Below w.heap.size w w' := by
  go_enter Try.func91, Try.ntmps91
  go_wp2_with fail
  go_loopw [8] (fun i wr => ∃ k : Nat, k ≤ m ∧ i = .int .i64 k ∧ Hid (∀ i, i < k → varB (T i) = false) ∧ Hid (Below w.heap.size w wr)) (fun i _ => m - (intOf i).toNat)
  case atStart => exact ⟨0, Nat.zero_le _, rfl, hidden (fun i hi => by omega), hidden (Below.refl _ _)⟩
  case round =>
    obtain ⟨k, hk, rfl, HE, HB⟩ := hrel
    by_cases hlt : k < m
    · have c1 := (h.keep HB.out).cell k hlt
      go_wp2_with fail
      with_reducible refine (isVariable_any _ _).mono ?_
      rintro e w1 ⟨rfl, hb⟩
      have B1 := hidden (keepB HB.out hb)
      clear hb c1 HB
      generalize hz : varB (T k) = ib
      cases ib
      · have HR := hidden hz
        clear hz
        go_wp2
        go_roundw
        case rel => exact ⟨k + 1, by omega, by go_num, hidden (fun j hj => by
          by_cases e : j = k
          · rw [e]; exact HR.out
          · exact HE.out j (by omega)), B1⟩
        case measure => simp [intOf]; omega
      · have HR := hidden (show hasVar m T = true by simp only [hasVar, decide_eq_true_eq]; exact ⟨k, hlt, hz⟩)
        clear hz
        go_wp2
        go_ret
        exact ⟨⟨_, rfl, by rw [HR.out]; simp⟩, B1.out⟩
    · have HR := hidden (show hasVar m T = false by
        simp only [hasVar, decide_eq_false_iff_not]
        rintro ⟨i, hi, e⟩
        rw [HE.out i (by omega)] at e; cases e)
      go_wp2
      go_ret
      exact ⟨⟨_, rfl, by rw [HR.out]; rfl⟩, HB.out⟩

set_option maxRecDepth 20000 in
set_option maxHeartbeats 400000 in
theorem containsVar_any (b off m c : Nat) (T : Nat → Int) (w : World) (h : Ints w b off m T) (hm : m ≤ 1048576) :
    Calls Try.prog 59 #[.slice (some ⟨b, off, none⟩) m c, .func (Fn.func 92) #[] #[]] w fun e w' => e = .returned (.bool (hasVar m T)) ∧ Below w.heap.size w w' := by
  go_enter Try.func59, Try.ntmps59
  go_wp2_with fail
  refine (indexVar_any b off m c T w h hm).mono ?_
  rintro e w1 ⟨⟨r, rfl, hr⟩, hb⟩
  have HR := hidden hr
  clear hr
  go_wp2
  go_ret
  exact ⟨by rw [← HR.out]; rfl, hb⟩

theorem gr_fault {n : Nat} {N : Nat → ByteArray} {A : Nat → Int} {m : Nat} {T : Nat → Int} (h : termF n N A m T ≠ 0) : grB n N A m T = false := by simp [grB, h]
theorem gr_gnd {n : Nat} {N : Nat → ByteArray} {A : Nat → Int} {m : Nat} {T : Nat → Int} (h : termF n N A m T = 0) : grB n N A m T = gndB m T := by simp [grB, gndB, h]
theorem gr_var {n : Nat} {N : Nat → ByteArray} {A : Nat → Int} {m : Nat} {T : Nat → Int} (h : termF n N A m T = 0) : grB n N A m T = !hasVar m T := by
  have hN := (term_right h).nods
  rw [gr_gnd h]
  cases e : hasVar m T with
  | true =>
    simp only [hasVar, decide_eq_true_eq] at e
    obtain ⟨i, hi, hv⟩ := e
    simp only [varB, decide_eq_true_eq] at hv
    simp only [gndB, Bool.not_true, decide_eq_false_iff_not]
    intro h; have := h i hi; omega
  | false =>
    simp only [hasVar, decide_eq_false_iff_not] at e
    simp only [gndB, Bool.not_false, decide_eq_true_eq]
    intro i hi
    rcases nodeB_cases (hN.node i hi) with ⟨j, ej, _⟩ | hv
    · omega
    · exact absurd ⟨i, hi, by simp only [varB, decide_eq_true_eq]; exact hv⟩ e

end Go.Proofs.Ytdcngfdklpdpkaa
