/- Contracts: whether one of the symbols has the arity 0, as the program asks it by slices.ContainsFunc. -/
import Derived.Test.YtbdgnpjbmlcchaaByName
namespace Go.Proofs.Ytbdgnpjbmlcchaa
open Go.RowKit Go.Maps

set_option maxRecDepth 20000 in
set_option maxHeartbeats 400000 in
theorem isConstant_any (s : ByteArray) (x : Int) (w : World) :
    Calls Try.prog 82 #[.agg #[.string s, .int .i64 x]] w fun e w' => e = .returned (.bool (x == 0)) ∧ Below w.heap.size w w' := by
  go_enter Try.func82, Try.ntmps82
  go_wp2
  go_ret
  exact ⟨rfl, alloc_below _ _⟩

open Classical in
noncomputable def consB (n : Nat) (A : Nat → Int) : Bool := decide (cons0 n A)

set_option maxRecDepth 20000 in
set_option maxHeartbeats 400000 in
theorem indexf_any (b off n c : Nat) (N : Nat → ByteArray) (A : Nat → Int) (w : World) (h : Syms w b off n N A) (hn : n ≤ 1048576) :
    Calls Try.prog 97 #[.slice (some ⟨b, off, none⟩) n c, .func (Fn.func 82) #[] #[]] w fun e w' => (∃ r : Int, e = .returned (.int .i64 r) ∧ (decide (0 ≤ r) = consB n A)) ∧ Below w.heap.size w w' := by
  go_enter Try.func97, Try.ntmps97
  go_wp2_with fail
  go_loopw [8] (fun i wr => ∃ k : Nat, k ≤ n ∧ i = .int .i64 k ∧ Hid (∀ i, i < k → A i ≠ 0) ∧ Hid (Below w.heap.size w wr)) (fun i _ => n - (intOf i).toNat)
  case atStart => exact ⟨0, Nat.zero_le _, rfl, hidden (fun i hi => by omega), hidden (Below.refl _ _)⟩
  case round =>
    obtain ⟨k, hk, rfl, HE, HB⟩ := hrel
    by_cases hlt : k < n
    · have hs := h.later HB.out h.blk
      have c1 := hs.name k hlt
      have c2 := hs.arity k hlt
      clear hs
      go_wp2_with fail
      refine (isConstant_any _ _ _).mono ?_
      rintro e w1 ⟨rfl, hb⟩
      have B1 := hidden (keepB HB.out hb)
      clear hb c1 c2 HB
      by_cases hz : A k = 0
      · have hz' : (A k == 0) = true := by simpa using hz
        have HR := hidden (show consB n A = true by simp only [consB, decide_eq_true_eq]; exact ⟨k, hlt, hz⟩)
        rw [hz']
        clear hz' hz
        go_wp2
        go_ret
        exact ⟨⟨_, rfl, by rw [HR.out]; simp⟩, B1.out⟩
      · have hz' : (A k == 0) = false := by simpa using hz
        have HR := hidden hz
        rw [hz']
        clear hz' hz
        go_wp2
        go_roundw
        case rel => exact ⟨k + 1, by omega, by go_num, hidden (fun j hj => by
          by_cases e : j = k
          · rw [e]; exact HR.out
          · exact HE.out j (by omega)), B1⟩
        case measure => simp [intOf]; omega
    · have HR := hidden (show consB n A = false by
        simp only [consB, decide_eq_false_iff_not]
        rintro ⟨i, hi, e⟩
        exact HE.out i (by omega) e)
      go_wp2
      go_ret
      exact ⟨⟨_, rfl, by rw [HR.out]; rfl⟩, HB.out⟩

set_option maxRecDepth 20000 in
set_option maxHeartbeats 400000 in
theorem contains_any (b off n c : Nat) (N : Nat → ByteArray) (A : Nat → Int) (w : World) (h : Syms w b off n N A) (hn : n ≤ 1048576) :
    Calls Try.prog 81 #[.slice (some ⟨b, off, none⟩) n c, .func (Fn.func 82) #[] #[]] w fun e w' => e = .returned (.bool (consB n A)) ∧ Below w.heap.size w w' := by
  go_enter Try.func81, Try.ntmps81
  go_wp2_with fail
  refine (indexf_any b off n c N A w h hn).mono ?_
  rintro e w1 ⟨⟨r, rfl, hr⟩, hb⟩
  have HR := hidden hr
  clear hr
  go_wp2
  go_ret
  exact ⟨by rw [← HR.out]; rfl, hb⟩

end Go.Proofs.Ytbdgnpjbmlcchaa
