/- Contracts: how many nodes are a given one: CountOf, as the model and as the program tells it. -/
import Derived.Test.YtaecahdamaidaaaTermF
namespace Go.Proofs.Ytaecahdamaidaaa
open Go.RowKit

/-- How many of the first k nodes are x. -/
def cntN (T : Nat → Int) (x : Int) : Nat → Nat
  | 0 => 0
  | k + 1 => cntN T x k + (if T k = x then 1 else 0)

theorem cnt_le (T : Nat → Int) (x : Int) : ∀ k, cntN T x k ≤ k
  | 0 => Nat.le_refl _
  | k + 1 => by have := cnt_le T x k; simp only [cntN]; split <;> omega

noncomputable def ctC (n : Nat) (N : Nat → ByteArray) (A : Nat → Int) (m : Nat) (T : Nat → Int) (x : Int) : Int := if termF n N A m T = 0 then (if nodeB x n = true then 0 else 3) else termF n N A m T
noncomputable def ctV (n : Nat) (N : Nat → ByteArray) (A : Nat → Int) (m : Nat) (T : Nat → Int) (x : Int) : Int := if termF n N A m T = 0 ∧ nodeB x n = true then (cntN T x m : Int) else 0

section
variable {n : Nat} {N : Nat → ByteArray} {A : Nat → Int} {m : Nat} {T : Nat → Int} {x : Int}
theorem ct_fault (h : termF n N A m T ≠ 0) : ctC n N A m T x = termF n N A m T ∧ ctV n N A m T x = 0 := by simp [ctC, ctV, h]
theorem ct_range (h : termF n N A m T = 0) (hx : nodeB x n = false) : ctC n N A m T x = 3 ∧ ctV n N A m T x = 0 := by simp [ctC, ctV, h, hx]
theorem ct_ok (h : termF n N A m T = 0) (hx : nodeB x n = true) : ctC n N A m T x = 0 ∧ ctV n N A m T x = (cntN T x m : Int) := by simp [ctC, ctV, h, hx]
end

set_option maxRecDepth 20000 in
set_option maxHeartbeats 400000 in
theorem l3Count_any (b off m c : Nat) (T : Nat → Int) (x : Int) (w : World) (h : Ints w b off m T) (hm : m ≤ 1048576) :
    Calls Try.prog 95 #[.slice (some ⟨b, off, none⟩) m c, .int .i64 x] w fun e w' => e = .returned (.int .i64 (cntN T x m)) ∧ Below w.heap.size w w' := by
  go_enter Try.func95, Try.ntmps95
  go_wp2
  go_loopw [5, 6] (fun z i wr => ∃ k r : Nat, k ≤ m ∧ i = .int .i64 k ∧ z = .int .i64 r ∧ r ≤ k ∧ Hid (r = cntN T x k) ∧ ∃ q, wr = w.drewN q) (fun _ i _ => m - (intOf i).toNat)
  case atStart => exact ⟨0, 0, Nat.zero_le _, rfl, rfl, Nat.zero_le _, hidden rfl, 0, rfl⟩
  case round =>
    obtain ⟨k, r, hk, rfl, rfl, hr, HE, q, rfl⟩ := hrel
    by_cases hlt : k < m
    · have c1 := h.cell k hlt
      by_cases he : T k = x
      · have HR := hidden (show r + 1 = cntN T x (k + 1) by simp only [cntN, if_pos he]; rw [HE.out])
        rw [he] at c1
        clear he HE
        go_wp2
        go_roundw
        case rel => exact ⟨k + 1, r + 1, by omega, by go_num, by go_num, by omega, HR, _, rfl⟩
        case measure => simp [intOf]; omega
      · have he' : (T k == x) = false := by simpa using he
        have HR := hidden (show r = cntN T x (k + 1) by simp only [cntN, if_neg he]; rw [HE.out]; rfl)
        clear he HE
        go_wp2
        go_roundw
        case rel => exact ⟨k + 1, r, by omega, by go_num, rfl, by omega, HR, _, rfl⟩
        case measure => simp [intOf]; omega
    · obtain rfl : m = k := by omega
      go_wp2
      go_ret
      exact ⟨by rw [← HE.out]; rfl, below_drewN (Below.refl _ _) _⟩

end Go.Proofs.Ytaecahdamaidaaa
