/- Contracts: whether two lists of numbers are the same, as the model and as the program tells it. -/
import Derived.Test.YtbdgnpjbmlcchaaInts
namespace Go.Proofs.Ytbdgnpjbmlcchaa
open Go.RowKit

open Classical in
noncomputable def sameI (m k : Nat) (L M : Nat → Int) : Bool := decide (m = k ∧ ∀ i, i < m → L i = M i)

set_option maxRecDepth 20000 in
set_option maxHeartbeats 400000 in
theorem l1Same_len (p p' : Option Addr) (m c k c' : Nat) (L M : Nat → Int) (w : World) (h : m ≠ k) :
    Calls Try.prog 34 #[.slice p m c, .slice p' k c'] w fun e w' => e = .returned (.bool (sameI m k L M)) ∧ Below w.heap.size w w' := by
  have HR := hidden (show sameI m k L M = false by simp [sameI, h])
  have h1 : ((m : Int) != (k : Int)) = true := by simp; omega
  go_enter Try.func34, Try.ntmps34
  go_wp2
  go_ret
  exact ⟨by rw [HR.out]; rfl, Below.refl _ _⟩

set_option maxRecDepth 20000 in
set_option maxHeartbeats 800000 in
theorem l1Same_row (b off m c b' off' c' : Nat) (L M : Nat → Int) (w : World) (h : Ints w b off m L) (h' : Ints w b' off' m M) (hm : m ≤ 1048576) :
    Calls Try.prog 34 #[.slice (some ⟨b, off, none⟩) m c, .slice (some ⟨b', off', none⟩) m c'] w fun e w' => e = .returned (.bool (sameI m m L M)) ∧ Below w.heap.size w w' := by
  go_enter Try.func34, Try.ntmps34
  go_wp2
  go_loopw [5] (fun i wr => ∃ j : Nat, j ≤ m ∧ i = .int .i64 j ∧ Hid (∀ i, i < j → L i = M i) ∧ ∃ q, wr = w.drewN q) (fun i _ => m - (intOf i).toNat)
  case atStart => exact ⟨0, Nat.zero_le _, rfl, hidden (fun i hi => by omega), 0, rfl⟩
  case round =>
    obtain ⟨j, hj, rfl, HE, q, rfl⟩ := hrel
    by_cases hlt : j < m
    · have c1 := h.cell j hlt
      have c2 := h'.cell j hlt
      by_cases he : L j = M j
      · have HR := hidden he
        rw [← he] at c2
        clear he
        go_wp2
        go_quiet (fail)
        go_wp2
        go_roundw
        case rel => exact ⟨j + 1, by omega, by go_num, hidden (fun i hi => by
          by_cases e : i = j
          · rw [e]; exact HR.out
          · exact HE.out i (by omega)), _, rfl⟩
        case measure => simp [intOf]; omega
      · have HR := hidden (show sameI m m L M = false by unfold sameI; exact decide_eq_false (fun h => he (h.2 j hlt)))
        have he' : (L j != M j) = true := by simpa using he
        have he2 : (L j == M j) = false := by simpa using he
        clear he
        go_wp2
        go_quiet (fail)
        go_wp2
        go_ret
        exact ⟨by rw [HR.out]; rfl, below_drewN (below_drewN (Below.refl _ _) _) _⟩
    · have HR := hidden (show sameI m m L M = true by unfold sameI; exact decide_eq_true ⟨rfl, fun i hi => HE.out i (by omega)⟩)
      go_wp2
      go_ret
      exact ⟨by rw [HR.out]; rfl, below_drewN (Below.refl _ _) _⟩

theorem l1Same_any (b off m c b' off' k c' : Nat) (L M : Nat → Int) (w : World) (h : Ints w b off m L) (h' : Ints w b' off' k M) (hm : m ≤ 1048576) :
    Calls Try.prog 34 #[.slice (some ⟨b, off, none⟩) m c, .slice (some ⟨b', off', none⟩) k c'] w fun e w' => e = .returned (.bool (sameI m k L M)) ∧ Below w.heap.size w w' := by
  by_cases e : m = k
  · subst e; exact l1Same_row b off m c b' off' c' L M w h h' hm
  · exact l1Same_len _ _ m c k c' L M w e

set_option maxRecDepth 20000 in
set_option maxHeartbeats 400000 in
theorem equal_len (p p' : Option Addr) (m c k c' : Nat) (L M : Nat → Int) (w : World) (h : m ≠ k) :
    Calls Try.prog 39 #[.slice p m c, .slice p' k c'] w fun e w' => e = .returned (.bool (sameI m k L M)) ∧ Below w.heap.size w w' := by
  have HR := hidden (show sameI m k L M = false by simp [sameI, h])
  have h1 : ((m : Int) != (k : Int)) = true := by simp; omega
  go_enter Try.func39, Try.ntmps39
  go_wp2
  go_ret
  exact ⟨by rw [HR.out]; rfl, Below.refl _ _⟩

set_option maxRecDepth 20000 in
set_option maxHeartbeats 800000 in
theorem equal_row (b off m c b' off' c' : Nat) (L M : Nat → Int) (w : World) (h : Ints w b off m L) (h' : Ints w b' off' m M) (hm : m ≤ 1048576) :
    Calls Try.prog 39 #[.slice (some ⟨b, off, none⟩) m c, .slice (some ⟨b', off', none⟩) m c'] w fun e w' => e = .returned (.bool (sameI m m L M)) ∧ Below w.heap.size w w' := by
  go_enter Try.func39, Try.ntmps39
  go_wp2
  go_loopw [13] (fun i wr => ∃ j : Nat, j ≤ m ∧ i = .int .i64 j ∧ Hid (∀ i, i < j → L i = M i) ∧ ∃ q, wr = w.drewN q) (fun i _ => m - (intOf i).toNat)
  case atStart => exact ⟨0, Nat.zero_le _, rfl, hidden (fun i hi => by omega), 0, rfl⟩
  case round =>
    obtain ⟨j, hj, rfl, HE, q, rfl⟩ := hrel
    by_cases hlt : j < m
    · have c1 := h.cell j hlt
      have c2 := h'.cell j hlt
      by_cases he : L j = M j
      · have HR := hidden he
        rw [← he] at c2
        clear he
        go_wp2
        go_quiet (fail)
        go_wp2
        go_roundw
        case rel => exact ⟨j + 1, by omega, by go_num, hidden (fun i hi => by
          by_cases e : i = j
          · rw [e]; exact HR.out
          · exact HE.out i (by omega)), _, rfl⟩
        case measure => simp [intOf]; omega
      · have HR := hidden (show sameI m m L M = false by unfold sameI; exact decide_eq_false (fun h => he (h.2 j hlt)))
        have he' : (L j != M j) = true := by simpa using he
        have he2 : (L j == M j) = false := by simpa using he
        clear he
        go_wp2
        go_quiet (fail)
        go_wp2
        go_ret
        exact ⟨by rw [HR.out]; rfl, below_drewN (below_drewN (Below.refl _ _) _) _⟩
    · have HR := hidden (show sameI m m L M = true by unfold sameI; exact decide_eq_true ⟨rfl, fun i hi => HE.out i (by omega)⟩)
      go_wp2
      go_ret
      exact ⟨by rw [HR.out]; rfl, below_drewN (Below.refl _ _) _⟩

theorem equal_any (b off m c b' off' k c' : Nat) (L M : Nat → Int) (w : World) (h : Ints w b off m L) (h' : Ints w b' off' k M) (hm : m ≤ 1048576) :
    Calls Try.prog 39 #[.slice (some ⟨b, off, none⟩) m c, .slice (some ⟨b', off', none⟩) k c'] w fun e w' => e = .returned (.bool (sameI m k L M)) ∧ Below w.heap.size w w' := by
  by_cases e : m = k
  · subst e; exact equal_row b off m c b' off' c' L M w h h' hm
  · exact equal_len _ _ m c k c' L M w e

set_option maxRecDepth 20000 in
set_option maxHeartbeats 400000 in
theorem sameTerms_any (b off m c b' off' k c' : Nat) (L M : Nat → Int) (w : World) (h : Ints w b off m L) (h' : Ints w b' off' k M) (hm : m ≤ 1048576) :
    Calls Try.prog 24 #[.slice (some ⟨b, off, none⟩) m c, .slice (some ⟨b', off', none⟩) k c'] w fun e w' => e = .returned (.bool (sameI m k L M)) ∧ Below w.heap.size w w' := by
  go_enter Try.func24, Try.ntmps24
  go_wp2_with fail
  with_reducible refine (equal_any _ _ _ _ _ _ _ _ L M _ h h' hm).mono ?_
  rintro e w1 ⟨rfl, hb⟩
  have B := hidden hb
  clear hb
  go_wp2
  go_ret
  exact ⟨rfl, B.out⟩

end Go.Proofs.Ytbdgnpjbmlcchaa
