/- Contracts: symbols are cut off bytes, as the program does it. -/
import Derived.Test.YthgoclbgepfjmaaBytesRes
namespace Go.Proofs.Ythgoclbgepfjmaa
open Go.RowKit

def noSym : Value := .tuple #[.agg #[.string ByteArray.empty, .int .i64 0], .slice none 0 0, .bool false]

set_option maxRecDepth 20000 in
set_option maxHeartbeats 800000 in
theorem cutSymbol_none (p : Option Addr) (c : Nat) (w : World) :
    Calls Try.prog 84 #[.slice p 0 c] w fun e w' => e = .returned noSym ∧ Below w.heap.size w w' := by
  go_enter Try.func84, Try.ntmps84
  go_wp2
  exact bodyPost_ret (v := noSym) (by simp [results, Try.results84, go_sem, noSym]; rfl) rfl ⟨rfl, alloc_below _ _⟩

theorem rowCell {w : World} {b o m : Nat} {l : List Int} (h : Byt.Row w b o m l) {i : Nat} (hi : i < m) (ob : Obj) : (w.alloc ob).cell? ⟨b, o + i, none⟩ = some (.int .u8 (l.getD i 0)) := keepCell (h.cell i hi) ob

set_option maxRecDepth 20000 in
set_option maxHeartbeats 800000 in
theorem cutSymbol_short (b o m c : Nat) (l : List Int) (w : World) (h : Byt.Row w b o m l) (hm : 0 < m) (hx : m ≤ 1048576) (k : Nat) (hk : l.getD 0 0 = k) (hf : m < k + 2) :
    Calls Try.prog 84 #[.slice (some ⟨b, o, none⟩) m c] w fun e w' => e = .returned noSym ∧ Below w.heap.size w w' := by
  have c0 := fun ob => rowCell h hm ob
  rw [hk] at c0
  simp only [Nat.add_zero] at c0
  have hk' : k ≤ 255 := by have := h.byt 0; omega
  have h0 : ((m : Int) == 0) = false := by rw [beq_eq_false_iff_ne]; omega
  clear hk
  go_enter Try.func84, Try.ntmps84
  go_wp2
  exact bodyPost_ret (v := noSym) (by simp [results, Try.results84, go_sem, noSym]; rfl) rfl ⟨rfl, alloc_below _ _⟩

/-- k bytes behind the first i. -/
def cutOf (l : List Int) (i k : Nat) : List Int := (List.range k).map fun j => l.getD (i + j) 0

theorem cutOf_at (l : List Int) (i k j : Nat) (h : j < k) : (cutOf l i k).getD j 0 = l.getD (i + j) 0 := by simp [cutOf, List.getD_eq_getElem?_getD, h]

set_option maxRecDepth 20000 in
set_option maxHeartbeats 1600000 in
theorem cutSymbol_ok (b o m c : Nat) (l : List Int) (w : World) (h : Byt.Row w b o m l) (hc : m ≤ c) (hm : 0 < m) (k : Nat) (hk : l.getD 0 0 = k) (hf : k + 2 ≤ m) :
    Calls Try.prog 84 #[.slice (some ⟨b, o, none⟩) m c] w fun e w' => (∃ o', e = .returned (.tuple #[.agg #[.string (strOfNums (cutOf l 1 k)), .int .i64 (l.getD (1 + k) 0)], .slice (some ⟨b, o', none⟩) (m - (k + 2)) (c - (k + 2)), .bool true]) ∧ (m - (k + 2) = 0 ∨ o' = o + (k + 2))) ∧ Below w.heap.size w w' := by
  have c0 := fun ob => rowCell h hm ob
  have c1 := fun ob => rowCell h (show 1 + k < m by omega) ob
  rw [hk] at c0
  simp only [Nat.add_zero] at c0
  have hk' : k ≤ 255 := by have := h.byt 0; omega
  have h0 : ((m : Int) == 0) = false := by rw [beq_eq_false_iff_ne]; omega
  have hcv : ∀ ob cap, (convert 22 9 (.slice (some ⟨b, o + 1, none⟩) k cap)).run Try.prog (w.alloc ob) = .ok (.string (strOfNums (cutOf l 1 k))) (w.alloc ob) := fun ob cap =>
    run_convert_bytes_arg (P := Try.prog) _ 22 5 Try.underlying22 Try.underlying5 b (o + 1) k cap (cutOf l 1 k) (by simp [cutOf]) (fun i hi => by
      rw [cutOf_at l 1 k i hi, Nat.add_assoc]; exact rowCell h (by omega) ob) 9 Try.underlying9
  have n1 : ¬ c = 1 := by omega
  have hb1 := h.byt (1 + k)
  clear hk
  generalize l.getD (1 + k) 0 = a at *
  have hcvd : ∀ ob cap, (convert 22 9 (.slice (some ⟨b, o + 1, none⟩) k cap)).run Try.prog (w.alloc ob).drew = .ok (.string (strOfNums (cutOf l 1 k))) (w.alloc ob).drew := fun ob cap =>
    run_convert_bytes_arg (P := Try.prog) _ 22 5 Try.underlying22 Try.underlying5 b (o + 1) k cap (cutOf l 1 k) (by simp [cutOf]) (fun i hi => by
      rw [cutOf_at l 1 k i hi, Nat.add_assoc]; exact rowCell h (by omega) ob) 9 Try.underlying9
  generalize strOfNums (cutOf l 1 k) = s at *
  go_enter Try.func84, Try.ntmps84
  by_cases hc2 : c = k + 2
  · go_wp2
    go_big_region
    go_wp2
    refine bodyPost_ret (v := .tuple #[.agg #[.string s, .int .i64 a], .slice (some ⟨b, o, none⟩) (m - (1 + k + 1)) (k + 2 - (1 + k + 1)), .bool true]) (by simp [results, Try.results84, go_sem]) rfl ⟨⟨o, ?_, ?_⟩, (alloc_below _ _).drew⟩
    · rw [hc2, show k + 2 = 1 + k + 1 by omega]
    · left; omega
  · have hc3 : ¬ c = 1 + k + 1 := by omega
    go_wp2
    go_big_region
    go_wp2
    refine bodyPost_ret (v := .tuple #[.agg #[.string s, .int .i64 a], .slice (some ⟨b, o + (1 + k + 1), none⟩) (m - (1 + k + 1)) (c - (1 + k + 1)), .bool true]) (by simp [results, Try.results84, go_sem]) rfl ⟨⟨o + (k + 2), ?_, ?_⟩, (alloc_below _ _).drew⟩
    · rw [show k + 2 = 1 + k + 1 by omega]
    · right; rfl

end Go.Proofs.Ythgoclbgepfjmaa
