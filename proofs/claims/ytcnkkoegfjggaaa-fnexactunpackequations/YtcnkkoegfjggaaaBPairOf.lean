/- Contracts: two bytes of a number, as the model and as the program makes them; the marks that the law lays on them and looks for. -/
import Derived.Test.YtcnkkoegfjggaaaBSum
import Derived.OwnWalk
import Derived.Lib.Slices
namespace Go.Proofs.Ytcnkkoegfjggaaa.Byt
open Go.RowKit

theorem byteNews (l : List Int) : ∀ u ∈ l.map (Value.int .u8), u.oneCell' = true := by
  intro u hu
  obtain ⟨x, _, rfl⟩ := List.mem_map.1 hu
  rfl

def markVals (k : Int) (n : Nat) : List Value := (List.range n).map fun i : Nat => Value.int .u8 ((k + (i : Int)) % 256)

theorem markVals_length (k : Int) (n : Nat) : (markVals k n).length = n := by simp [markVals]

theorem markVals_step (k : Int) (xs : List Value) (n j : Nat) (hn : xs.length = n) (hj : j < n) :
    (markVals k j ++ xs.drop j).set j (.int .u8 ((k + (j : Int)) % 256)) = markVals k (j + 1) ++ xs.drop (j + 1) := by
  have e : xs.drop j = xs[j]'(by omega) :: xs.drop (j + 1) := List.drop_eq_getElem_cons (by omega)
  rw [e, List.set_append_right _ _ (by rw [markVals_length]; exact Nat.le_refl _), markVals_length, Nat.sub_self, List.set_cons_zero]
  unfold markVals
  rw [List.range_succ, List.map_append, List.append_assoc]
  rfl

theorem grownBy_refl (w : World) (r : Option Nat) : w.grownBy w r := ⟨rfl, rfl, rfl, Nat.le_refl _, fun _ _ _ => rfl⟩
theorem grownBy_trans {a b c : World} {r : Option Nat} (h : a.grownBy b r) (k : b.grownBy c r) : a.grownBy c r :=
  ⟨k.os.trans h.os, k.tape.trans h.tape, k.output.trans h.output, Nat.le_trans h.size k.size, fun i hi hr => (k.block i (Nat.lt_of_lt_of_le hi h.size) hr).trans (h.block i hi hr)⟩

set_option maxRecDepth 20000 in
set_option maxHeartbeats 800000 in
theorem markByteS_any (B g n c : Nat) (k : Int) (xs : List Value) (w : World) (h : w.ownsRow B 5 1 (.slice (some ⟨g, 0, none⟩) n c) n xs) (hn : n ≤ 1048576) (hk0 : 0 ≤ k) (hk : k ≤ 1099511627776) :
    Calls Try.prog 23 #[.slice (some ⟨g, 0, none⟩) n c, .int .i64 k] w fun e w' => e = .returned (.int .i64 (k + n)) ∧ w'.ownsRow B 5 1 (.slice (some ⟨g, 0, none⟩) n c) n (markVals k n) ∧ w.grownBy w' (some g) := by
  have hx : xs.length = n := by have := h.1; omega
  have HX : Hid _ := hx
  clear hx
  go_enter Try.func23, Try.ntmps23
  go_wp2
  go_loopw [1, 5] (fun k' i wr => ∃ j : Nat, j ≤ n ∧ i = .int .i64 j ∧ k' = .int .i64 (k + j) ∧ wr.ownsRow B 5 1 (.slice (some ⟨g, 0, none⟩) n c) n (markVals k j ++ xs.drop j) ∧ w.grownBy wr (some g)) (fun _ i _ => n - (intOf i).toNat)
  case atStart => exact ⟨0, Nat.zero_le _, rfl, by simp, by simpa [markVals] using h, grownBy_refl _ _⟩
  case round =>
    obtain ⟨j, hj, rfl, rfl, hown, hgr⟩ := hrel
    by_cases hlt : j < n
    · have hfr := hown.frozenAt j
      have hst := hown.cellAt j (by omega)
      have hs2 := hown.stored j (.int .u8 ((k + (j : Int)) % 256))
      rw [markVals_step k xs n j HX.out hlt] at hs2
      have HS : Hid _ := hs2
      have hsome : ∃ u, (markVals k j ++ xs.drop j)[j]? = some u := ⟨_, List.getElem?_eq_getElem (by rw [List.length_append, markVals_length, List.length_drop, HX.out]; omega)⟩
      obtain ⟨u, hu⟩ := hsome
      rw [hu] at hst
      clear hs2 hu
      go_wp2
      go_roundw
      case rel => exact ⟨j + 1, by omega, by go_num, by go_num, HS.out.1, grownBy_trans hgr HS.out.2⟩
      case measure => simp [intOf]; omega
    · go_wp2
      go_ret
      have e : j = n := by omega
      subst e
      refine ⟨rfl, ?_, hgr⟩
      rw [List.drop_eq_nil_of_le (by rw [HX.out]; exact Nat.le_refl _), List.append_nil] at hown
      exact hown

set_option maxRecDepth 20000 in
set_option maxHeartbeats 800000 in
theorem eqByteS_none (w : World) :
    Calls Try.prog 22 #[.slice none 0 0, .slice none 0 0] w fun e w' => e = .returned (.bool true) ∧ w' = w := by
  go_enter Try.func22, Try.ntmps22
  go_wp2
  refine wp_loop_rounds 1 ?_
  rw [rounds_succ]
  go_wp2
  go_ret
  exact ⟨rfl, rfl⟩

set_option maxRecDepth 20000 in
set_option maxHeartbeats 800000 in
theorem markByteS_none (w : World) (k : Int) :
    Calls Try.prog 23 #[.slice none 0 0, .int .i64 k] w fun e w' => e = .returned (.int .i64 k) ∧ w' = w := by
  go_enter Try.func23, Try.ntmps23
  go_wp2
  refine wp_loop_rounds 1 ?_
  rw [rounds_succ]
  go_wp2
  go_ret
  exact ⟨rfl, rfl⟩

theorem row_two (w : World) (x y : Int) (hx : 0 ≤ x ∧ x ≤ 255) (hy : 0 ≤ y ∧ y ≤ 255) (t : TypeId) : Row (w.alloc (.cells #[.int .u8 x, .int .u8 y] t)) w.heap.size 0 2 [x, y] := by
  refine ⟨rfl, by omega, fun i => ?_, by simp, fun i hi => ?_⟩
  · match i with
    | 0 => simpa using hx
    | 1 => simpa using hy
    | k + 2 => simp
  · match i, hi with
    | 0, _ => simp [go_sem]
    | 1, _ => simp [go_sem]

theorem ownsRow_mono {w : World} {B B' e size : Nat} {v : Value} {n : Nat} {xs : List Value} (h : w.ownsRow B' e size v n xs) (hB : B ≤ B') : w.ownsRow B e size v n xs := by
  refine ⟨h.1, h.2.imp id ?_⟩
  rintro ⟨g, cap, cur, h1, h2, h3⟩
  exact ⟨g, cap, cur, h1, Nat.le_trans hB h2, h3⟩

end Go.Proofs.Ytcnkkoegfjggaaa.Byt
