/- Contracts: two bytes of a number, as the model and as the program makes them; the marks that the law lays on them and looks for. -/
import Derived.Test.YtbgemmhkfbfooaaBSum
import Derived.OwnWalk
import Derived.Lib.Slices
namespace Go.Proofs.Ytbgemmhkfbfooaa.Byt
open Go.RowKit

theorem byteNews (l : List Int) : ∀ u ∈ l.map (Value.int .u8), u.oneCell' = true := by
  intro u hu
  obtain ⟨x, _, rfl⟩ := List.mem_map.1 hu
  rfl

def markVals (k : Int) (n : Nat) : List Value := (List.range n).map fun i : Nat => Value.int .u8 ((k + (i : Int)) % 256)

theorem markVals_length (k : Int) (n : Nat) : (markVals k n).length = n := by simp [markVals]

theorem markVals_step (k : Int) (xs : List Value) (n j : Nat) (hn : xs.length = n) (hj : j < n) :
    (markVals k j ++ xs.drop j).set j (.int .u8 ((k + (j : Int)) % 256)) = markVals k (j + 1) ++ xs.drop (j + 1) := by
  have e : xs.drop j = xs[j]'(by omega) :: xs.drop (j + 1) := List.drop_eq_getElem_cons (by omega)
  rw [e, List.set_append_right _ _ (by rw [markVals_length]; exact Nat.le_refl _), markVals_length, Nat.sub_self, List.set_cons_zero]
  unfold markVals
  rw [List.range_succ, List.map_append, List.append_assoc]
  rfl

theorem grownBy_refl (w : World) (r : Option Nat) : w.grownBy w r := ⟨rfl, rfl, rfl, Nat.le_refl _, fun _ _ _ => rfl⟩
theorem grownBy_trans {a b c : World} {r : Option Nat} (h : a.grownBy b r) (k : b.grownBy c r) : a.grownBy c r :=
  ⟨k.os.trans h.os, k.tape.trans h.tape, k.output.trans h.output, Nat.le_trans h.size k.size, fun i hi hr => (k.block i (Nat.lt_of_lt_of_le hi h.size) hr).trans (h.block i hi hr)⟩

theorem row_two (w : World) (x y : Int) (hx : 0 ≤ x ∧ x ≤ 255) (hy : 0 ≤ y ∧ y ≤ 255) (t : TypeId) : Row (w.alloc (.cells #[.int .u8 x, .int .u8 y] t)) w.heap.size 0 2 [x, y] := by
  refine ⟨rfl, by omega, fun i => ?_, by simp, fun i hi => ?_⟩
  · match i with
    | 0 => simpa using hx
    | 1 => simpa using hy
    | k + 2 => simp
  · match i, hi with
    | 0, _ => simp [go_sem]
    | 1, _ => simp [go_sem]

theorem ownsRow_mono {w : World} {B B' e size : Nat} {v : Value} {n : Nat} {xs : List Value} (h : w.ownsRow B' e size v n xs) (hB : B ≤ B') : w.ownsRow B e size v n xs := by
  refine ⟨h.1, h.2.imp id ?_⟩
  rintro ⟨g, cap, cur, h1, h2, h3⟩
  exact ⟨g, cap, cur, h1, Nat.le_trans hB h2, h3⟩

end Go.Proofs.Ytbgemmhkfbfooaa.Byt
