/- Law FnExactNumberText: at every number the program's NumberText answers as the model's. -/
import Derived.Test.YtcjpmpbepmjgkaaDoorText
import Derived.WalkSmall
import Derived.Lib.LaidTab
namespace Go.Proofs.YtcjpmpbepmjgkaaDoor
open Go.RowKit

/-- The table that the library reads, as the program's text lays it. -/
def Tab (w : World) : Prop := Lib.TabIs Tryd.prog w "internal/strconv.uint64pow10" .u64 Lib.pow10Tab
theorem gTab : Tryd.prog.globalNamed "internal/strconv.uint64pow10" = some 0 := by kernel_rfl

theorem Tab.pos {w : World} (h : Tab w) : 0 < w.heap.size := by
  have hc := Lib.TabIs.cell h gTab 0 (by rw [Lib.pow10Tab_length]; omega)
  exact World.block_lt_of_cell? w _ hc

theorem Tab.later {w w' : World} (h : Tab w) (hb : Below w.heap.size w w') : Tab w' := var?_below hb gTab h.pos h

theorem formatInt (n : Int) (h0 : -9223372036854775808 ≤ n) (h1 : n ≤ 9223372036854775807) (w : World) (htab : Tab w) :
    Calls Tryd.prog 14 #[.int .i64 n, .int .i64 10] w fun e w' => e = .returned (.string ⟨(Lib.itoa n).toArray⟩) ∧ Below w.heap.size w w' := by
  refine (show Calls Tryd.prog 14 #[.int .i64 n, .int .i64 10] w fun e w' => e = .returned (.string ⟨(Lib.itoa n).toArray⟩) ∧ ∃ k os, w' = Go.Sort.grow (w.drewN k) os from Any.strconv_FormatInt_10 Tryd.laysM173 n h0 h1 w htab).mono ?_
  rintro e w' ⟨rfl, k, os, rfl⟩
  refine ⟨rfl, rfl, rfl, rfl, ?_, ?_⟩
  · show w.heap.size ≤ (w.heap ++ os).size
    simp
  · intro i hi
    show (w.heap ++ os)[i]? = w.heap[i]?
    rw [Array.getElem?_append_left hi]

/-- A struct of a number and a text, in memory. -/
structure Two (w : World) (b : Nat) (x y : Value) : Prop where
  blk : b < w.heap.size
  c0 : w.cell? ⟨b, 0, none⟩ = some x
  c1 : w.cell? ⟨b, 1, none⟩ = some y
theorem Two.new (w : World) (x y : Value) (t : TypeId) : Two (w.alloc (.cells #[x, y] t)) w.heap.size x y := by
  refine ⟨by simp, ?_, ?_⟩ <;> simp [go_sem]
theorem Two.keep {w w' : World} {b : Nat} {x y : Value} (h : Two w b x y) (hb : Below w.heap.size w w') : Two w' b x y :=
  ⟨Nat.lt_of_lt_of_le h.blk hb.size, by rw [hb.cell (p := ⟨b, 0, none⟩) h.blk]; exact h.c0, by rw [hb.cell (p := ⟨b, 1, none⟩) h.blk]; exact h.c1⟩
theorem alloc_below (w : World) (o : Obj) : Below w.heap.size w (w.alloc o) := (Below.refl _ _).alloc (Nat.le_refl _) o

def textC (n : Int) : Int := if n < 0 ∨ 999999 < n then 3 else 0
def textB (n : Int) : ByteArray := if n < 0 ∨ 999999 < n then ⟨#[]⟩ else ⟨(Lib.decDigits n.toNat).toArray⟩

set_option maxHeartbeats 800000 in
theorem specText_out (n : Int) (w : World) (hn : n < 0 ∨ 999999 < n) :
    Calls Tryd.prog 9 #[.int .i64 n] w fun e w' => e = .returned (.agg #[.int .i64 3, .string ⟨#[]⟩]) ∧ Below w.heap.size w w' := by
  by_cases h0 : n < 0
  · have h1 : decide (0 ≤ n) = false := by simp; omega
    go_enter Tryd.func9, Tryd.ntmps9
    go_wp2
    exact bodyPost_ret (v := .agg #[.int .i64 3, .string ⟨#[]⟩]) (by simp [results, Tryd.results9, go_sem]) rfl ⟨rfl, (Below.refl _ _).alloc (Nat.le_refl _) _⟩
  · have h1 : (0 : Int) ≤ n := by omega
    have h2 : ¬ n ≤ 999999 := by omega
    clear hn h0
    go_enter Tryd.func9, Tryd.ntmps9
    go_wp2
    exact bodyPost_ret (v := .agg #[.int .i64 3, .string ⟨#[]⟩]) (by simp [results, Tryd.results9, go_sem]) rfl ⟨rfl, (Below.refl _ _).alloc (Nat.le_refl _) _⟩

set_option maxHeartbeats 800000 in
theorem implText_out (n : Int) (w : World) (hn : n < 0 ∨ 999999 < n) :
    Calls Tryd.prog 6 #[.int .i64 n] w fun e w' => e = .returned (.agg #[.int .i64 3, .string ⟨#[]⟩]) ∧ Below w.heap.size w w' := by
  by_cases h0 : n < 0
  · go_enter Tryd.func6, Tryd.ntmps6
    go_wp2
    exact bodyPost_ret (v := .agg #[.int .i64 3, .string ⟨#[]⟩]) (by simp [results, Tryd.results6, go_sem]) rfl ⟨rfl, (Below.refl _ _).alloc (Nat.le_refl _) _⟩
  · have h2 : 999999 < n := by omega
    have h3 : decide (n < 0) = false := by simp; omega
    clear hn h0
    go_enter Tryd.func6, Tryd.ntmps6
    go_wp2
    exact bodyPost_ret (v := .agg #[.int .i64 3, .string ⟨#[]⟩]) (by simp [results, Tryd.results6, go_sem]) rfl ⟨rfl, (Below.refl _ _).alloc (Nat.le_refl _) _⟩

theorem l1In_yes (n : Int) (w : World) (h0 : 0 ≤ n) (h1 : n ≤ 999999) :
    Calls Tryd.prog 17 #[.int .i64 n, .int .i64 0, .int .i64 999999] w fun e w' => e = .returned (.bool true) ∧ w = w' := by
  go_enter Tryd.func17, Tryd.ntmps17
  go_wp2
  go_ret
  exact ⟨rfl, rfl⟩

set_option maxHeartbeats 800000 in
theorem specText_in (n : Nat) (w : World) (hn : n ≤ 999999) :
    Calls Tryd.prog 9 #[.int .i64 n] w fun e w' => e = .returned (.agg #[.int .i64 0, .string ⟨(Lib.decDigits n).toArray⟩]) ∧ Below w.heap.size w w' := by
  have D := hidden (fun w => l1Digits_any n n (Nat.le_refl _) hn w)
  generalize (⟨(Lib.decDigits n).toArray⟩ : ByteArray) = S at *
  go_enter Tryd.func9, Tryd.ntmps9
  go_wp2_with fail
  refine (l1In_yes _ _ (by omega) (by omega)).mono ?_
  rintro e w' ⟨rfl, rfl⟩
  go_wp2_with fail
  refine (D.out _).mono ?_
  rintro e w1 ⟨rfl, hb⟩
  have bb : Below w.heap.size w w1 := (alloc_below w _).trans (hb.mono (by simp))
  have hz : w.heap.size < w1.heap.size := by have := hb.size; simp at this; omega
  have q0 : w1.cell? ⟨w.heap.size, 0, none⟩ = some (.int .i64 0) := by rw [hb.cell (p := ⟨w.heap.size, 0, none⟩) (by simp)]; simp [go_sem]
  have q1 : w1.cell? ⟨w.heap.size, 1, none⟩ = some (.string ⟨#[]⟩) := by rw [hb.cell (p := ⟨w.heap.size, 1, none⟩) (by simp)]; simp [go_sem]
  have f0 : w1.frozen? ⟨w.heap.size, 0, none⟩ = false := by rw [hb.frozen (p := ⟨w.heap.size, 0, none⟩) (by simp)]; simp [go_sem]
  have f1 : w1.frozen? ⟨w.heap.size, 1, none⟩ = false := by rw [hb.frozen (p := ⟨w.heap.size, 1, none⟩) (by simp)]; simp [go_sem]
  clear hb
  go_wp2
  exact bodyPost_ret (v := .agg #[.int .i64 0, .string S]) (by simp [results, Tryd.results9, go_sem, q0, q1]) rfl ⟨rfl, (bb.setCell (by simp) _).setCell (by simp) _⟩

set_option maxHeartbeats 800000 in
theorem implText_in (n : Nat) (w : World) (hn : n ≤ 999999) (ht : Tab w) :
    Calls Tryd.prog 6 #[.int .i64 n] w fun e w' => e = .returned (.agg #[.int .i64 0, .string ⟨(Lib.decDigits n).toArray⟩]) ∧ Below w.heap.size w w' := by
  have D := hidden (fun w ht => formatInt n (by omega) (by omega) w ht)
  rw [Lib.itoa_nonneg] at D
  generalize (⟨(Lib.decDigits n).toArray⟩ : ByteArray) = S at *
  have h2 : decide ((n : Int) < 0) = false := by simp
  have h3 : ¬ 999999 < (n : Int) := by omega
  go_enter Tryd.func6, Tryd.ntmps6
  go_wp2_with fail
  refine (D.out _ (ht.later (alloc_below _ _))).mono ?_
  rintro e w1 ⟨rfl, hb⟩
  have bb : Below w.heap.size w w1 := (alloc_below w _).trans (hb.mono (by simp))
  have hz : w.heap.size < w1.heap.size := by have := hb.size; simp at this; omega
  have q0 : w1.cell? ⟨w.heap.size, 0, none⟩ = some (.int .i64 0) := by rw [hb.cell (p := ⟨w.heap.size, 0, none⟩) (by simp)]; simp [go_sem]
  have q1 : w1.cell? ⟨w.heap.size, 1, none⟩ = some (.string ⟨#[]⟩) := by rw [hb.cell (p := ⟨w.heap.size, 1, none⟩) (by simp)]; simp [go_sem]
  have f0 : w1.frozen? ⟨w.heap.size, 0, none⟩ = false := by rw [hb.frozen (p := ⟨w.heap.size, 0, none⟩) (by simp)]; simp [go_sem]
  have f1 : w1.frozen? ⟨w.heap.size, 1, none⟩ = false := by rw [hb.frozen (p := ⟨w.heap.size, 1, none⟩) (by simp)]; simp [go_sem]
  clear hb
  go_wp2
  exact bodyPost_ret (v := .agg #[.int .i64 0, .string S]) (by simp [results, Tryd.results6, go_sem, q0, q1]) rfl ⟨rfl, (bb.setCell (by simp) _).setCell (by simp) _⟩

theorem specText_all (n : Int) (w : World) :
    Calls Tryd.prog 9 #[.int .i64 n] w fun e w' => e = .returned (.agg #[.int .i64 (textC n), .string (textB n)]) ∧ Below w.heap.size w w' := by
  rw [textC, textB]
  by_cases hn : n < 0 ∨ 999999 < n
  · rw [if_pos hn, if_pos hn]; exact specText_out n w hn
  · rw [if_neg hn, if_neg hn]
    obtain ⟨k, rfl⟩ := Int.eq_ofNat_of_zero_le (show 0 ≤ n by omega)
    exact specText_in k w (by omega)

theorem implText_all (n : Int) (w : World) (ht : Tab w) :
    Calls Tryd.prog 6 #[.int .i64 n] w fun e w' => e = .returned (.agg #[.int .i64 (textC n), .string (textB n)]) ∧ Below w.heap.size w w' := by
  rw [textC, textB]
  by_cases hn : n < 0 ∨ 999999 < n
  · rw [if_pos hn, if_pos hn]; exact implText_out n w hn
  · rw [if_neg hn, if_neg hn]
    obtain ⟨k, rfl⟩ := Int.eq_ofNat_of_zero_le (show 0 ≤ n by omega)
    exact implText_in k w (by omega) ht

end Go.Proofs.YtcjpmpbepmjgkaaDoor
