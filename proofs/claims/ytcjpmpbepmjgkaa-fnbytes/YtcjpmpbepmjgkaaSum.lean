/- Contracts: the sum of bytes, as the model and as the program reckons it. -/
import Derived.Test.YtcjpmpbepmjgkaaEq
namespace Go.Proofs.Ytcjpmpbepmjgkaa
open Go.RowKit

def sumL (l : List Int) : Int := l.foldl (fun n b => (n * 227 + b + 1) % 65521) 29

theorem sumL_snoc (l : List Int) (x : Int) : sumL (l ++ [x]) = (sumL l * 227 + x + 1) % 65521 := by simp [sumL]

theorem sumL_bd (l : List Int) : 0 ≤ sumL l ∧ sumL l < 65521 := by
  rcases List.eq_nil_or_concat l with rfl | ⟨r, x, rfl⟩
  · decide
  · rw [List.concat_eq_append, sumL_snoc]; omega

theorem take_snoc (l : List Int) (k : Nat) (h : k < l.length) : l.take (k + 1) = l.take k ++ [l.getD k 0] := by
  rw [List.take_succ_eq_append_getElem h]
  simp [List.getD_eq_getElem?_getD, List.getElem?_eq_getElem h]

set_option maxHeartbeats 400000 in
theorem l1Sum_any (b off n c : Nat) (l : List Int) (w : World) (h : Row w b off n l) :
    Calls Try.prog 27 #[.slice (some ⟨b, off, none⟩) n c] w fun e w' => e = .returned (.int .i64 (sumL l)) ∧ w' = w := by
  have hmx := h.most
  go_enter Try.func27, Try.ntmps27
  go_wp2
  go_loop [3, 4] (fun s i => ∃ k : Nat, k ≤ n ∧ i = .int .i64 k ∧ s = .int .i64 (sumL (l.take k))) (fun _ i => n - (intOf i).toNat)
  case atStart => exact ⟨0, Nat.zero_le _, rfl, rfl⟩
  case round =>
    obtain ⟨k, hk, rfl, rfl⟩ := hrel
    by_cases hlt : k < n
    · have c1 := h.cell k hlt
      have hb := h.byt k
      have hs := sumL_bd (l.take k)
      have HS : Hid (sumL (l.take (k + 1)) = (sumL (l.take k) * 227 + l.getD k 0 + 1) % 65521) := by
        rw [take_snoc l k (by rw [h.len]; exact hlt), sumL_snoc]
        exact rfl
      generalize l.getD k 0 = x at *
      generalize sumL (l.take k) = y at *
      go_wp2
      go_round
      case rel => exact ⟨k + 1, by omega, by go_num, by rw [HS.out]⟩
      case measure => simp [intOf]; omega
    · go_wp2
      go_ret
      have e : l.take k = l := List.take_of_length_le (by rw [h.len]; omega)
      rw [e]
      exact ⟨rfl, rfl⟩

set_option maxHeartbeats 400000 in
theorem specSum_many (p : Option Addr) (n c : Nat) (w : World) (hn : 2000 < n) :
    Calls Try.prog 10 #[.slice p n c] w fun e w' => e = .returned (.agg #[.int .i64 2, .int .i64 0]) ∧ Below w.heap.size w w' := by
  go_enter Try.func10, Try.ntmps10
  go_wp2
  exact bodyPost_ret (v := .agg #[.int .i64 2, .int .i64 0]) (by simp [results, Try.results10, go_sem]) rfl ⟨rfl, (Below.refl _ _).alloc (Nat.le_refl _) _⟩

set_option maxHeartbeats 400000 in
theorem specSum_any (b off n c : Nat) (l : List Int) (w : World) (h : Row w b off n l) (hn : ¬ 2000 < n) :
    Calls Try.prog 10 #[.slice (some ⟨b, off, none⟩) n c] w fun e w' => e = .returned (.agg #[.int .i64 0, .int .i64 (sumL l)]) ∧ Below w.heap.size w w' := by
  go_enter Try.func10, Try.ntmps10
  go_wp2_with (go_at_call 27; refine (l1Sum_any _ _ _ _ l _ ?_).mono ?_)
  case refine_1 => exact h.later ((Below.refl _ _).alloc (Nat.le_refl _) _) h.blk
  rintro e w' ⟨rfl, rfl⟩
  go_wp2
  exact bodyPost_ret (v := .agg #[.int .i64 0, .int .i64 (sumL l)]) (by simp [results, Try.results10, go_sem]) rfl ⟨rfl, (Below.refl _ _).alloc (Nat.le_refl _) _⟩

set_option maxHeartbeats 400000 in
theorem implSum_many (p : Option Addr) (n c : Nat) (w : World) (hn : 2000 < n) :
    Calls Try.prog 7 #[.slice p n c] w fun e w' => e = .returned (.agg #[.int .i64 2, .int .i64 0]) ∧ Below w.heap.size w w' := by
  go_enter Try.func7, Try.ntmps7
  go_wp2
  exact bodyPost_ret (v := .agg #[.int .i64 2, .int .i64 0]) (by simp [results, Try.results7, go_sem]) rfl ⟨rfl, (Below.refl _ _).alloc (Nat.le_refl _) _⟩

set_option maxHeartbeats 400000 in
theorem implSum_any (b off n c : Nat) (l : List Int) (w : World) (h : Row w b off n l) (hn : ¬ 2000 < n) :
    Calls Try.prog 7 #[.slice (some ⟨b, off, none⟩) n c] w fun e w' => e = .returned (.agg #[.int .i64 0, .int .i64 (sumL l)]) ∧ Below w.heap.size w w' := by
  have hmx := h.most
  go_enter Try.func7, Try.ntmps7
  go_wp2
  go_loop [3, 5, 12] (fun s _ i => ∃ k : Nat, k ≤ n ∧ i = .int .i64 k ∧ s = .int .u32 (sumL (l.take k))) (fun _ _ i => n - (intOf i).toNat)
  case atStart => exact ⟨0, Nat.zero_le _, rfl, rfl⟩
  case round =>
    obtain ⟨k, hk, rfl, rfl⟩ := hrel
    by_cases hlt : k < n
    · have c1 := h.cell k hlt
      have c2 : ∀ o, (w.alloc o).cell? ⟨b, off + k, none⟩ = some (.int .u8 (l.getD k 0)) := fun o => by
        rw [((Below.refl w.heap.size w).alloc (Nat.le_refl _) o).cell (p := ⟨b, off + k, none⟩) h.blk]; exact c1
      have hb := h.byt k
      have hs := sumL_bd (l.take k)
      have HS : Hid (sumL (l.take (k + 1)) = (sumL (l.take k) * 227 + l.getD k 0 + 1) % 65521) := by
        rw [take_snoc l k (by rw [h.len]; exact hlt), sumL_snoc]
        exact rfl
      generalize l.getD k 0 = x at *
      generalize sumL (l.take k) = y at *
      go_wp2
      go_round
      case rel => exact ⟨k + 1, by omega, by go_num, by rw [HS.out, Int.mul_comm]⟩
      case measure => simp [intOf]; omega
    · have e : l.take k = l := List.take_of_length_le (by rw [h.len]; omega)
      rw [e]
      clear e
      have hs := sumL_bd l
      go_wp2
      exact bodyPost_ret (v := .agg #[.int .i64 0, .int .i64 (sumL l)]) (by simp [results, Try.results7, go_sem]) rfl ⟨rfl, (Below.refl _ _).alloc (Nat.le_refl _) _⟩

theorem ownRow {w : World} {B g n c : Nat} {l : List Int} (h : w.ownsRow B 5 1 (.slice (some ⟨g, 0, none⟩) n c) n (l.map (Value.int .u8))) (hm : n ≤ 2000000) (hb : ∀ i, 0 ≤ l.getD i 0 ∧ l.getD i 0 ≤ 255) : Row w g 0 n l := by
  have hl := h.1
  simp at hl
  refine ⟨hl, hm, hb, (h.lt g rfl).2, fun i hi => ?_⟩
  rw [Nat.zero_add, h.cellAt i (by omega)]
  simp [List.getD_eq_getElem?_getD, List.getElem?_eq_getElem (show i < l.length by omega)]

theorem Src.later {w w' : World} {p : Option Addr} {n : Nat} {l : List Int} (h : Src w p n l) (hb : Below w.heap.size w w') : Src w' p n l := by
  obtain ⟨h1, h2, h3, h4⟩ := h
  refine ⟨h1, h2, h3, h4.imp id ?_⟩
  rintro ⟨b, off, rfl, hlt, hc⟩
  exact ⟨b, off, rfl, Nat.lt_of_lt_of_le hlt hb.size, fun i hi => by rw [hb.cell (p := ⟨b, off + i, none⟩) hlt]; exact hc i hi⟩

theorem bcell {W w1 : World} (hb : Below W.heap.size W w1) : (∀ b o, b < W.heap.size → w1.cell? ⟨b, o, none⟩ = W.cell? ⟨b, o, none⟩) ∧ (∀ b o, b < W.heap.size → w1.frozen? ⟨b, o, none⟩ = W.frozen? ⟨b, o, none⟩) :=
  ⟨fun b o h => hb.cell (p := ⟨b, o, none⟩) h, fun b o h => hb.frozen (p := ⟨b, o, none⟩) h⟩

/-- A struct of two cells in memory. -/
structure Two (w : World) (b : Nat) (x y : Value) : Prop where
  blk : b < w.heap.size
  c0 : w.cell? ⟨b, 0, none⟩ = some x
  c1 : w.cell? ⟨b, 1, none⟩ = some y

theorem Two.new (w : World) (x y : Value) (t : TypeId) : Two (w.alloc (.cells #[x, y] t)) w.heap.size x y := by
  refine ⟨by simp, ?_, ?_⟩ <;> simp [go_sem]

theorem Two.later {w w' : World} {B b : Nat} {x y : Value} (h : Two w b x y) (hb : Below B w w') (hB : b < B) : Two w' b x y :=
  ⟨Nat.lt_of_lt_of_le h.blk hb.size, by rw [hb.cell (p := ⟨b, 0, none⟩) hB]; exact h.c0, by rw [hb.cell (p := ⟨b, 1, none⟩) hB]; exact h.c1⟩

end Go.Proofs.Ytcjpmpbepmjgkaa
