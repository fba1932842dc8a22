/- Contracts: two bytes of a number, as the model and as the program makes them; the marks that the law lays on them and looks for. -/
import Derived.Test.YtcjpmpbepmjgkaaSum
import Derived.OwnWalk
import Derived.Lib.Slices
namespace Go.Proofs.Ytcjpmpbepmjgkaa
open Go.RowKit

theorem byteNews (l : List Int) : ∀ u ∈ l.map (Value.int .u8), u.oneCell' = true := by
  intro u hu
  obtain ⟨x, _, rfl⟩ := List.mem_map.1 hu
  rfl

set_option maxHeartbeats 800000 in
theorem bytesClone_any (b off n c : Nat) (l : List Int) (w : World) (h : Row w b off n l) :
    Calls Try.prog 26 #[.slice (some ⟨b, off, none⟩) n c] w fun e w' => ∃ g d, e = .returned (.slice (some ⟨g, 0, none⟩) n d) ∧ w.heap.size ≤ g ∧ w'.ownsRow w.heap.size 5 1 (.slice (some ⟨g, 0, none⟩) n d) n (l.map (Value.int .u8)) ∧ Below w.heap.size w w' := by
  have hm := h.most
  have HL : Hid _ := h.len
  have hc := h.cell
  have HC : Hid _ := hc
  clear hc
  have q22 : ∀ (w : World) (a : Option Addr) (n c n' c' : Nat), (binOp .eql 22 (.slice a n c) (.slice none n' c')).run Try.prog w = .ok (.bool a.isNone) w := fun w a n c n' c' => Lib.run_eql_slice_nil w _ _ a n c n' c' Try.underlying22
  go_enter Try.func26, Try.ntmps26
  go_wp2_with (at_builtin; refine wpList_append_own _ rfl _ _ 22 rfl w.heap.size 5 _ (.int .u8 0) 1 1 Try.underlying22 rfl rfl rfl rfl rfl (by decide) _ _ _ rfl (World.ownsRow_made w #[] 0 (Nat.le_refl _) (Nat.zero_le _) rfl) ⟨b, off, none⟩ n c (l.map (Value.int .u8)) rfl ?qc1 ?qc2 (byteNews l) ?qc4 ?qc5 ?qc6 ?_)
  case qc1 => rw [List.length_map, HL.out]; omega
  case qc2 =>
    intro j u hj
    have hjn : j < n := by
      have := (List.getElem?_eq_some_iff.1 hj).1
      rw [List.length_map, HL.out] at this
      exact this
    have e : (⟨b, off, none⟩ : Addr).add j = ⟨b, off + j, none⟩ := by unfold Addr.add; split <;> simp_all
    rw [e, ((Below.refl w.heap.size w).alloc (Nat.le_refl _) _).cell (p := ⟨b, off + j, none⟩) h.blk, HC.out j hjn, ← hj]
    simp [List.getD_eq_getElem?_getD, List.getElem?_eq_getElem (show j < l.length by rw [HL.out]; exact hjn)]
  case qc4 => unfold maxLen; omega
  case qc5 => omega
  case qc6 => simp
  intro v' w1 hown hgrow hnil
  go_wp2
  go_ret
  rcases hown.2 with ⟨hv, _⟩ | ⟨g, d, cur, hv, hg, _⟩
  · exact absurd hv hnil
  · subst hv
    refine ⟨g, d, rfl, hg, hown, ?_⟩
    exact ((Below.refl _ w).alloc (Nat.le_refl _) _).grown hgrow (by simp) (by intro k hk; simp [Value.ownBlock] at hk; omega)

def markVals (k : Int) (n : Nat) : List Value := (List.range n).map fun i : Nat => Value.int .u8 ((k + (i : Int)) % 256)

theorem markVals_length (k : Int) (n : Nat) : (markVals k n).length = n := by simp [markVals]

theorem markVals_step (k : Int) (xs : List Value) (n j : Nat) (hn : xs.length = n) (hj : j < n) :
    (markVals k j ++ xs.drop j).set j (.int .u8 ((k + (j : Int)) % 256)) = markVals k (j + 1) ++ xs.drop (j + 1) := by
  have e : xs.drop j = xs[j]'(by omega) :: xs.drop (j + 1) := List.drop_eq_getElem_cons (by omega)
  rw [e, List.set_append_right _ _ (by rw [markVals_length]; exact Nat.le_refl _), markVals_length, Nat.sub_self, List.set_cons_zero]
  unfold markVals
  rw [List.range_succ, List.map_append, List.append_assoc]
  rfl

theorem grownBy_refl (w : World) (r : Option Nat) : w.grownBy w r := ⟨rfl, rfl, rfl, Nat.le_refl _, fun _ _ _ => rfl⟩
theorem grownBy_trans {a b c : World} {r : Option Nat} (h : a.grownBy b r) (k : b.grownBy c r) : a.grownBy c r :=
  ⟨k.os.trans h.os, k.tape.trans h.tape, k.output.trans h.output, Nat.le_trans h.size k.size, fun i hi hr => (k.block i (Nat.lt_of_lt_of_le hi h.size) hr).trans (h.block i hi hr)⟩

set_option maxHeartbeats 800000 in
theorem specPairOf_out (n : Int) (w : World) (hn : n < 0 ∨ 65535 < n) :
    Calls Try.prog 11 #[.int .i64 n] w fun e w' => e = .returned (.agg #[.int .i64 3, .slice none 0 0]) ∧ Below w.heap.size w w' := by
  by_cases h0 : n < 0
  · have h1 : decide (0 ≤ n) = false := by simp; omega
    go_enter Try.func11, Try.ntmps11
    go_wp2
    exact bodyPost_ret (v := .agg #[.int .i64 3, .slice none 0 0]) (by simp [results, Try.results11, go_sem]) rfl ⟨rfl, (Below.refl _ _).alloc (Nat.le_refl _) _⟩
  · have h1 : (0 : Int) ≤ n := by omega
    have h2 : ¬ n ≤ 65535 := by omega
    clear hn h0
    go_enter Try.func11, Try.ntmps11
    go_wp2
    exact bodyPost_ret (v := .agg #[.int .i64 3, .slice none 0 0]) (by simp [results, Try.results11, go_sem]) rfl ⟨rfl, (Below.refl _ _).alloc (Nat.le_refl _) _⟩

theorem row_two (w : World) (x y : Int) (hx : 0 ≤ x ∧ x ≤ 255) (hy : 0 ≤ y ∧ y ≤ 255) (t : TypeId) : Row (w.alloc (.cells #[.int .u8 x, .int .u8 y] t)) w.heap.size 0 2 [x, y] := by
  refine ⟨rfl, by omega, fun i => ?_, by simp, fun i hi => ?_⟩
  · match i with
    | 0 => simpa using hx
    | 1 => simpa using hy
    | k + 2 => simp
  · match i, hi with
    | 0, _ => simp [go_sem]
    | 1, _ => simp [go_sem]

set_option maxHeartbeats 800000 in
theorem specPairOf_in (n : Int) (w : World) (h0 : 0 ≤ n) (h1 : n ≤ 65535) :
    Calls Try.prog 11 #[.int .i64 n] w fun e w' => ∃ g, e = .returned (.agg #[.int .i64 0, .slice (some ⟨g, 0, none⟩) 2 2]) ∧ w.heap.size ≤ g ∧ Row w' g 0 2 [n / 256, n % 256] ∧ Below w.heap.size w w' := by
  have hr := fun o : Obj => row_two (w.alloc o) (n / 256) (n % 256) (by omega) (by omega) 5
  simp only [World.size_alloc] at hr
  have HR : Hid _ := hr
  clear hr
  go_enter Try.func11, Try.ntmps11
  go_wp2
  exact bodyPost_ret (v := .agg #[.int .i64 0, .slice (some ⟨w.heap.size + 1, 0, none⟩) 2 2]) (by simp [results, Try.results11, go_sem]) rfl ⟨w.heap.size + 1, rfl, by omega, HR.out _, ((Below.refl _ _).alloc (Nat.le_refl _) _).alloc (by simp) _⟩

set_option maxHeartbeats 800000 in
theorem implPairOf_out (n : Int) (w : World) (hn : n < 0 ∨ 65535 < n) :
    Calls Try.prog 9 #[.int .i64 n] w fun e w' => e = .returned (.agg #[.int .i64 3, .slice none 0 0]) ∧ Below w.heap.size w w' := by
  by_cases h0 : n < 0
  · go_enter Try.func9, Try.ntmps9
    go_wp2
    exact bodyPost_ret (v := .agg #[.int .i64 3, .slice none 0 0]) (by simp [results, Try.results9, go_sem]) rfl ⟨rfl, (Below.refl _ _).alloc (Nat.le_refl _) _⟩
  · have h2 : 65535 < n := by omega
    have h3 : decide (n < 0) = false := by simp; omega
    clear hn h0
    go_enter Try.func9, Try.ntmps9
    go_wp2
    exact bodyPost_ret (v := .agg #[.int .i64 3, .slice none 0 0]) (by simp [results, Try.results9, go_sem]) rfl ⟨rfl, (Below.refl _ _).alloc (Nat.le_refl _) _⟩

theorem ownsRow_mono {w : World} {B B' e size : Nat} {v : Value} {n : Nat} {xs : List Value} (h : w.ownsRow B' e size v n xs) (hB : B ≤ B') : w.ownsRow B e size v n xs := by
  refine ⟨h.1, h.2.imp id ?_⟩
  rintro ⟨g, cap, cur, h1, h2, h3⟩
  exact ⟨g, cap, cur, h1, Nat.le_trans hB h2, h3⟩

set_option maxHeartbeats 800000 in
theorem implPairOf_in (n : Int) (w : World) (h0 : 0 ≤ n) (h1 : n ≤ 65535) :
    Calls Try.prog 9 #[.int .i64 n] w fun e w' => ∃ g d, e = .returned (.agg #[.int .i64 0, .slice (some ⟨g, 0, none⟩) 2 d]) ∧ w.heap.size ≤ g ∧ w'.ownsRow w.heap.size 5 1 (.slice (some ⟨g, 0, none⟩) 2 d) 2 ([n / 256, n % 256].map (Value.int .u8)) ∧ Below w.heap.size w w' := by
  have hr := fun o : Obj => row_two (w.alloc o) (n / 256) (n % 256) (by omega) (by omega) 46
  simp only [World.size_alloc] at hr
  have HR : Hid _ := hr
  clear hr
  have h2 : ¬ n < 0 := by omega
  have h3 : ¬ 65535 < n := by omega
  go_enter Try.func9, Try.ntmps9
  go_wp2_with fail
  refine (bytesClone_any _ _ _ _ [n / 256, n % 256] _ (HR.out _)).mono ?_
  rintro e w' ⟨g, d, rfl, hg, ho, hb⟩
  have bb : Below w.heap.size w w' := (((Below.refl _ w).alloc (Nat.le_refl _) _).alloc (by simp) _).trans (hb.mono (by simp; omega))
  have hz : w.heap.size < w'.heap.size := by have := hb.size; simp at this; omega
  have q0 : w'.cell? ⟨w.heap.size, 0, none⟩ = some (.int .i64 0) := by rw [hb.cell (p := ⟨w.heap.size, 0, none⟩) (by simp; omega)]; simp [go_sem]
  have q1 : w'.cell? ⟨w.heap.size, 1, none⟩ = some (.slice none 0 0) := by rw [hb.cell (p := ⟨w.heap.size, 1, none⟩) (by simp; omega)]; simp [go_sem]
  have f0 : w'.frozen? ⟨w.heap.size, 0, none⟩ = false := by rw [hb.frozen (p := ⟨w.heap.size, 0, none⟩) (by simp; omega)]; simp [go_sem]
  have f1 : w'.frozen? ⟨w.heap.size, 1, none⟩ = false := by rw [hb.frozen (p := ⟨w.heap.size, 1, none⟩) (by simp; omega)]; simp [go_sem]
  simp only [World.size_alloc] at hg ho
  have ho1 := ownsRow_setCell_below ho (a := ⟨w.heap.size, 0, none⟩) (by show w.heap.size < _; omega) (.int .i64 0)
  have ho2 := ownsRow_setCell_below ho1 (a := ⟨w.heap.size, 1, none⟩) (by show w.heap.size < _; omega) (.slice (some ⟨g, 0, none⟩) 2 d)
  have HO : Hid _ := ownsRow_mono ho2 (show w.heap.size ≤ w.heap.size + 1 + 1 by omega)
  clear hb ho ho1 ho2 HR
  go_wp2
  refine bodyPost_ret (v := .agg #[.int .i64 0, .slice (some ⟨g, 0, none⟩) 2 d]) (by simp [results, Try.results9, go_sem, q0, q1]) rfl ⟨g, d, rfl, by omega, HO.out, ?_⟩
  exact (bb.setCell (by simp) _).setCell (by simp) _

end Go.Proofs.Ytcjpmpbepmjgkaa
