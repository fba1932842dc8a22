/- Contracts: what the law FnNumbers draws: a number, a text. -/
import Derived.Test.YtcjpmpbepmjgkaaDoorDraw
import Derived.Test.YtcjpmpbepmjgkaaDoorLawNum
import Derived.Deep.RegionWith
namespace Go.Proofs.YtcjpmpbepmjgkaaDoor
open Go.RowKit

set_option maxHeartbeats 1600000 in
theorem drawNumberText_any (p : Option Addr) (n c : Nat) (l : List Int) (w : World) (h : Src w p n l) :
    Calls Tryd.prog 5 #[.slice p n c] w fun e w' => ∃ x : Int, e = .returned (.int .i64 x) ∧ -1 ≤ x ∧ x ≤ 1000000 ∧ Below w.heap.size w w' := by
  have H := hidden h
  clear h
  go_enter Tryd.func5, Tryd.ntmps5
  go_wp2_with fail
  refine (l1Source_any _ _ _ _).mono ?_
  rintro e w1 ⟨s, rfl, hs, g1, b1⟩
  have G1 := hidden g1
  have B1 := hidden b1
  clear g1 b1
  go_wp2_with fail
  refine (l1Next_any s p n c 0 l 1000000 w _ G1.out H.out B1.out hs (by omega) (by omega) (by omega)).mono ?_
  rintro e w2 ⟨x, rfl, hx0, hx1, g2, k2, -⟩
  have G2 := hidden (show Gen w2 s p n c (0 + 1) from g2)
  have B2 := hidden (show Below w.heap.size w w2 from below_grown B1.out k2 hs)
  clear g2 k2
  go_wp2_with fail
  refine (l1Pick_any s p n c 1 l _ _ _ [0, 9, 10, 999999, 1000000, -1, x] w _ (G2.out.alloc _) H.out (B2.out.alloc B2.out.size _) hs (by omega) (nums_lit w2 [0, 9, 10, 999999, 1000000, -1, x] 2) (by have := G2.out.blk; omega) (by simp) (by simp)).mono ?_
  rintro e w3 ⟨i, hi, rfl, g3, k3, -⟩
  obtain ⟨y, hy, hy1, hy2⟩ : ∃ y : Int, [(0 : Int), 9, 10, 999999, 1000000, -1, x].getD i 0 = y ∧ -1 ≤ y ∧ y ≤ 1000000 := by
    match i, hi with
    | 0, _ => exact ⟨0, rfl, by omega, by omega⟩
    | 1, _ => exact ⟨9, rfl, by omega, by omega⟩
    | 2, _ => exact ⟨10, rfl, by omega, by omega⟩
    | 3, _ => exact ⟨999999, rfl, by omega, by omega⟩
    | 4, _ => exact ⟨1000000, rfl, by omega, by omega⟩
    | 5, _ => exact ⟨-1, rfl, by omega, by omega⟩
    | 6, _ => exact ⟨x, rfl, by omega, by omega⟩
  rw [hy]
  have B3 := hidden (show Below w.heap.size w w3 from below_grown (B2.out.alloc B2.out.size _) k3 hs)
  clear g3 k3 hy
  go_wp2
  go_ret
  exact ⟨y, rfl, hy1, hy2, B3.out⟩

theorem textB_size (n : Int) : (textB n).size ≤ 6 := by
  rw [textB]
  by_cases h : n < 0 ∨ 999999 < n
  · rw [if_pos h]; show (0 : Nat) ≤ 6; omega
  · rw [if_neg h]
    show (Lib.decDigits n.toNat).toArray.size ≤ 6
    rw [List.size_toArray]
    exact (len_dec _ (by omega)).2

theorem Gen.keep {w w' : World} {s n c a : Nat} {p : Option Addr} (h : Gen w s p n c a) (hb : Below w.heap.size w w') : Gen w' s p n c a :=
  ⟨Nat.lt_of_lt_of_le h.blk hb.size, by rw [hb.cell (p := ⟨s, 0, none⟩) h.blk]; exact h.c0, by rw [hb.cell (p := ⟨s, 1, none⟩) h.blk]; exact h.c1, by rw [hb.frozen (p := ⟨s, 1, none⟩) h.blk]; exact h.f1⟩

theorem Src.keep {w w' : World} {p : Option Addr} {n : Nat} {l : List Int} (h : Src w p n l) (hb : Below w.heap.size w w') : Src w' p n l := by
  obtain ⟨h1, h2, h3, h4⟩ := h
  refine ⟨h1, h2, h3, h4.imp id ?_⟩
  rintro ⟨b, off, rfl, hlt, hc⟩
  exact ⟨b, off, rfl, Nat.lt_of_lt_of_le hlt hb.size, fun i hi => by rw [hb.cell (p := ⟨b, off + i, none⟩) hlt]; exact hc i hi⟩

theorem fldT1 (a b : Value) (w : World) : (Instr.field 26 (.agg #[a, b]) 1).run Tryd.prog w = .ok b w := by kernel_rfl

set_option maxHeartbeats 1600000 in
theorem drawNumberOf_any (p : Option Addr) (n c : Nat) (l : List Int) (w : World) (h : Src w p n l) :
    Calls Tryd.prog 7 #[.slice p n c] w fun e w' => ∃ t : ByteArray, e = .returned (.string t) ∧ t.size ≤ 100 ∧ Below w.heap.size w w' := by
  have H := hidden h
  clear h
  go_enter Tryd.func7, Tryd.ntmps7
  go_wp2_with fail
  refine (l1Source_any _ _ _ _).mono ?_
  rintro e w1 ⟨s, rfl, hs, g1, b1⟩
  have G1 := hidden g1
  have B1 := hidden b1
  clear g1 b1
  go_wp2_with fail
  refine (drawNumberText_any p n c l w1 (H.out.keep B1.out)).mono ?_
  rintro e w2 ⟨x, rfl, hx0, hx1, b2⟩
  have B2 := hidden (show Below w.heap.size w w2 from B1.out.trans (b2.mono B1.out.size))
  have G2 := hidden (G1.out.keep b2)
  clear b2
  go_wp2_with fail
  refine (specText_all x w2).mono ?_
  rintro e w3 ⟨rfl, b3⟩
  have B3 := hidden (show Below w.heap.size w w3 from B2.out.trans (b3.mono B2.out.size))
  have G3 := hidden (G2.out.keep b3)
  have hz := textB_size x
  generalize textB x = S at *
  generalize textC x = C at *
  clear b3
  have q1 := fldT1
  go_wp2_with fail
  refine (l1Chance_any s p n c 0 l 5 w _ (by first | exact G3.out | exact G3.out.alloc _) H.out (by first | exact B3.out | exact B3.out.alloc B3.out.size _) hs (by omega) (by omega) (by omega)).mono ?_
  rintro e w4 ⟨v, rfl, g4, k4, -⟩
  have G4 := hidden (show Gen w4 s p n c (0 + 1) from g4)
  have B4 := hidden (show Below w.heap.size w w4 from below_grown (by first | exact B3.out | exact B3.out.alloc B3.out.size _) k4 hs)
  clear g4 k4
  cases v with
  | true =>
    go_wp2
    go_ret
    refine ⟨_, rfl, ?_, B4.out⟩
    rw [ByteArray.size_append]
    show 1 + S.size ≤ 100
    omega
  | false =>
    go_wp2_with fail
    refine (l1Chance_any s p n c 1 l 6 w _ G4.out H.out B4.out hs (by omega) (by omega) (by omega)).mono ?_
    rintro e w5 ⟨v, rfl, g5, k5, -⟩
    have B5 := hidden (show Below w.heap.size w w5 from below_grown B4.out k5 hs)
    clear g5 k5
    cases v with
    | true =>
      go_wp2
      go_ret
      refine ⟨_, rfl, ?_, B5.out⟩
      rw [ByteArray.size_append]
      show S.size + 1 ≤ 100
      omega
    | false =>
      go_wp2
      go_ret
      exact ⟨S, rfl, by omega, B5.out⟩

end Go.Proofs.YtcjpmpbepmjgkaaDoor
