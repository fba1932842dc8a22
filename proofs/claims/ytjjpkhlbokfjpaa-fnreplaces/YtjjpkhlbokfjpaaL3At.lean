/- Contract: a place in a term is drawn, or one beside it. -/
import Derived.Test.YtjjpkhlbokfjpaaTrmKit
namespace Go.Proofs.Ytjjpkhlbokfjpaa
open Go.RowKit

set_option maxRecDepth 20000 in
set_option maxHeartbeats 800000 in
theorem l1Next_low (s : Nat) (p : Option Addr) (n c a : Nat) (m : Int) (w : World) (hs : Byt.Gen w s p n c a) (ha : a ≤ 1000000) (hm : m < 1) :
    Calls Try.prog 62 #[.pointer (some ⟨s, 0, none⟩), .int .i64 m] w fun e w' => e = .returned (.int .i64 0) ∧ w' = w.setCell ⟨s, 1, none⟩ (.int .i64 ((a + 1 : Nat) : Int)) := by
  obtain ⟨hb, c0, c1, f1⟩ := hs
  go_enter Try.func62, Try.ntmps62
  go_wp2
  go_ret
  exact ⟨rfl, by simp⟩

/-- A number below m, or 0 where there is none. -/
theorem l1Next_all (s : Nat) (p : Option Addr) (n c a : Nat) (l : List Int) (m : Nat) (w0 w : World) (hs : Byt.Gen w s p n c a) (h0 : Byt.Src w0 p n l) (hb : Below w0.heap.size w0 w) (hs0 : w0.heap.size ≤ s) (ha : a ≤ 1000000) (hm : m ≤ 25) :
    Calls Try.prog 62 #[.pointer (some ⟨s, 0, none⟩), .int .i64 m] w fun e w' => ∃ v : Int, e = .returned (.int .i64 v) ∧ (0 ≤ v ∧ v ≤ 25) ∧ Byt.Gen w' s p n c (a + 1) ∧ w.grownBy w' (some s) := by
  by_cases h1 : m < 1
  · refine (l1Next_low s p n c a m w hs ha (by omega)).mono ?_
    rintro e w' ⟨rfl, rfl⟩
    exact ⟨0, rfl, by omega, hs.step 0, Byt.setCell_grown _ _ _ _⟩
  · refine (Byt.l1Next_any s p n c a l m w0 w hs h0 hb hs0 ha (by omega) (by omega)).mono ?_
    rintro e w' ⟨v, rfl, h2, h3, h4, h5, _⟩
    exact ⟨v, rfl, by omega, h4, h5⟩

theorem nums_seven (W : World) (x1 x2 x3 x4 x5 x6 x7 : Int) (t : TypeId) : Byt.Nums (W.alloc (.cells #[.int .i64 x1, .int .i64 x2, .int .i64 x3, .int .i64 x4, .int .i64 x5, .int .i64 x6, .int .i64 x7] t)) W.heap.size 7 [x1, x2, x3, x4, x5, x6, x7] :=
  ⟨rfl, fun i hi => by
    match i, hi with
    | 0, _ => simp [go_sem]
    | 1, _ => simp [go_sem]
    | 2, _ => simp [go_sem]
    | 3, _ => simp [go_sem]
    | 4, _ => simp [go_sem]
    | 5, _ => simp [go_sem]
    | 6, _ => simp [go_sem]⟩

theorem seven_in {x1 x2 x3 x4 x5 x6 x7 : Int} (h1 : -1 ≤ x1 ∧ x1 ≤ 25) (h2 : -1 ≤ x2 ∧ x2 ≤ 25) (h3 : -1 ≤ x3 ∧ x3 ≤ 25) (h4 : -1 ≤ x4 ∧ x4 ≤ 25) (h5 : -1 ≤ x5 ∧ x5 ≤ 25) (h6 : -1 ≤ x6 ∧ x6 ≤ 25) (h7 : -1 ≤ x7 ∧ x7 ≤ 25) (i : Nat) (hi : i < 7) : -1 ≤ [x1, x2, x3, x4, x5, x6, x7].getD i 0 ∧ [x1, x2, x3, x4, x5, x6, x7].getD i 0 ≤ 25 := by
  match i, hi with
  | 0, _ => exact h1
  | 1, _ => exact h2
  | 2, _ => exact h3
  | 3, _ => exact h4
  | 4, _ => exact h5
  | 5, _ => exact h6
  | 6, _ => exact h7

set_option maxRecDepth 20000 in
set_option maxHeartbeats 1600000 in
theorem l3At_any (s : Nat) (p : Option Addr) (n c a : Nat) (l : List Int) (q : Option Addr) (m d : Nat) (w0 w : World) (hs : Byt.Gen w s p n c a) (h0 : Byt.Src w0 p n l) (hb : Below w0.heap.size w0 w) (hs0 : w0.heap.size ≤ s) (ha : a ≤ 5000) (hm : m ≤ 25) :
    Calls Try.prog 29 #[.pointer (some ⟨s, 0, none⟩), .slice q m d] w fun e w' => ∃ x : Int, e = .returned (.int .i64 x) ∧ (-1 ≤ x ∧ x ≤ 25) ∧ Byt.Gen w' s p n c (a + 4) ∧ w.grownBy w' (some s) := by
  have H := hidden h0
  have HB := hidden hb
  have ST := hidden (show Sr w w s p n c a from ⟨hs, ⟨rfl, rfl, rfl, Nat.le_refl _, fun _ _ _ => rfl⟩⟩)
  clear hs h0 hb
  go_enter Try.func29, Try.ntmps29
  go_wp2_with fail
  with_reducible refine (l1Next_all s p n c a l m w0 _ ST.out.gen H.out (ST.out.below HB.out hs0) hs0 (by omega) hm).mono ?_
  rintro e w1 ⟨v1, rfl, hv1, hg, hk⟩
  replace ST := hidden (ST.out.call hg hk)
  clear hg hk
  go_wp2_with fail
  with_reducible refine (l1Next_all s p n c (a + 1) l m w0 _ ST.out.gen H.out (ST.out.below HB.out hs0) hs0 (by omega) hm).mono ?_
  rintro e w2 ⟨v2, rfl, hv2, hg, hk⟩
  replace ST := hidden (ST.out.call hg hk)
  clear hg hk
  go_wp2_with fail
  with_reducible refine (l1Next_all s p n c (a + 1 + 1) l m w0 _ ST.out.gen H.out (ST.out.below HB.out hs0) hs0 (by omega) hm).mono ?_
  rintro e w3 ⟨v3, rfl, hv3, hg, hk⟩
  replace ST := hidden (ST.out.call hg hk)
  clear hg hk
  have NB := hidden (show w3.heap.size ≠ s from fun e => by have := ST.out.gen.blk; omega)
  have SV := hidden (seven_in (x1 := 0) (x2 := (m : Int) - 1) (x3 := v1) (x4 := v2) (x5 := v3) (x6 := (m : Int)) (x7 := -1) (by omega) (by omega) (by omega) (by omega) (by omega) (by omega) (by omega))
  have PC := hidden (Byt.l1Pick_any s p n c (a + 1 + 1 + 1) l w3.heap.size 7 7 [0, (m : Int) - 1, v1, v2, v3, (m : Int), -1] w0 _ (ST.out.gen.alloc (.cells #[.int .i64 0, .int .i64 (m - 1), .int .i64 v1, .int .i64 v2, .int .i64 v3, .int .i64 m, .int .i64 (-1)] 2)) H.out (keepB (ST.out.below HB.out hs0) (alloc_below _ _)) hs0 (by omega) (nums_seven w3 0 (m - 1) v1 v2 v3 m (-1) 2) NB.out (by omega) (by omega))
  go_wp2_with fail
  refine PC.out.mono ?_
  rintro e w4 ⟨i, hi, rfl, hgn, hgr, -⟩
  have hx := SV.out i hi
  have GG := hidden hgn
  have GR := hidden (grownBy_trans (grownBy_trans ST.out.grw (World.grownBy_alloc w3 (.cells #[.int .i64 0, .int .i64 (m - 1), .int .i64 v1, .int .i64 v2, .int .i64 v3, .int .i64 m, .int .i64 (-1)] 2) (some s))) hgr)
  clear hgn hgr PC NB ST SV
  generalize [0, (m : Int) - 1, v1, v2, v3, (m : Int), -1].getD i 0 = x at *
  go_wp2
  go_ret
  exact ⟨x, rfl, hx, GG.out, GR.out⟩

end Go.Proofs.Ytjjpkhlbokfjpaa
