/- Contracts: what the law FnSums draws: a list of bytes, a number, a choice. -/
import Derived.Test.YtcjpmpbepmjgkaaDraw
namespace Go.Proofs.Ytcjpmpbepmjgkaa
open Go.RowKit

theorem below_grown {w0 w w' : World} {s : Nat} (hb : Below w0.heap.size w0 w) (hg : w.grownBy w' (some s)) (hs : w0.heap.size ≤ s) : Below w0.heap.size w0 w' :=
  hb.grown hg hb.size (fun k hk => by cases hk; exact hs)

set_option maxHeartbeats 800000 in
theorem lwAt_any (p : Option Addr) (n c : Nat) (l : List Int) (i m : Int) (w : World) (h : Src w p n l) (hi : 0 ≤ i) (hi2 : i ≤ 1000) (hm : 1 ≤ m) (hm2 : m ≤ 1000000) :
    Calls Try.prog 13 #[.slice p n c, .int .i64 i, .int .i64 m] w fun e w' => ∃ v : Int, e = .returned (.int .i64 v) ∧ 0 ≤ v ∧ v < m ∧ ∃ q, w' = w.drewN q := by
  obtain ⟨hl, hmx, hbd, hz⟩ := h
  by_cases h1 : m ≤ 1
  · clear hz
    go_enter Try.func13, Try.ntmps13
    go_wp2
    go_ret
    exact ⟨0, rfl, by omega, by omega, 0, rfl⟩
  · by_cases hn : n = 0
    · subst hn
      clear hz
      go_enter Try.func13, Try.ntmps13
      go_wp2
      go_ret
      exact ⟨_, rfl, Int.emod_nonneg _ (by omega), Int.emod_lt_of_pos _ (by omega), 0, rfl⟩
    · obtain ⟨b, off, rfl, hlt, hc⟩ := hz.resolve_left hn
      obtain ⟨k, rfl⟩ := Int.eq_ofNat_of_zero_le hi
      have hn1 : (0 : Int) < (n : Int) := by omega
      have hne : ((n : Int) == 0) = false := by simp; omega
      have hj : k % n < n := Nat.mod_lt _ (by omega)
      have c2 := hc (k % n) hj
      have hb2 := hbd (k % n)
      obtain ⟨j, ej, hj2⟩ : ∃ j : Nat, ((k : Int) + 1) % (n : Int) = (j : Int) ∧ j < n := ⟨(k + 1) % n, by rw [Int.natCast_emod, Int.natCast_add]; rfl, Nat.mod_lt _ (by omega)⟩
      have hj3 : (j : Int) < (n : Int) := by omega
      have c3 := hc j hj2
      have hb3 := hbd j
      generalize l.getD (k % n) 0 = x at *
      generalize l.getD j 0 = y at *
      have hd0 : 0 ≤ (k : Int) / (n : Int) := Int.ediv_nonneg (by omega) (by omega)
      have hd1 : (k : Int) / (n : Int) ≤ 1000000 := by
        have := Int.ediv_le_self (a := (k : Int)) (n : Int) (by omega)
        omega
      clear hc hbd hz
      by_cases h2 : 200 < m
      · go_enter Try.func13, Try.ntmps13
        go_wp2
        go_region
        go_wp2
        go_ret
        exact ⟨_, rfl, Int.emod_nonneg _ (by omega), Int.emod_lt_of_pos _ (by omega), 1, rfl⟩
      · go_enter Try.func13, Try.ntmps13
        go_wp2
        go_region
        go_wp2
        go_ret
        exact ⟨_, rfl, Int.emod_nonneg _ (by omega), Int.emod_lt_of_pos _ (by omega), 1, rfl⟩

theorem nums_lit (w : World) (xs : List Int) (t : TypeId) : Nums (w.alloc (.cells (xs.map (Value.int .i64)).toArray t)) w.heap.size xs.length xs := by
  refine ⟨rfl, fun i hi => ?_⟩
  have hc := cell_of_row (w.alloc (.cells (xs.map (Value.int .i64)).toArray t)) w.heap.size i (xs.map (Value.int .i64)).toArray t (0, 0) (heap_alloc_new w _)
  rw [hc]
  simp [List.getD_eq_getElem?_getD, List.getElem?_eq_getElem hi]

set_option maxHeartbeats 1600000 in
theorem drawSumOf_any (p : Option Addr) (n c : Nat) (l : List Int) (w : World) (h : Src w p n l) :
    Calls Try.prog 6 #[.slice p n c] w fun e w' => ∃ (g m d : Nat) (r : List Int), e = .returned (.slice (some ⟨g, 0, none⟩) m d) ∧ m ≤ 2001 ∧ w.heap.size ≤ g ∧ w'.ownsRow w.heap.size 5 1 (.slice (some ⟨g, 0, none⟩) m d) m (r.map (Value.int .u8)) ∧ (∀ i, 0 ≤ r.getD i 0 ∧ r.getD i 0 ≤ 255) ∧ Below w.heap.size w w' := by
  have H : Hid (Src w p n l) := h
  clear h
  go_enter Try.func6, Try.ntmps6
  go_wp2_with fail
  refine (l1Source_any _ _ _ _).mono ?_
  rintro e w1 ⟨s, rfl, hs, g1, b1⟩
  have G1 : Hid _ := g1
  have B1 : Hid _ := b1
  clear g1 b1
  go_wp2_with fail
  refine (l1Chance_any s p n c 0 l 20 w _ G1.out H.out B1.out hs (by omega) (by omega) (by omega)).mono ?_
  rintro e w2 ⟨v, rfl, g2, k2, -⟩
  have G2 : Hid (Gen w2 s p n c (0 + 1)) := g2
  have B2 : Hid (Below w.heap.size w w2) := below_grown B1.out k2 hs
  clear g2 k2
  cases v
  · go_wp2_with fail
    refine (l1Next_any s p n c 1 l 40 w _ G2.out H.out B2.out hs (by omega) (by omega) (by omega)).mono ?_
    rintro e w3 ⟨x, rfl, hx0, hx1, g3, k3, -⟩
    obtain ⟨m, rfl⟩ := Int.eq_ofNat_of_zero_le hx0
    have G3 : Hid (Gen w3 s p n c (1 + 1)) := g3
    have B3 : Hid (Below w.heap.size w w3) := below_grown B2.out k3 hs
    clear g3 k3
    go_wp2_with fail
    refine (l1Some_any s p n c 2 l m w _ G3.out H.out B3.out hs (by omega)).mono ?_
    rintro e w4 ⟨g, d, r, rfl, hg, o4, hr, g4, k4⟩
    have O4 : Hid _ := ownsRow_mono o4 B3.out.size
    have B4 : Hid (Below w.heap.size w w4) := below_grown B3.out k4 hs
    have R4 : Hid _ := hr
    have hgw := Nat.le_trans B3.out.size hg
    clear o4 g4 k4 hr
    go_wp2
    go_ret
    exact ⟨g, m, d, r, rfl, by omega, hgw, O4.out, R4.out, B4.out⟩
  · go_wp2_with fail
    refine (l1Pick_any s p n c 1 l _ _ _ [2000, 2001] w _ (G2.out.alloc _) H.out (B2.out.alloc B2.out.size _) hs (by omega) (nums_lit w2 [2000, 2001] 2) (by have := G2.out.blk; omega) (by simp) (by simp)).mono ?_
    rintro e w3 ⟨i, hi, rfl, g3, k3, -⟩
    obtain ⟨m, hm, hm2⟩ : ∃ m : Nat, [(2000 : Int), 2001].getD i 0 = m ∧ m ≤ 2001 := by
      match i, hi with
      | 0, _ => exact ⟨2000, rfl, by omega⟩
      | 1, _ => exact ⟨2001, rfl, by omega⟩
    rw [hm]
    have G3 : Hid (Gen w3 s p n c (1 + 1)) := g3
    have B3 : Hid (Below w.heap.size w w3) := below_grown (B2.out.alloc B2.out.size _) k3 hs
    clear g3 k3 hm
    go_wp2_with fail
    refine (l1Some_any s p n c 2 l m w _ G3.out H.out B3.out hs (by omega)).mono ?_
    rintro e w4 ⟨g, d, r, rfl, hg, o4, hr, g4, k4⟩
    have O4 : Hid _ := ownsRow_mono o4 B3.out.size
    have B4 : Hid (Below w.heap.size w w4) := below_grown B3.out k4 hs
    have R4 : Hid _ := hr
    have hgw := Nat.le_trans B3.out.size hg
    clear o4 g4 k4 hr
    go_wp2
    go_ret
    exact ⟨g, m, d, r, rfl, by omega, hgw, O4.out, R4.out, B4.out⟩

set_option maxHeartbeats 1600000 in
theorem drawPairOf_any (p : Option Addr) (n c : Nat) (l : List Int) (w : World) (h : Src w p n l) :
    Calls Try.prog 8 #[.slice p n c] w fun e w' => ∃ x : Int, e = .returned (.int .i64 x) ∧ -1 ≤ x ∧ x ≤ 65536 ∧ Below w.heap.size w w' := by
  have H : Hid (Src w p n l) := h
  clear h
  go_enter Try.func8, Try.ntmps8
  go_wp2_with fail
  refine (l1Source_any _ _ _ _).mono ?_
  rintro e w1 ⟨s, rfl, hs, g1, b1⟩
  have G1 : Hid _ := g1
  have B1 : Hid _ := b1
  clear g1 b1
  go_wp2_with fail
  refine (l1Next_any s p n c 0 l 65536 w _ G1.out H.out B1.out hs (by omega) (by omega) (by omega)).mono ?_
  rintro e w2 ⟨x, rfl, hx0, hx1, g2, k2, -⟩
  have G2 : Hid (Gen w2 s p n c (0 + 1)) := g2
  have B2 : Hid (Below w.heap.size w w2) := below_grown B1.out k2 hs
  clear g2 k2
  go_wp2_with fail
  refine (l1Pick_any s p n c 1 l _ _ _ [0, 255, 256, 65535, 65536, -1, x] w _ (G2.out.alloc _) H.out (B2.out.alloc B2.out.size _) hs (by omega) (nums_lit w2 [0, 255, 256, 65535, 65536, -1, x] 2) (by have := G2.out.blk; omega) (by simp) (by simp)).mono ?_
  rintro e w3 ⟨i, hi, rfl, g3, k3, -⟩
  obtain ⟨y, hy, hy1, hy2⟩ : ∃ y : Int, [(0 : Int), 255, 256, 65535, 65536, -1, x].getD i 0 = y ∧ -1 ≤ y ∧ y ≤ 65536 := by
    match i, hi with
    | 0, _ => exact ⟨0, rfl, by omega, by omega⟩
    | 1, _ => exact ⟨255, rfl, by omega, by omega⟩
    | 2, _ => exact ⟨256, rfl, by omega, by omega⟩
    | 3, _ => exact ⟨65535, rfl, by omega, by omega⟩
    | 4, _ => exact ⟨65536, rfl, by omega, by omega⟩
    | 5, _ => exact ⟨-1, rfl, by omega, by omega⟩
    | 6, _ => exact ⟨x, rfl, by omega, by omega⟩
  rw [hy]
  have B3 : Hid (Below w.heap.size w w3) := below_grown (B2.out.alloc B2.out.size _) k3 hs
  clear g3 k3 hy
  go_wp2
  go_ret
  exact ⟨y, rfl, hy1, hy2, B3.out⟩

end Go.Proofs.Ytcjpmpbepmjgkaa
