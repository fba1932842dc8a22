/- Contracts: the draws of precedences that may be wrong. -/
import Derived.Test.YthgoclbgepfjmaaOrdDraw
import Derived.Test.YthgoclbgepfjmaaSigBent
namespace Go.Proofs.Ythgoclbgepfjmaa
open Go.RowKit

/-- What a drawn list is: a row of numbers in new memory, beside the source. -/
structure DrA (w W : World) (s : Nat) (p : Option Addr) (nn c a g off m : Nat) : Prop where
  gen : Byt.Gen W s p nn c a
  row : ∃ L, Ints W g off m L
  grw : w.grownBy W (some s)
  hs : s < w.heap.size
  hg : w.heap.size ≤ g

theorem Dr.part {w W : World} {s nn c a g m d : Nat} {p : Option Addr} (h : Dr w W s p nn c a g m d) (off m' : Nat) (hm : off + m' ≤ m) : DrA w W s p nn c a g off m' := by
  obtain ⟨L, ho⟩ := h.own
  refine ⟨h.gen, ⟨fun i => L (off + i), ⟨fun _ => ho.lt, fun i hi => ?_⟩⟩, h.grw, h.hs, h.hg⟩
  have := ho.ints.cell (off + i) (by omega)
  rw [Nat.zero_add] at this
  exact this

theorem Dr.cap {w W : World} {s nn c a g m d : Nat} {p : Option Addr} (h : Dr w W s p nn c a g m d) : m ≤ d := by
  obtain ⟨L, xs, ho, _⟩ := h.own
  rcases ho.2 with ⟨hv, _⟩ | ⟨g', cap, cur, hv, _, _, h1, _⟩
  · cases hv
  · simp at hv; omega

set_option maxRecDepth 20000 in
set_option maxHeartbeats 3200000 in
theorem l2BentOrder_any (s : Nat) (p : Option Addr) (nn c a : Nat) (l : List Int) (w0 w : World) (hs : Byt.Gen w s p nn c a) (h0 : Byt.Src w0 p nn l) (hb : Below w0.heap.size w0 w) (hs0 : w0.heap.size ≤ s) (ha : a ≤ 9000) (ps : Option Addr) (n d0 : Nat) (hn : n ≤ 7) :
    Calls Try.prog 87 #[.pointer (some ⟨s, 0, none⟩), .agg #[.slice ps n d0]] w fun e w' => ∃ g off m d a', e = .returned (.slice (some ⟨g, off, none⟩) m d) ∧ m ≤ 7 ∧ a' ≤ a + 10 ∧ DrA w w' s p nn c a' g off m := by
  have hsw := hs.blk
  have HS := hidden (hs.alloc (.cells #[.slice ps n d0] 26))
  have HB := hidden hb
  have H0 := hidden h0
  have HB1 := hidden (keepB hb (alloc_below w (.cells #[.slice ps n d0] 26)))
  clear hs hb h0
  go_enter Try.func87, Try.ntmps87
  go_wp2_with fail
  with_reducible refine (l2DrawOrder_any s p nn c a l w0 _ HS.out H0.out HB1.out hs0 (by omega) ps n d0 hn).mono ?_
  rintro e w1 ⟨g, d, a1, rfl, ha1, hd⟩
  have D1 := hidden (show Dr w w1 s p nn c a1 g n d from ⟨hd.gen, by obtain ⟨L, ho⟩ := hd.own; exact ⟨L, ho.base (by have := hd.hg; simp at this; omega)⟩, grownBy_trans (World.grownBy_alloc w _ (some s)) hd.grw, hsw, by have := hd.hg; simp at this; omega⟩)
  have hcap := hd.cap
  clear hd HS HB1
  by_cases h1 : n = 0
  · subst h1
    go_wp2
    go_ret
    exact ⟨g, 0, 0, d, a1, rfl, by omega, by omega, D1.out.part 0 0 (by omega)⟩
  have hn1 : ¬ (n : Int) < 1 := by omega
  have hn0 : 0 < n := by omega
  go_wp2_with fail
  with_reducible refine (Byt.l1Chance_any s p nn c a1 l 10 w0 _ D1.out.gen H0.out (D1.out.below HB.out hs0) hs0 (by omega) (by omega) (by omega)).mono ?_
  rintro e w2 ⟨v, rfl, hgn, hgr, -⟩
  have D2 := hidden (D1.out.call hgn hgr)
  clear hgn hgr D1
  cases v
  · go_wp2
    go_ret
    exact ⟨g, 0, n, d, _, rfl, hn, by omega, D2.out.part 0 n (by omega)⟩
  · go_wp2_with fail
    with_reducible refine (Byt.l1Next_any s p nn c (a1 + 1) l 3 w0 _ D2.out.gen H0.out (D2.out.below HB.out hs0) hs0 (by omega) (by omega) (by omega)).mono ?_
    rintro e w3 ⟨v, rfl, hv0, hv1, hgn, hgr, -⟩
    have D3 := hidden (D2.out.call hgn hgr)
    clear hgn hgr D2
    rcases (show v = 0 ∨ v = 1 ∨ v = 2 by omega) with rfl | rfl | rfl
    · have hln : (1 : Int) ≤ n := by omega
      by_cases hd1 : d = 1
      · subst hd1
        obtain rfl : n = 1 := by omega
        go_wp2
        go_ret
        exact ⟨g, 0, 0, 0, _, rfl, by omega, by omega, D3.out.part 0 0 (by omega)⟩
      · go_wp2
        go_ret
        exact ⟨g, 1, n - 1, d - 1, _, by simp, by omega, by omega, D3.out.part 1 (n - 1) (by omega)⟩
    · have HN := hidden (nums_two w3 6 (-1) 2)
      have hsw3 := D3.out.gen.blk
      have G4 := hidden (D3.out.gen.alloc (.cells #[.int .i64 6, .int .i64 (-1)] 2))
      have B4 := hidden (keepB (D3.out.below HB.out hs0) (alloc_below w3 (.cells #[.int .i64 6, .int .i64 (-1)] 2)))
      have D4 := hidden (D3.out.call G4.out (World.grownBy_alloc w3 _ (some s)))
      clear D3
      go_wp2_with fail
      with_reducible refine (Byt.l1Pick_any s p nn c (a1 + 1 + 1) l w3.heap.size 2 2 [6, -1] w0 _ G4.out H0.out B4.out hs0 (by omega) HN.out (by omega) (by omega) (by omega)).mono ?_
      rintro e w5 ⟨i, hi, rfl, hgn, hgr, -⟩
      have D5 := hidden (D4.out.call hgn hgr)
      clear hgn hgr D4 G4 B4 HN
      generalize [(6 : Int), -1].getD i 0 = x
      obtain ⟨y, c1, f1, st⟩ := D5.out.store (i := 0) hn0
      have D6 := hidden (st x)
      clear st D5
      go_wp2
      go_ret
      exact ⟨g, 0, n, d, _, rfl, hn, by omega, D6.out.part 0 n (by omega)⟩
    · obtain ⟨y, c1, f1, st⟩ := D3.out.store (i := 0) hn0
      obtain ⟨z, c2, f2, _⟩ := D3.out.store (i := n - 1) (by omega)
      have D6 := hidden (st z)
      clear st D3
      have hnn : (n : Int) - 1 = ((n - 1 : Nat) : Int) := by omega
      go_wp2
      go_ret
      exact ⟨g, 0, n, d, _, rfl, hn, by omega, D6.out.part 0 n (by omega)⟩

end Go.Proofs.Ythgoclbgepfjmaa
