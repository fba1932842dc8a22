/- Contracts: the draws of precedences. -/
import Derived.Test.YthgoclbgepfjmaaSigDraw
import Derived.Test.YthgoclbgepfjmaaPut
import Derived.Test.YthgoclbgepfjmaaCat
namespace Go.Proofs.Ythgoclbgepfjmaa
open Go.RowKit

theorem valsI_snoc (L : Nat → Int) (n : Nat) (x : Int) : valsI L n ++ [Value.int .i64 x] = valsI (upd L n x) (n + 1) := by
  apply List.ext_getElem?
  intro i
  have l1 : (valsI L n).length = n := by simp [valsI]
  by_cases h1 : i < n
  · rw [List.getElem?_append_left (by omega), valsI_at _ _ _ h1, valsI_at _ _ _ (by omega)]; simp [upd]; omega
  · by_cases h2 : i = n
    · subst h2; rw [List.getElem?_append_right (by omega), l1, valsI_at _ _ _ (by omega)]; simp [upd]
    · rw [List.getElem?_eq_none (by simp [l1]; omega), List.getElem?_eq_none (by simp [valsI]; omega)]

set_option maxRecDepth 20000 in
set_option maxHeartbeats 1600000 in
theorem l2Rise_any (n : Nat) (w : World) (hn : n ≤ 7) :
    Calls Try.prog 101 #[.int .i64 (n : Int)] w fun e w' => ∃ g d L, e = .returned (.slice (some ⟨g, 0, none⟩) n d) ∧ w.heap.size ≤ g ∧ OwnI w' w.heap.size g n d L n ∧ Below w.heap.size w w' := by
  have HO := hidden (show OwnI (w.alloc (.cells #[] 2)) w.heap.size w.heap.size 0 0 (fun _ => 0) 0 from ⟨[], World.ownsRow_made w #[] 0 (Nat.le_refl _) (Nat.zero_le _) rfl, fun i hi => by omega⟩)
  go_enter Try.func101, Try.ntmps101
  go_wp2
  go_loopw [3, 4] (fun o i wr => ∃ (k g d : Nat) (L : Nat → Int), k ≤ n ∧ i = .int .i64 k ∧ o = .slice (some ⟨g, 0, none⟩) k d ∧ w.heap.size ≤ g ∧ Hid (OwnI wr w.heap.size g k d L k ∧ Below w.heap.size w wr)) (fun _ i _ => n - (intOf i).toNat)
  case atStart => exact ⟨0, _, _, _, Nat.zero_le _, rfl, rfl, Nat.le_refl _, hidden ⟨HO.out, alloc_below _ _⟩⟩
  case round =>
    clear HO
    obtain ⟨k, g, d, L, hk, rfl, rfl, hg, HI⟩ := hrel
    by_cases hlt : k < n
    · have O1 := hidden HI.out.1.vals
      have B1 := hidden HI.out.2
      have W1 := hidden HI.out.2.size
      clear HI
      go_wp2_with (first | (at_builtin; refine wpList_append_own _ rfl _ _ 44 rfl w.heap.size 2 _ (.int .i64 0) 1 8 Try.underlying44 rfl rfl rfl rfl rfl (by decide) _ _ _ rfl (O1.out.alloc _) ⟨wr.heap.size, 0, none⟩ 1 1 [.int .i64 (k : Int)] rfl rfl (one_srcI _ _ _) (oneValI _) (by unfold maxLen; omega) (by omega) (by have := W1.out; simp; omega) ?_) | go_in)
      intro v' w1 hown hgrow hnil
      rw [valsI_snoc] at hown
      obtain ⟨g2, d2, rfl, hg2, ho, hb⟩ := row_open hown (by simpa using hnil) ((B1.out.alloc W1.out _).grown hgrow (by have := W1.out; simp; omega) (by intro q hq; simp [Value.ownBlock] at hq; omega))
      have H2 := hidden (And.intro (row_own ho) hb)
      clear hown hgrow hnil ho hb O1 B1 W1
      go_wp2
      go_roundw
      case rel => exact ⟨k + 1, g2, d2, _, by omega, by go_num, rfl, hg2, H2⟩
      case measure => simp [intOf]; omega
    · obtain rfl : k = n := by omega
      go_wp2
      go_ret
      exact ⟨g, d, L, rfl, hg, HI.out.1, HI.out.2⟩

/-- What a draw of a list stands at: the source, and a list of its own. -/
structure Dr (w W : World) (s : Nat) (p : Option Addr) (nn c a g m d : Nat) : Prop where
  gen : Byt.Gen W s p nn c a
  own : ∃ L, OwnI W w.heap.size g m d L m
  grw : w.grownBy W (some s)
  hs : s < w.heap.size
  hg : w.heap.size ≤ g

theorem Dr.call {w W W' : World} {s nn c a a' g m d : Nat} {p : Option Addr} (h : Dr w W s p nn c a g m d) (hg : Byt.Gen W' s p nn c a') (hk : W.grownBy W' (some s)) : Dr w W' s p nn c a' g m d := by
  obtain ⟨L, ho⟩ := h.own
  exact ⟨hg, ⟨L, ho.grown hk (by have := h.hs; have := h.hg; omega)⟩, grownBy_trans h.grw hk, h.hs, h.hg⟩

theorem Dr.store {w W : World} {s nn c a g m d : Nat} {p : Option Addr} (h : Dr w W s p nn c a g m d) {i : Nat} (hi : i < m) : ∃ x, W.cell? ⟨g, i, none⟩ = some (.int .i64 x) ∧ W.frozen? ⟨g, i, none⟩ = false ∧ ∀ y, Dr w (W.setCell ⟨g, i, none⟩ (.int .i64 y)) s p nn c a g m d := by
  obtain ⟨L, ho⟩ := h.own
  obtain ⟨c1, f1, _, _⟩ := ho.store hi 0
  refine ⟨L i, c1, f1, fun y => ?_⟩
  obtain ⟨_, _, o2, g2⟩ := ho.store hi y
  exact ⟨h.gen.grown g2 (by have := h.hs; have := h.hg; omega), ⟨_, o2⟩, Byt.grownBy_new h.grw g2 h.hg, h.hs, h.hg⟩

theorem Dr.below {w0 w W : World} {s nn c a g m d : Nat} {p : Option Addr} (h : Dr w W s p nn c a g m d) (hb : Below w0.heap.size w0 w) (hs0 : w0.heap.size ≤ s) : Below w0.heap.size w0 W :=
  hb.grown h.grw hb.size (fun k hk => by cases hk; exact hs0)

set_option maxRecDepth 20000 in
set_option maxHeartbeats 3200000 in
theorem l2DrawOrder_any (s : Nat) (p : Option Addr) (nn c a : Nat) (l : List Int) (w0 w : World) (hs : Byt.Gen w s p nn c a) (h0 : Byt.Src w0 p nn l) (hb : Below w0.heap.size w0 w) (hs0 : w0.heap.size ≤ s) (ha : a ≤ 10000) (ps : Option Addr) (n d0 : Nat) (hn : n ≤ 7) :
    Calls Try.prog 97 #[.pointer (some ⟨s, 0, none⟩), .agg #[.slice ps n d0]] w fun e w' => ∃ g d a', e = .returned (.slice (some ⟨g, 0, none⟩) n d) ∧ a' ≤ a + 4 ∧ Dr w w' s p nn c a' g n d := by
  have hsw := hs.blk
  have HS := hidden (hs.alloc (.cells #[.slice ps n d0] 26))
  have HB := hidden hb
  have H0 := hidden h0
  clear hs hb h0
  go_enter Try.func97, Try.ntmps97
  go_wp2_with fail
  with_reducible refine (l2Rise_any n _ hn).mono ?_
  rintro e w1 ⟨g, d, L, rfl, hg, ho, hb1⟩
  rw [World.size_alloc] at hg
  have D1 := hidden (Dr.mk (w := w) (HS.out.grown (below_grown hb1 (some (w.alloc (.cells #[.slice ps n d0] 26)).heap.size)) (by have := HS.out.blk; omega)) ⟨L, ho.base (by omega)⟩ (grownBy_trans (World.grownBy_alloc w _ (some s)) (below_grown hb1 (some s))) hsw (by omega))
  clear hb1 ho hg HS
  go_wp2_with fail
  with_reducible refine (Byt.l1Next_any s p nn c a l 4 w0 _ D1.out.gen H0.out (D1.out.below HB.out hs0) hs0 (by omega) (by omega) (by omega)).mono ?_
  rintro e w2 ⟨v, rfl, hv0, hv1, hgn, hgr, -⟩
  have D2 := hidden (D1.out.call hgn hgr)
  obtain ⟨v, rfl⟩ := Int.eq_ofNat_of_zero_le hv0
  have hv4 : v < 4 := by omega
  clear hgn hgr D1 hv0 hv1
  go_wp2
  go_loopw [6] (fun i wr => ∃ (k a' : Nat), k ≤ v ∧ i = .int .i64 k ∧ a' + k = a + 1 + v ∧ Hid (Dr w wr s p nn c a' g n d)) (fun i _ => (intOf i).toNat)
  case atStart => exact ⟨v, a + 1, Nat.le_refl _, rfl, by omega, D2⟩
  case round =>
    clear D2
    obtain ⟨k, a', hk, rfl, hak, HD⟩ := hrel
    by_cases hlt : 0 < k
    · have hlt' : (0 : Int) < k := by omega
      by_cases hn1 : 1 < n
      · have hn1' : (1 : Int) < n := by omega
        go_wp2_with fail
        with_reducible refine (Byt.l1Next_any s p nn c a' l ((n : Int) - 1) w0 _ HD.out.gen H0.out (HD.out.below HB.out hs0) hs0 (by omega) (by omega) (by omega)).mono ?_
        rintro e w3 ⟨i, rfl, hi0, hi1, hgn, hgr, -⟩
        have D3 := hidden (HD.out.call hgn hgr)
        obtain ⟨i, rfl⟩ := Int.eq_ofNat_of_zero_le hi0
        have hin : i + 1 < n := by omega
        clear hgn hgr HD hi0 hi1
        obtain ⟨x, c1, f1, st1⟩ := D3.out.store (i := i) (by omega)
        obtain ⟨y, c2, f2, _⟩ := D3.out.store (i := i + 1) hin
        obtain ⟨z, c3, f3, st2⟩ := (st1 y).store (i := i + 1) hin
        have D4 := hidden (st2 x)
        clear D3 st1 st2
        go_wp2
        go_roundw
        case rel => exact ⟨k - 1, a' + 1, by omega, by go_num, by omega, D4⟩
        case measure => simp [intOf]; omega
      · have hn1' : ¬ (1 : Int) < n := by omega
        go_wp2
        go_ret
        first | exact ⟨g, d, a', rfl, by omega, HD.out⟩ | exact ⟨g, d, rfl, a', by omega, HD.out⟩
    · obtain rfl : k = 0 := by omega
      go_wp2
      go_ret
      first | exact ⟨g, d, a', rfl, by omega, HD.out⟩ | exact ⟨g, d, rfl, a', by omega, HD.out⟩

end Go.Proofs.Ythgoclbgepfjmaa
