/- Contracts: a signature and a term are drawn. -/
import Derived.Test.YtjjpkhlbokfjpaaL3Bent
namespace Go.Proofs.Ytjjpkhlbokfjpaa
open Go.RowKit

theorem nums_five (W : World) (t : TypeId) : Byt.Nums (W.alloc (.cells #[.int .i64 3, .int .i64 6, .int .i64 10, .int .i64 16, .int .i64 24] t)) W.heap.size 5 [3, 6, 10, 16, 24] :=
  ⟨rfl, fun i hi => by
    match i, hi with
    | 0, _ => simp [go_sem]
    | 1, _ => simp [go_sem]
    | 2, _ => simp [go_sem]
    | 3, _ => simp [go_sem]
    | 4, _ => simp [go_sem]⟩

theorem nums_four (W : World) (t : TypeId) : Byt.Nums (W.alloc (.cells #[.int .i64 0, .int .i64 3, .int .i64 6, .int .i64 12] t)) W.heap.size 4 [0, 3, 6, 12] :=
  ⟨rfl, fun i hi => by
    match i, hi with
    | 0, _ => simp [go_sem]
    | 1, _ => simp [go_sem]
    | 2, _ => simp [go_sem]
    | 3, _ => simp [go_sem]⟩

/-- What was drawn: a signature, a list of numbers, and the source. -/
structure OneAns (w w' : World) (s : Nat) (p : Option Addr) (nn c a : Nat) (q : Option Addr) (n d0 g m d : Nat) : Prop where
  few : m ≤ 25
  cap : m ≤ d
  reads : a ≤ 1300
  gen : Byt.Gen w' s p nn c a
  src : w.heap.size ≤ s
  row : ∃ L, Ints w' g 0 m L
  sig : SigV w' (.slice q n d0)
  new : w.heap.size ≤ g
  apart : g ≠ s
  old : ∀ b, q = some b → w.heap.size ≤ b.block ∧ b.block ≠ s
  below : Below w.heap.size w w'

theorem five_in (i : Nat) (hi : i < 5) : ∃ x : Nat, [(3 : Int), 6, 10, 16, 24].getD i 0 = (x : Int) ∧ 1 ≤ x ∧ x ≤ 24 := by
  match i, hi with
  | 0, _ => exact ⟨3, rfl, by omega, by omega⟩
  | 1, _ => exact ⟨6, rfl, by omega, by omega⟩
  | 2, _ => exact ⟨10, rfl, by omega, by omega⟩
  | 3, _ => exact ⟨16, rfl, by omega, by omega⟩
  | 4, _ => exact ⟨24, rfl, by omega, by omega⟩

theorem four_in (i : Nat) (hi : i < 4) : ∃ x : Nat, [(0 : Int), 3, 6, 12].getD i 0 = (x : Int) ∧ x ≤ 12 := by
  match i, hi with
  | 0, _ => exact ⟨0, rfl, by omega⟩
  | 1, _ => exact ⟨3, rfl, by omega⟩
  | 2, _ => exact ⟨6, rfl, by omega⟩
  | 3, _ => exact ⟨12, rfl, by omega⟩

set_option maxRecDepth 20000 in
set_option maxHeartbeats 25600000 in
theorem l3One_any (p : Option Addr) (nn c : Nat) (l : List Int) (w : World) (h : Byt.Src w p nn l) :
    Calls Try.prog 28 #[.slice p nn c] w fun e w' => ∃ s q n d0 g m d a', e = .returned (.tuple #[.agg #[.slice q n d0], .slice (some ⟨g, 0, none⟩) m d, .pointer (some ⟨s, 0, none⟩)]) ∧ OneAns w w' s p nn c a' q n d0 g m d := by
  have H := hidden h
  have R1 := hidden (Cel.new w (.slice none 0 0) 26)
  clear h
  go_enter Try.func28, Try.ntmps28
  go_wp2_with fail
  with_reducible refine (Byt.l1Source_any p nn c _).mono ?_
  rintro e w1 ⟨s, rfl, hs, hg, hb⟩
  rw [World.size_alloc] at hs
  have B1 := hidden (keepB (alloc_below w (.cells #[.slice none 0 0] 26)) hb)
  replace R1 := hidden (R1.out.keep hb)
  have G1 := hidden hg
  clear hb hg
  go_wp2_with fail
  with_reducible refine (l2Bent_any s p nn c l w w1 G1.out H.out B1.out (by omega)).mono ?_
  rintro e w2 ⟨⟨a, ha, hg⟩, hgr, hv⟩
  have G2 := hidden hg
  have R2 := hidden (R1.out.grown hgr (by omega))
  have B2 := hidden (B1.out.grown hgr B1.out.size (fun k hk => by cases hk; omega))
  have hs1 := G1.out.blk
  obtain ⟨vs, rfl, hsv⟩ : ∃ vs, e = .returned (.agg #[vs]) ∧ SigV w2 vs ∧ ∃ q n d, vs = .slice q n d ∧ n ≤ 7 ∧ (∀ b, q = some b → b.block ≠ s ∧ w.heap.size < b.block) := by
    rcases hv with rfl | ⟨g, m, d, N, A, rfl, hgl, hm, hk, ho⟩
    · exact ⟨_, rfl, Or.inl rfl, none, 0, 0, rfl, by omega, fun b hb => by cases hb⟩
    · exact ⟨_, rfl, Or.inr ⟨g, m, d, N, A, rfl, hm, hk, ho.syms hk.big hk.fits⟩, some ⟨g, 0, none⟩, m, d, rfl, hm, fun b hb => by cases hb; exact ⟨by show g ≠ s; omega, by show w.heap.size < g; omega⟩⟩
  obtain ⟨hsv, q, n, d0, rfl, hn7, hqs⟩ := hsv
  have SV := hidden hsv
  have HQ := hidden hqs
  clear hv hg hgr hsv hqs R1 G1 B1
  obtain ⟨W, hW⟩ : ∃ W, W = w2.alloc (.cells #[.slice q n d0] 26) := ⟨_, rfl⟩
  have hWs : W.heap.size = w2.heap.size + 1 := by rw [hW]; simp
  have G3 := hidden (show Byt.Gen W s p nn c a by rw [hW]; exact G2.out.alloc _)
  have R3 := hidden (show Cel W w.heap.size (.slice none 0 0) by rw [hW]; exact R2.out.keep (alloc_below _ _))
  have T3 := hidden (show Cel W w2.heap.size (.slice q n d0) by rw [hW]; exact Cel.new _ _ _)
  have O3 := hidden (show One W w2.heap.size (.slice q n d0) by rw [hW]; exact One.new _ _ _)
  have B3 := hidden (show Below w.heap.size w W by rw [hW]; exact keepB B2.out (alloc_below _ _))
  have S3 := hidden (show SigV W (.slice q n d0) by rw [hW]; exact SV.out.keep (alloc_below _ _))
  have hs2 := G2.out.blk
  have hw2 := B2.out.size
  have BW : Hid (∀ wc, W.grownBy wc (some s) → Below w.heap.size w wc) := hidden (fun wc hk => B3.out.grown hk B3.out.size (fun k e => by cases e; omega))
  have CW : Hid (∀ w', W.grownBy w' (some s) → w'.cell? ⟨w2.heap.size, 0, none⟩ = some (.slice q n d0) ∧ w'.cell? ⟨w.heap.size, 0, none⟩ = some (.slice none 0 0) ∧ w'.frozen? ⟨w.heap.size, 0, none⟩ = false) := hidden (fun w' hk => ⟨(T3.out.grown hk (by omega)).c0, (R3.out.grown hk (by omega)).c0, (R3.out.grown hk (by omega)).f0⟩)
  have F1 := hidden (show ∀ wc b, W.grownBy wc (some s) → Byt.Gen wc s p nn c a → Byt.Nums wc b 5 [3, 6, 10, 16, 24] → b ≠ s → Calls Try.prog 31 #[.pointer (some ⟨s, 0, none⟩), .slice (some ⟨b, 0, none⟩) 5 5] wc fun e w' => ∃ x : Nat, e = .returned (.int .i64 (x : Int)) ∧ Hid (1 ≤ x ∧ x ≤ 24 ∧ W.grownBy w' (some s) ∧ wc.grownBy w' (some s) ∧ Byt.Gen w' s p nn c (a + 1)) ∧ w'.cell? ⟨w2.heap.size, 0, none⟩ = some (.slice q n d0) ∧ w'.cell? ⟨w.heap.size, 0, none⟩ = some (.slice none 0 0) ∧ w'.frozen? ⟨w.heap.size, 0, none⟩ = false from fun wc b hk hg hx hbs => by
    refine (Byt.l1Pick_any s p nn c a l b 5 5 [3, 6, 10, 16, 24] w wc hg H.out (BW.out wc hk) (by omega) (by omega) hx hbs (by omega) (by omega)).mono ?_
    rintro e w' ⟨i, hi, rfl, hg', hgr, -⟩
    obtain ⟨x, hx, hx1, hx2⟩ := five_in i hi
    have hk' := grownBy_trans hk hgr
    exact ⟨x, by rw [hx], hidden ⟨hx1, hx2, hk', hgr, hg'⟩, CW.out w' hk'⟩)
  have F2 := hidden (show ∀ wc b, W.grownBy wc (some s) → Byt.Gen wc s p nn c (a + 1) → Byt.Nums wc b 4 [0, 3, 6, 12] → b ≠ s → Calls Try.prog 31 #[.pointer (some ⟨s, 0, none⟩), .slice (some ⟨b, 0, none⟩) 4 4] wc fun e w' => ∃ x : Nat, e = .returned (.int .i64 (x : Int)) ∧ Hid (x ≤ 12 ∧ W.grownBy w' (some s) ∧ Byt.Gen w' s p nn c (a + 1 + 1)) ∧ w'.cell? ⟨w2.heap.size, 0, none⟩ = some (.slice q n d0) ∧ w'.cell? ⟨w.heap.size, 0, none⟩ = some (.slice none 0 0) ∧ w'.frozen? ⟨w.heap.size, 0, none⟩ = false from fun wc b hk hg hx hbs => by
    refine (Byt.l1Pick_any s p nn c (a + 1) l b 4 4 [0, 3, 6, 12] w wc hg H.out (BW.out wc hk) (by omega) (by omega) hx hbs (by omega) (by omega)).mono ?_
    rintro e w' ⟨i, hi, rfl, hg', hgr, -⟩
    obtain ⟨x, hx, hx1⟩ := four_in i hi
    have hk' := grownBy_trans hk hgr
    exact ⟨x, by rw [hx], hidden ⟨hx1, hk', hg'⟩, CW.out w' hk'⟩)
  have F3 := hidden (show ∀ wc (most vars : Nat), 1 ≤ most → most ≤ 24 → vars ≤ 12 → W.grownBy wc (some s) → Byt.Gen wc s p nn c (a + 1 + 1) → Calls Try.prog 30 #[.pointer (some ⟨s, 0, none⟩), .pointer (some ⟨w2.heap.size, 0, none⟩), .int .i64 most, .int .i64 vars] wc fun e w' => ∃ g m d, e = .returned (.slice (some ⟨g, 0, none⟩) m d) ∧ Hid (∃ a', m ≤ 25 ∧ m ≤ d ∧ a' ≤ 1300 ∧ Byt.Gen w' s p nn c a' ∧ W.grownBy w' (some s) ∧ W.heap.size ≤ g ∧ ∃ L, Ints w' g 0 m L) ∧ w'.cell? ⟨w2.heap.size, 0, none⟩ = some (.slice q n d0) ∧ w'.cell? ⟨w.heap.size, 0, none⟩ = some (.slice none 0 0) ∧ w'.frozen? ⟨w.heap.size, 0, none⟩ = false from fun wc most vars hm1 hm24 hv12 hk hg => by
    refine (l3BentTerm_any s p nn c (a + 1 + 1) l w wc hg H.out (BW.out wc hk) (by omega) (by omega) w2.heap.size q n d0 (O3.out.grown hk (by omega)) (S3.out.grown hk (fun g' m' d' e => by cases e; exact (HQ.out _ rfl).1)) (by omega) (fun b hb => (HQ.out b hb).1) most vars hm1 hm24 hv12).mono ?_
    rintro e w' ⟨g, m, d, a', rfl, hm, hmd, ha', hd⟩
    have hk' := grownBy_trans hk hd.grw
    exact ⟨g, m, d, rfl, hidden ⟨a', hm, hmd, by omega, hd.gen, hk', Nat.le_trans hk.size hd.hg, hd.row⟩, CW.out w' hk'⟩)
  have FIN := hidden (show ∀ (wb : World) (g m d : Nat) (u : Value), (∃ a', m ≤ 25 ∧ m ≤ d ∧ a' ≤ 1300 ∧ Byt.Gen wb s p nn c a' ∧ W.grownBy wb (some s) ∧ W.heap.size ≤ g ∧ ∃ L, Ints wb g 0 m L) → ∃ s' q' n' d0' g' m' d' a', Ending.returned (.tuple #[.agg #[.slice q n d0], .slice (some ⟨g, 0, none⟩) m d, .pointer (some ⟨s, 0, none⟩)]) = Ending.returned (.tuple #[.agg #[.slice q' n' d0'], .slice (some ⟨g', 0, none⟩) m' d', .pointer (some ⟨s', 0, none⟩)]) ∧ OneAns w (wb.setCell ⟨w.heap.size, 0, none⟩ u) s' p nn c a' q' n' d0' g' m' d' from fun wb g m d u h => by
    obtain ⟨a', hm, hmd, ha', hg, hk, hgl, L, hL⟩ := h
    refine ⟨s, q, n, d0, g, m, d, a', rfl, ⟨hm, hmd, ha', hg.grown (Byt.setCell_grown _ _ _ _) (by omega), by omega, ⟨L, ⟨fun h0 => by have := hL.blk h0; simp; omega, fun i hi => ?_⟩⟩, ?_, by omega, by omega, fun b hb => ⟨Nat.le_of_lt (HQ.out b hb).2, (HQ.out b hb).1⟩, (BW.out wb hk).setCell (by simp) _⟩⟩
    · rw [World.cell?_setCell_other _ _ _ _ (by simp; try omega)]
      exact hL.cell i hi
    · refine (S3.out.grown hk (fun g' m' d' e => by cases e; exact (HQ.out _ rfl).1)).grown (s := w.heap.size) (Byt.setCell_grown _ _ _ _) (fun g' m' d' e => by cases e; exact Nat.ne_of_gt (HQ.out _ rfl).2))
  have t0 := T3.out.c0
  have r0 := R3.out.c0
  have r1 := R3.out.f0
  have Ba := hidden (alloc_below W (.cells #[.int .i64 3, .int .i64 6, .int .i64 10, .int .i64 16, .int .i64 24] 2))
  have ta := (T3.out.keep Ba.out).c0
  have ra := (R3.out.keep Ba.out).c0
  have fa := (R3.out.keep Ba.out).f0
  have Bb := hidden (alloc_below W (.cells #[.int .i64 0, .int .i64 3, .int .i64 6, .int .i64 12] 2))
  have tb := (T3.out.keep Bb.out).c0
  have rb := (R3.out.keep Bb.out).c0
  have fb := (R3.out.keep Bb.out).f0
  have Bab := hidden (keepB (alloc_below W (.cells #[.int .i64 3, .int .i64 6, .int .i64 10, .int .i64 16, .int .i64 24] 2)) (alloc_below _ (.cells #[.int .i64 0, .int .i64 3, .int .i64 6, .int .i64 12] 2)))
  have tab := (T3.out.keep Bab.out).c0
  have rab := (R3.out.keep Bab.out).c0
  have fab := (R3.out.keep Bab.out).f0
  have Bba := hidden (keepB (alloc_below W (.cells #[.int .i64 0, .int .i64 3, .int .i64 6, .int .i64 12] 2)) (alloc_below _ (.cells #[.int .i64 3, .int .i64 6, .int .i64 10, .int .i64 16, .int .i64 24] 2)))
  have tba := (T3.out.keep Bba.out).c0
  have rba := (R3.out.keep Bba.out).c0
  have fba := (R3.out.keep Bba.out).f0
  have Ka := hidden (show W.grownBy (W.alloc (.cells #[.int .i64 3, .int .i64 6, .int .i64 10, .int .i64 16, .int .i64 24] 2)).drew (some s) from grownBy_trans (by_row Ba.out (some s)) ⟨rfl, rfl, rfl, Nat.le_refl _, fun _ _ _ => rfl⟩)
  have Ga := hidden (show Byt.Gen (W.alloc (.cells #[.int .i64 3, .int .i64 6, .int .i64 10, .int .i64 16, .int .i64 24] 2)).drew s p nn c a from (G3.out.grown (by_row Ba.out (some (s + 1))) (by omega)).grown (show World.grownBy _ (W.alloc (.cells #[.int .i64 3, .int .i64 6, .int .i64 10, .int .i64 16, .int .i64 24] 2)).drew (some (s + 1)) from ⟨rfl, rfl, rfl, Nat.le_refl _, fun _ _ _ => rfl⟩) (by omega))
  have Kab := hidden (show W.grownBy ((W.alloc (.cells #[.int .i64 3, .int .i64 6, .int .i64 10, .int .i64 16, .int .i64 24] 2)).alloc (.cells #[.int .i64 0, .int .i64 3, .int .i64 6, .int .i64 12] 2)).drew (some s) from grownBy_trans (by_row Bab.out (some s)) ⟨rfl, rfl, rfl, Nat.le_refl _, fun _ _ _ => rfl⟩)
  have Gab := hidden (show Byt.Gen ((W.alloc (.cells #[.int .i64 3, .int .i64 6, .int .i64 10, .int .i64 16, .int .i64 24] 2)).alloc (.cells #[.int .i64 0, .int .i64 3, .int .i64 6, .int .i64 12] 2)).drew s p nn c a from (G3.out.grown (by_row Bab.out (some (s + 1))) (by omega)).grown (show World.grownBy _ ((W.alloc (.cells #[.int .i64 3, .int .i64 6, .int .i64 10, .int .i64 16, .int .i64 24] 2)).alloc (.cells #[.int .i64 0, .int .i64 3, .int .i64 6, .int .i64 12] 2)).drew (some (s + 1)) from ⟨rfl, rfl, rfl, Nat.le_refl _, fun _ _ _ => rfl⟩) (by omega))
  have Kba := hidden (show W.grownBy ((W.alloc (.cells #[.int .i64 0, .int .i64 3, .int .i64 6, .int .i64 12] 2)).alloc (.cells #[.int .i64 3, .int .i64 6, .int .i64 10, .int .i64 16, .int .i64 24] 2)).drew (some s) from grownBy_trans (by_row Bba.out (some s)) ⟨rfl, rfl, rfl, Nat.le_refl _, fun _ _ _ => rfl⟩)
  have Gba := hidden (show Byt.Gen ((W.alloc (.cells #[.int .i64 0, .int .i64 3, .int .i64 6, .int .i64 12] 2)).alloc (.cells #[.int .i64 3, .int .i64 6, .int .i64 10, .int .i64 16, .int .i64 24] 2)).drew s p nn c a from (G3.out.grown (by_row Bba.out (some (s + 1))) (by omega)).grown (show World.grownBy _ ((W.alloc (.cells #[.int .i64 0, .int .i64 3, .int .i64 6, .int .i64 12] 2)).alloc (.cells #[.int .i64 3, .int .i64 6, .int .i64 10, .int .i64 16, .int .i64 24] 2)).drew (some (s + 1)) from ⟨rfl, rfl, rfl, Nat.le_refl _, fun _ _ _ => rfl⟩) (by omega))
  have N5a := hidden (show Byt.Nums (W.alloc (.cells #[.int .i64 3, .int .i64 6, .int .i64 10, .int .i64 16, .int .i64 24] 2)).drew W.heap.size 5 [3, 6, 10, 16, 24] from ⟨rfl, (nums_five W 2).cell⟩)
  have N5ab := hidden (show Byt.Nums ((W.alloc (.cells #[.int .i64 3, .int .i64 6, .int .i64 10, .int .i64 16, .int .i64 24] 2)).alloc (.cells #[.int .i64 0, .int .i64 3, .int .i64 6, .int .i64 12] 2)).drew W.heap.size 5 [3, 6, 10, 16, 24] from ⟨rfl, fun i hi => keepCell ((nums_five W 2).cell i hi) _⟩)
  have N4ab := hidden (show Byt.Nums ((W.alloc (.cells #[.int .i64 3, .int .i64 6, .int .i64 10, .int .i64 16, .int .i64 24] 2)).alloc (.cells #[.int .i64 0, .int .i64 3, .int .i64 6, .int .i64 12] 2)).drew (W.heap.size + 1) 4 [0, 3, 6, 12] from ⟨rfl, fun i hi => by have := (nums_four (W.alloc (.cells #[.int .i64 3, .int .i64 6, .int .i64 10, .int .i64 16, .int .i64 24] 2)) 2).cell i hi; rw [World.size_alloc] at this; exact this⟩)
  have N4ba := hidden (show Byt.Nums ((W.alloc (.cells #[.int .i64 0, .int .i64 3, .int .i64 6, .int .i64 12] 2)).alloc (.cells #[.int .i64 3, .int .i64 6, .int .i64 10, .int .i64 16, .int .i64 24] 2)).drew W.heap.size 4 [0, 3, 6, 12] from ⟨rfl, fun i hi => keepCell ((nums_four W 2).cell i hi) _⟩)
  have N5ba := hidden (show Byt.Nums ((W.alloc (.cells #[.int .i64 0, .int .i64 3, .int .i64 6, .int .i64 12] 2)).alloc (.cells #[.int .i64 3, .int .i64 6, .int .i64 10, .int .i64 16, .int .i64 24] 2)).drew (W.heap.size + 1) 5 [3, 6, 10, 16, 24] from ⟨rfl, fun i hi => by have := (nums_five (W.alloc (.cells #[.int .i64 0, .int .i64 3, .int .i64 6, .int .i64 12] 2)) 2).cell i hi; rw [World.size_alloc] at this; exact this⟩)
  have HWS := hidden (show s < W.heap.size by omega)
  clear B2 R2 G2 SV
  go_wp2_with fail
  rw [← hW]
  clear hW hWs
  go_region_with (first
    | (go_at_call 31; with_reducible refine (F1.out _ _ Ka.out Ga.out N5a.out (by have := HWS.out; omega)).mono ?_; rintro e v5 ⟨x, rfl, HX, t5, r5, f5⟩; have t5a := keepCell t5 (.cells #[.int .i64 0, .int .i64 3, .int .i64 6, .int .i64 12] 2); have r5a := keepCell r5 (.cells #[.int .i64 0, .int .i64 3, .int .i64 6, .int .i64 12] 2))
    | (go_at_call 31; with_reducible refine (F1.out _ _ Kab.out Gab.out N5ab.out (by have := HWS.out; omega)).mono ?_; rintro e v5 ⟨x, rfl, HX, t5, r5, f5⟩; have N4 := hidden (Nums.grown N4ab.out HX.out.2.2.2.1 (by have := HWS.out; omega)))
    | (go_at_call 31; with_reducible refine (F1.out _ _ Kba.out Gba.out N5ba.out (by have := HWS.out; omega)).mono ?_; rintro e v5 ⟨x, rfl, HX, t5, r5, f5⟩; have N4 := hidden (Nums.grown N4ba.out HX.out.2.2.2.1 (by have := HWS.out; omega)))
    | (go_at_call 31; with_reducible refine (F2.out _ _ (grownBy_trans HX.out.2.2.1 (World.grownBy_alloc _ _ (some s))) (HX.out.2.2.2.2.alloc _) (nums_four v5 2) (by have := HX.out.2.2.2.2.blk; omega)).mono ?_; rintro e v6 ⟨y, rfl, HY, t6, r6, f6⟩)
    | (go_at_call 31; with_reducible refine (F2.out _ _ HX.out.2.2.1 HX.out.2.2.2.2 N4.out (by have := HWS.out; omega)).mono ?_; rintro e v6 ⟨y, rfl, HY, t6, r6, f6⟩)
    | (go_at_call 30; with_reducible refine (F3.out _ x y HX.out.1 HX.out.2.1 HY.out.1 HY.out.2.1 HY.out.2.2).mono ?_; rintro e v7 ⟨g, m, d, rfl, HZ, t7, r7, f7⟩))
  all_goals go_wp2
  all_goals (
    refine bodyPost_ret (v := .tuple #[.agg #[.slice q n d0], .slice (some ⟨g, 0, none⟩) m d, .pointer (some ⟨s, 0, none⟩)]) (by simp [results, Try.results28, go_sem, r7]) rfl ?_
    exact FIN.out v7 g m d _ HZ.out)

end Go.Proofs.Ytjjpkhlbokfjpaa
