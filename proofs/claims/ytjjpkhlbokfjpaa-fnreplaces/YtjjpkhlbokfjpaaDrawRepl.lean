/- Contract: a signature, a term, a place and a second term are drawn for a law. -/
import Derived.Test.YtjjpkhlbokfjpaaL3One
import Derived.Test.YtjjpkhlbokfjpaaL3At
namespace Go.Proofs.Ytjjpkhlbokfjpaa
open Go.RowKit

theorem Ints.grown {w w' : World} {b off n s : Nat} {L : Nat → Int} (h : Ints w b off n L) (hg : w.grownBy w' (some s)) (hne : b ≠ s) : Ints w' b off n L :=
  ⟨fun h0 => Nat.lt_of_lt_of_le (h.blk h0) hg.size, fun i hi => hg.cell (h.cell i hi) (by simpa using hne)⟩

theorem Ints.set {w : World} {b off n s : Nat} {L : Nat → Int} {u : Value} (h : Ints w b off n L) (hne : b ≠ s) : Ints (w.setCell ⟨s, 0, none⟩ u) b off n L := h.grown (Byt.setCell_grown _ _ _ _) hne

theorem nums_four' (W : World) (t : TypeId) : Byt.Nums (W.alloc (.cells #[.int .i64 1, .int .i64 3, .int .i64 8, .int .i64 20] t)) W.heap.size 4 [1, 3, 8, 20] :=
  ⟨rfl, fun i hi => by
    match i, hi with
    | 0, _ => simp [go_sem]
    | 1, _ => simp [go_sem]
    | 2, _ => simp [go_sem]
    | 3, _ => simp [go_sem]⟩

theorem four_in' (i : Nat) (hi : i < 4) : ∃ x : Nat, [(1 : Int), 3, 8, 20].getD i 0 = (x : Int) ∧ 1 ≤ x ∧ x ≤ 24 := by
  match i, hi with
  | 0, _ => exact ⟨1, rfl, by omega, by omega⟩
  | 1, _ => exact ⟨3, rfl, by omega, by omega⟩
  | 2, _ => exact ⟨8, rfl, by omega, by omega⟩
  | 3, _ => exact ⟨20, rfl, by omega, by omega⟩

/-- What was drawn: a signature, a list of numbers, a place, a second list. -/
structure ReplDr (w w' : World) (q : Option Addr) (n d0 g m d : Nat) (x : Int) (g2 m2 d2 : Nat) : Prop where
  few : m ≤ 25
  cap : m ≤ d
  row : ∃ L, Ints w' g 0 m L
  few2 : m2 ≤ 25
  cap2 : m2 ≤ d2
  row2 : ∃ L, Ints w' g2 0 m2 L
  at' : -1 ≤ x ∧ x ≤ 25
  sig : SigV w' (.slice q n d0)
  below : Below w.heap.size w w'

set_option maxRecDepth 20000 in
set_option maxHeartbeats 6400000 in
theorem drawRepl_any (p : Option Addr) (nn c : Nat) (l : List Int) (w : World) (h : Byt.Src w p nn l) :
    Calls Try.prog 7 #[.slice p nn c] w fun e w' => ∃ q n d0 g m d x g2 m2 d2, e = .returned (.tuple #[.agg #[.slice q n d0], .slice (some ⟨g, 0, none⟩) m d, .int .i64 x, .slice (some ⟨g2, 0, none⟩) m2 d2]) ∧ ReplDr w w' q n d0 g m d x g2 m2 d2 := by
  have R := hidden (Cel.new w (.slice none 0 0) 26)
  have H := hidden (show Byt.Src (w.alloc (.cells #[.slice none 0 0] 26)) p nn l from by
    obtain ⟨h1, h2, h3, h4⟩ := h
    refine ⟨h1, h2, h3, h4.imp id ?_⟩
    rintro ⟨b, off, e, hlt, hc⟩
    exact ⟨b, off, e, by simp; omega, fun i hi => keepCell (hc i hi) _⟩)
  clear h
  go_enter Try.func7, Try.ntmps7
  go_wp2_with fail
  with_reducible refine (l3One_any p nn c l _ H.out).mono ?_
  rintro e w1 ⟨s, q, n, d0, g, m, d, a, rfl, hA⟩
  have hfew := hA.few
  have hcap := hA.cap
  have hrd := hA.reads
  have hsrc := hA.src
  have hnew := hA.new
  have hap := hA.apart
  rw [World.size_alloc] at hsrc hnew
  have HQ := hidden (fun b e => (hA.old b e))
  obtain ⟨W, hW⟩ : ∃ W, W = w1.alloc (.cells #[.slice q n d0] 26) := ⟨_, rfl⟩
  have hWs : W.heap.size = w1.heap.size + 1 := by rw [hW]; simp
  have hs1 := hA.gen.blk
  have hw1 := hA.below.size
  rw [World.size_alloc] at hw1
  have G3 := hidden (show Byt.Gen W s p nn c a by rw [hW]; exact hA.gen.alloc _)
  have R3 := hidden (show Cel W w.heap.size (.slice none 0 0) by rw [hW]; exact (R.out.keep hA.below).keep (alloc_below _ _))
  have T3 := hidden (show Cel W w1.heap.size (.slice q n d0) by rw [hW]; exact Cel.new _ _ _)
  have O3 := hidden (show One W w1.heap.size (.slice q n d0) by rw [hW]; exact One.new _ _ _)
  have B0 := hidden (show Below (w.alloc (.cells #[.slice none 0 0] 26)).heap.size (w.alloc (.cells #[.slice none 0 0] 26)) W by rw [hW]; exact keepB hA.below (alloc_below _ _))
  have B3 := hidden (keepB (alloc_below w (.cells #[.slice none 0 0] 26)) B0.out)
  have S3 := hidden (show SigV W (.slice q n d0) by rw [hW]; exact hA.sig.keep (alloc_below _ _))
  have L3 := hidden (show ∃ L, Ints W g 0 m L by obtain ⟨L, hL⟩ := hA.row; exact ⟨L, by rw [hW]; exact hL.keep (alloc_below _ _)⟩)
  clear hA R
  have BW : Hid (∀ wc, W.grownBy wc (some s) → Below (w.alloc (.cells #[.slice none 0 0] 26)).heap.size (w.alloc (.cells #[.slice none 0 0] 26)) wc) := hidden (fun wc hk => B0.out.grown hk B0.out.size (fun k e => by cases e; simp; omega))
  have CW : Hid (∀ w', W.grownBy w' (some s) → w'.cell? ⟨w1.heap.size, 0, none⟩ = some (.slice q n d0) ∧ w'.cell? ⟨w.heap.size, 0, none⟩ = some (.slice none 0 0) ∧ w'.frozen? ⟨w.heap.size, 0, none⟩ = false) := hidden (fun w' hk => ⟨(T3.out.grown hk (by omega)).c0, (R3.out.grown hk (by omega)).c0, (R3.out.grown hk (by omega)).f0⟩)
  have F1 := hidden (show ∀ wc, W.grownBy wc (some s) → Byt.Gen wc s p nn c a → Calls Try.prog 29 #[.pointer (some ⟨s, 0, none⟩), .slice (some ⟨g, 0, none⟩) m d] wc fun e w' => ∃ x : Int, e = .returned (.int .i64 x) ∧ Hid ((-1 ≤ x ∧ x ≤ 25) ∧ W.grownBy w' (some s) ∧ wc.grownBy w' (some s) ∧ Byt.Gen w' s p nn c (a + 4)) ∧ w'.cell? ⟨w1.heap.size, 0, none⟩ = some (.slice q n d0) ∧ w'.cell? ⟨w.heap.size, 0, none⟩ = some (.slice none 0 0) ∧ w'.frozen? ⟨w.heap.size, 0, none⟩ = false from fun wc hk hg => by
    refine (l3At_any s p nn c a l (some ⟨g, 0, none⟩) m d _ wc hg H.out (BW.out wc hk) (by simp; omega) (by omega) hfew).mono ?_
    rintro e w' ⟨x, rfl, hx, hg', hgr⟩
    have hk' := grownBy_trans hk hgr
    exact ⟨x, rfl, hidden ⟨hx, hk', hgr, hg'⟩, CW.out w' hk'⟩)
  have F2 := hidden (show ∀ wc b, W.grownBy wc (some s) → Byt.Gen wc s p nn c (a + 4) → Byt.Nums wc b 4 [1, 3, 8, 20] → b ≠ s → Calls Try.prog 31 #[.pointer (some ⟨s, 0, none⟩), .slice (some ⟨b, 0, none⟩) 4 4] wc fun e w' => ∃ x : Nat, e = .returned (.int .i64 (x : Int)) ∧ Hid (1 ≤ x ∧ x ≤ 24 ∧ W.grownBy w' (some s) ∧ Byt.Gen w' s p nn c (a + 4 + 1)) ∧ w'.cell? ⟨w1.heap.size, 0, none⟩ = some (.slice q n d0) ∧ w'.cell? ⟨w.heap.size, 0, none⟩ = some (.slice none 0 0) ∧ w'.frozen? ⟨w.heap.size, 0, none⟩ = false from fun wc b hk hg hx hbs => by
    refine (Byt.l1Pick_any s p nn c (a + 4) l b 4 4 [1, 3, 8, 20] _ wc hg H.out (BW.out wc hk) (by simp; omega) (by omega) hx hbs (by omega) (by omega)).mono ?_
    rintro e w' ⟨i, hi, rfl, hg', hgr, -⟩
    obtain ⟨x, hx, hx1, hx2⟩ := four_in' i hi
    have hk' := grownBy_trans hk hgr
    exact ⟨x, by rw [hx], hidden ⟨hx1, hx2, hk', hg'⟩, CW.out w' hk'⟩)
  have F3 := hidden (show ∀ wc (most : Nat), 1 ≤ most → most ≤ 24 → W.grownBy wc (some s) → Byt.Gen wc s p nn c (a + 4 + 1) → Calls Try.prog 30 #[.pointer (some ⟨s, 0, none⟩), .pointer (some ⟨w1.heap.size, 0, none⟩), .int .i64 most, .int .i64 3] wc fun e w' => ∃ g2 m2 d2, e = .returned (.slice (some ⟨g2, 0, none⟩) m2 d2) ∧ Hid (m2 ≤ 25 ∧ m2 ≤ d2 ∧ W.grownBy w' (some s) ∧ W.heap.size ≤ g2 ∧ ∃ L, Ints w' g2 0 m2 L) ∧ w'.cell? ⟨w1.heap.size, 0, none⟩ = some (.slice q n d0) ∧ w'.cell? ⟨w.heap.size, 0, none⟩ = some (.slice none 0 0) ∧ w'.frozen? ⟨w.heap.size, 0, none⟩ = false from fun wc most hm1 hm24 hk hg => by
    refine (l3BentTerm_any s p nn c (a + 4 + 1) l _ wc hg H.out (BW.out wc hk) (by simp; omega) (by omega) w1.heap.size q n d0 (O3.out.grown hk (by omega)) (S3.out.grown hk (fun g' m' d' e => by cases e; exact (HQ.out _ rfl).2)) (by omega) (fun b hb => (HQ.out b hb).2) most 3 hm1 hm24 (by omega)).mono ?_
    rintro e w' ⟨g2, m2, d2, a', rfl, hm, hmd, ha', hd⟩
    have hk' := grownBy_trans hk hd.grw
    exact ⟨g2, m2, d2, rfl, hidden ⟨hm, hmd, hk', Nat.le_trans hk.size hd.hg, hd.row⟩, CW.out w' hk'⟩)
  have FIN := hidden (show ∀ (wb : World) (x : Int) (g2 m2 d2 : Nat) (u : Value), (-1 ≤ x ∧ x ≤ 25) → (m2 ≤ 25 ∧ m2 ≤ d2 ∧ W.grownBy wb (some s) ∧ W.heap.size ≤ g2 ∧ ∃ L, Ints wb g2 0 m2 L) → ReplDr w (wb.setCell ⟨w.heap.size, 0, none⟩ u) q n d0 g m d x g2 m2 d2 from fun wb x g2 m2 d2 u hx h => by
    obtain ⟨hm, hmd, hk, hgl, L, hL⟩ := h
    obtain ⟨L1, hL1⟩ := L3.out
    exact ⟨hfew, hcap, ⟨L1, (hL1.grown hk hap).set (by omega)⟩, hm, hmd, ⟨L, hL.set (by omega)⟩, hx, (S3.out.grown hk (fun g' m' d' e => by cases e; exact (HQ.out _ rfl).2)).grown (s := w.heap.size) (Byt.setCell_grown _ _ _ _) (fun g' m' d' e => by cases e; have := (HQ.out _ rfl).1; simp at this; omega), (keepB (alloc_below w _) (BW.out wb hk)).setCell (by simp) _⟩)
  have t0 := T3.out.c0
  have r0 := R3.out.c0
  have r1 := R3.out.f0
  have Ba := hidden (alloc_below W (.cells #[.int .i64 1, .int .i64 3, .int .i64 8, .int .i64 20] 2))
  have ta := (T3.out.keep Ba.out).c0
  have ra := (R3.out.keep Ba.out).c0
  have K0 := hidden (show W.grownBy W.drew (some s) from ⟨rfl, rfl, rfl, Nat.le_refl _, fun _ _ _ => rfl⟩)
  have Gz := hidden (show Byt.Gen W.drew s p nn c a from G3.out.grown (show W.grownBy W.drew (some (s + 1)) from ⟨rfl, rfl, rfl, Nat.le_refl _, fun _ _ _ => rfl⟩) (by omega))
  have Ka := hidden (show W.grownBy (W.alloc (.cells #[.int .i64 1, .int .i64 3, .int .i64 8, .int .i64 20] 2)).drew (some s) from grownBy_trans (by_row Ba.out (some s)) ⟨rfl, rfl, rfl, Nat.le_refl _, fun _ _ _ => rfl⟩)
  have Ga := hidden (show Byt.Gen (W.alloc (.cells #[.int .i64 1, .int .i64 3, .int .i64 8, .int .i64 20] 2)).drew s p nn c a from (G3.out.grown (by_row Ba.out (some (s + 1))) (by omega)).grown (show World.grownBy _ (W.alloc (.cells #[.int .i64 1, .int .i64 3, .int .i64 8, .int .i64 20] 2)).drew (some (s + 1)) from ⟨rfl, rfl, rfl, Nat.le_refl _, fun _ _ _ => rfl⟩) (by omega))
  have N4a := hidden (show Byt.Nums (W.alloc (.cells #[.int .i64 1, .int .i64 3, .int .i64 8, .int .i64 20] 2)).drew W.heap.size 4 [1, 3, 8, 20] from ⟨rfl, (nums_four' W 2).cell⟩)
  have HWS := hidden (show s < W.heap.size by omega)
  go_wp2_with fail
  rw [← hW]
  clear hW hWs
  go_region_with (first
    | (go_at_call 29; with_reducible refine (F1.out _ K0.out Gz.out).mono ?_; rintro e v5 ⟨x, rfl, HX, t5, r5, f5⟩; have t5a := keepCell t5 (.cells #[.int .i64 1, .int .i64 3, .int .i64 8, .int .i64 20] 2); have r5a := keepCell r5 (.cells #[.int .i64 1, .int .i64 3, .int .i64 8, .int .i64 20] 2))
    | (go_at_call 29; with_reducible refine (F1.out _ Ka.out Ga.out).mono ?_; rintro e v5 ⟨x, rfl, HX, t5, r5, f5⟩; have N4 := hidden (Nums.grown N4a.out HX.out.2.2.1 (by have := HWS.out; omega)))
    | (go_at_call 31; with_reducible refine (F2.out _ _ (grownBy_trans HX.out.2.1 (World.grownBy_alloc _ _ (some s))) (HX.out.2.2.2.alloc _) (nums_four' v5 2) (by have := HX.out.2.2.2.blk; omega)).mono ?_; rintro e v6 ⟨y, rfl, HY, t6, r6, f6⟩)
    | (go_at_call 31; with_reducible refine (F2.out _ _ HX.out.2.1 HX.out.2.2.2 N4.out (by have := HWS.out; omega)).mono ?_; rintro e v6 ⟨y, rfl, HY, t6, r6, f6⟩)
    | (go_at_call 30; with_reducible refine (F3.out _ y HY.out.1 HY.out.2.1 HY.out.2.2.1 HY.out.2.2.2).mono ?_; rintro e v7 ⟨g2, m2, d2, rfl, HZ, t7, r7, f7⟩))
  all_goals go_wp2
  all_goals (
    refine bodyPost_ret (v := .tuple #[.agg #[.slice q n d0], .slice (some ⟨g, 0, none⟩) m d, .int .i64 x, .slice (some ⟨g2, 0, none⟩) m2 d2]) (by simp [results, Try.results7, go_sem, r7]) rfl ?_
    exact ⟨q, n, d0, g, m, d, x, g2, m2, d2, rfl, FIN.out v7 x g2 m2 d2 _ HX.out.1 HZ.out⟩)

end Go.Proofs.Ytjjpkhlbokfjpaa
