/- Contracts: a signature, a precedence and a number are drawn. -/
import Derived.Test.YthgoclbgepfjmaaOrdBent
namespace Go.Proofs.Ythgoclbgepfjmaa
open Go.RowKit

/-- A signature that was drawn. -/
def SigV (w : World) (v : Value) : Prop := v = .slice none 0 0 ∨ ∃ g m d N A, v = .slice (some ⟨g, 0, none⟩) m d ∧ m ≤ 7 ∧ Kept m N A ∧ Syms w g 0 m N A

theorem SigV.grown {w w' : World} {v : Value} {s : Nat} (h : SigV w v) (hg : w.grownBy w' (some s)) (hs : ∀ g m d, v = .slice (some ⟨g, 0, none⟩) m d → g ≠ s) : SigV w' v := by
  rcases h with h | ⟨g, m, d, N, A, rfl, hm, hk, hS⟩
  · exact Or.inl h
  · have hne := hs g m d rfl
    refine Or.inr ⟨g, m, d, N, A, rfl, hm, hk, ⟨fun h0 => Nat.lt_of_lt_of_le (hS.blk h0) hg.size, fun i hi => hg.cell (hS.name i hi) (by simpa using hne), fun i hi => hg.cell (hS.arity i hi) (by simpa using hne), hS.big, hS.fits⟩⟩

theorem SigV.keep {w w' : World} {v : Value} (h : SigV w v) (hb : Below w.heap.size w w') : SigV w' v := by
  rcases h with h | ⟨g, m, d, N, A, rfl, hm, hk, hS⟩
  · exact Or.inl h
  · exact Or.inr ⟨g, m, d, N, A, rfl, hm, hk, hS.keep hb⟩

theorem nums_six (W : World) (t : TypeId) : Byt.Nums (W.alloc (.cells #[.int .i64 0, .int .i64 1, .int .i64 2, .int .i64 3, .int .i64 6, .int .i64 (-1)] t)) W.heap.size 6 [0, 1, 2, 3, 6, -1] :=
  ⟨rfl, fun i hi => by
    match i, hi with
    | 0, _ => simp [go_sem]
    | 1, _ => simp [go_sem]
    | 2, _ => simp [go_sem]
    | 3, _ => simp [go_sem]
    | 4, _ => simp [go_sem]
    | 5, _ => simp [go_sem]⟩

/-- The length that a signature's value tells. -/
def lenV : Value → Nat
  | .slice _ n _ => n
  | _ => 0

set_option maxRecDepth 20000 in
set_option maxHeartbeats 6400000 in
theorem drawRank_any (p : Option Addr) (nn c : Nat) (l : List Int) (w : World) (h : Byt.Src w p nn l) :
    Calls Try.prog 59 #[.slice p nn c] w fun e w' => ∃ q n d0 g off m d x, e = .returned (.tuple #[.agg #[.slice q n d0], .slice (some ⟨g, off, none⟩) m d, .int .i64 x]) ∧ m ≤ 7 ∧ (∃ L, Ints w' g off m L) ∧ SigV w' (.slice q n d0) ∧ w.heap.size ≤ g ∧ (∀ b, q = some b → w.heap.size ≤ b.block) ∧ Below w.heap.size w w' := by
  have H := hidden h
  have R1 := hidden (Cel.new w (.slice none 0 0) 26)
  clear h
  go_enter Try.func59, Try.ntmps59
  go_wp2_with fail
  with_reducible refine (Byt.l1Source_any p nn c _).mono ?_
  rintro e w1 ⟨s, rfl, hs, hg, hb⟩
  rw [World.size_alloc] at hs
  have B1 := hidden (keepB (alloc_below w (.cells #[.slice none 0 0] 26)) hb)
  replace R1 := hidden (R1.out.keep hb)
  have G1 := hidden hg
  clear hb hg
  go_wp2_with fail
  with_reducible refine (l2Bent_any s p nn c l w w1 G1.out H.out B1.out (by omega)).mono ?_
  rintro e w2 ⟨⟨a, ha, hg⟩, hgr, hv⟩
  have G2 := hidden hg
  have R2 := hidden (R1.out.grown hgr (by omega))
  have B2 := hidden (B1.out.grown hgr B1.out.size (fun k hk => by cases hk; omega))
  have K2 := hidden hgr
  have hs1 := G1.out.blk
  obtain ⟨vs, rfl, hsv⟩ : ∃ vs, e = .returned (.agg #[vs]) ∧ SigV w2 vs ∧ ∃ q n d, vs = .slice q n d ∧ n ≤ 7 ∧ (∀ b, q = some b → b.block ≠ s ∧ w.heap.size < b.block) := by
    rcases hv with rfl | ⟨g, m, d, N, A, rfl, hgl, hm, hk, ho⟩
    · exact ⟨_, rfl, Or.inl rfl, none, 0, 0, rfl, by omega, fun b hb => by cases hb⟩
    · exact ⟨_, rfl, Or.inr ⟨g, m, d, N, A, rfl, hm, hk, ho.syms hk.big hk.fits⟩, some ⟨g, 0, none⟩, m, d, rfl, hm, fun b hb => by cases hb; exact ⟨by show g ≠ s; omega, by show w.heap.size < g; omega⟩⟩
  obtain ⟨hsv, q, n, d0, rfl, hn7, hqs⟩ := hsv
  have SV := hidden hsv
  have HQ := hidden hqs
  clear hv hg hgr hsv hqs R1 G1 B1
  obtain ⟨W, hW⟩ : ∃ W, W = w2.alloc (.cells #[.slice q n d0] 26) := ⟨_, rfl⟩
  have hWs : W.heap.size = w2.heap.size + 1 := by rw [hW]; simp
  have G3 := hidden (show Byt.Gen W s p nn c a by rw [hW]; exact G2.out.alloc _)
  have R3 := hidden (show Cel W w.heap.size (.slice none 0 0) by rw [hW]; exact R2.out.keep (alloc_below _ _))
  have T3 := hidden (show Cel W w2.heap.size (.slice q n d0) by rw [hW]; exact Cel.new _ _ _)
  have B3 := hidden (show Below w.heap.size w W by rw [hW]; exact keepB B2.out (alloc_below _ _))
  have S3 := hidden (show SigV W (.slice q n d0) by rw [hW]; exact SV.out.keep (alloc_below _ _))
  have hs2 := G2.out.blk
  have hw2 := B2.out.size
  have BW : Hid (∀ wc, W.grownBy wc (some s) → Below w.heap.size w wc) := hidden (fun wc hk => B3.out.grown hk B3.out.size (fun k e => by cases e; omega))
  have F1 := hidden (show ∀ wc, W.grownBy wc (some s) → Byt.Gen wc s p nn c a → Calls Try.prog 87 #[.pointer (some ⟨s, 0, none⟩), .agg #[.slice q n d0]] wc fun e w' => ∃ g off m d a', e = .returned (.slice (some ⟨g, off, none⟩) m d) ∧ m ≤ 7 ∧ Hid (a' ≤ 2000 ∧ Byt.Gen w' s p nn c a' ∧ W.grownBy w' (some s) ∧ wc.grownBy w' (some s) ∧ wc.heap.size ≤ g ∧ ∃ L, Ints w' g off m L) ∧ w'.cell? ⟨w2.heap.size, 0, none⟩ = some (.slice q n d0) ∧ w'.cell? ⟨w.heap.size, 0, none⟩ = some (.slice none 0 0) ∧ w'.frozen? ⟨w.heap.size, 0, none⟩ = false from fun wc hk hg => by
    refine (l2BentOrder_any s p nn c a l w wc hg H.out (BW.out wc hk) (by omega) (by omega) q n d0 hn7).mono ?_
    rintro e w' ⟨g, off, m, d, a', rfl, hm, ha', hd⟩
    have hk' := grownBy_trans hk hd.grw
    have hT := T3.out.grown hk' (by omega)
    have hR := R3.out.grown hk' (by omega)
    exact ⟨g, off, m, d, a', rfl, hm, hidden ⟨by omega, hd.gen, hk', hd.grw, hd.hg, hd.row⟩, hT.c0, hR.c0, hR.f0⟩)
  have F2 := hidden (show ∀ wc b a', a' ≤ 2000 → W.grownBy wc (some s) → Byt.Gen wc s p nn c a' → Byt.Nums wc b 6 [0, 1, 2, 3, 6, -1] → b ≠ s → Calls Try.prog 48 #[.pointer (some ⟨s, 0, none⟩), .slice (some ⟨b, 0, none⟩) 6 6] wc fun e w' => ∃ x, e = .returned (.int .i64 x) ∧ Hid (W.grownBy w' (some s) ∧ wc.grownBy w' (some s)) ∧ w'.cell? ⟨w2.heap.size, 0, none⟩ = some (.slice q n d0) ∧ w'.cell? ⟨w.heap.size, 0, none⟩ = some (.slice none 0 0) ∧ w'.frozen? ⟨w.heap.size, 0, none⟩ = false from fun wc b a' ha' hk hg hx hbs => by
    refine (Byt.l1Pick_any s p nn c a' l b 6 6 [0, 1, 2, 3, 6, -1] w wc hg H.out (BW.out wc hk) (by omega) (by omega) hx hbs (by omega) (by omega)).mono ?_
    rintro e w' ⟨i, hi, rfl, hg', hgr, -⟩
    have hk' := grownBy_trans hk hgr
    have hT := T3.out.grown hk' (by omega)
    have hR := R3.out.grown hk' (by omega)
    exact ⟨_, rfl, hidden ⟨hk', hgr⟩, hT.c0, hR.c0, hR.f0⟩)
  have FIN := hidden (show ∀ (wa wb : World) (g off m d : Nat) (x : Int) (u : Value), m ≤ 7 → W.grownBy wa (some s) → W.heap.size ≤ g → (∃ L, Ints wa g off m L) → wa.grownBy wb (some s) → ∃ q' n' d0' g' off' m' d' x', Ending.returned (.tuple #[.agg #[.slice q n d0], .slice (some ⟨g, off, none⟩) m d, .int .i64 x]) = Ending.returned (.tuple #[.agg #[.slice q' n' d0'], .slice (some ⟨g', off', none⟩) m' d', .int .i64 x']) ∧ m' ≤ 7 ∧ (∃ L, Ints (wb.setCell ⟨w.heap.size, 0, none⟩ u) g' off' m' L) ∧ SigV (wb.setCell ⟨w.heap.size, 0, none⟩ u) (.slice q' n' d0') ∧ w.heap.size ≤ g' ∧ (∀ b, q' = some b → w.heap.size ≤ b.block) ∧ Below w.heap.size w (wb.setCell ⟨w.heap.size, 0, none⟩ u) from fun wa wb g off m d x u hm hk hg hL hab => by
    obtain ⟨L, hL⟩ := hL
    have hk' := grownBy_trans hk hab
    refine ⟨q, n, d0, g, off, m, d, x, rfl, hm, ⟨L, ⟨fun h0 => by have := hL.blk h0; have := hab.size; simp; omega, fun i hi => ?_⟩⟩, ?_, by omega, fun b hb => Nat.le_of_lt (HQ.out b hb).2, (BW.out wb hk').setCell (by simp) _⟩
    · rw [World.cell?_setCell_other _ _ _ _ (by simp; try omega)]
      exact hab.cell (hL.cell i hi) (by simp; omega)
    · refine (S3.out.grown hk' (fun g' m' d' e => by cases e; exact (HQ.out _ rfl).1)).grown (s := w.heap.size) (Byt.setCell_grown _ _ _ _) (fun g' m' d' e => by cases e; exact Nat.ne_of_gt (HQ.out _ rfl).2))
  have t0 := T3.out.c0
  have r0 := R3.out.c0
  have r1 := R3.out.f0
  have KD := hidden (show W.grownBy W.drew (some s) from ⟨rfl, rfl, rfl, Nat.le_refl _, fun _ _ _ => rfl⟩)
  have GD := hidden (G3.out.grown (show W.grownBy W.drew (some w2.heap.size) from ⟨rfl, rfl, rfl, Nat.le_refl _, fun _ _ _ => rfl⟩) (by omega))
  have KA := hidden (show W.grownBy (W.alloc (.cells #[.int .i64 0, .int .i64 1, .int .i64 2, .int .i64 3, .int .i64 6, .int .i64 (-1)] 2)).drew (some s) from grownBy_trans (World.grownBy_alloc W (.cells #[.int .i64 0, .int .i64 1, .int .i64 2, .int .i64 3, .int .i64 6, .int .i64 (-1)] 2) (some s)) ⟨rfl, rfl, rfl, Nat.le_refl _, fun _ _ _ => rfl⟩)
  have GA := hidden ((G3.out.alloc (.cells #[.int .i64 0, .int .i64 1, .int .i64 2, .int .i64 3, .int .i64 6, .int .i64 (-1)] 2)).grown (show (W.alloc (.cells #[.int .i64 0, .int .i64 1, .int .i64 2, .int .i64 3, .int .i64 6, .int .i64 (-1)] 2)).grownBy (W.alloc (.cells #[.int .i64 0, .int .i64 1, .int .i64 2, .int .i64 3, .int .i64 6, .int .i64 (-1)] 2)).drew (some w2.heap.size) from ⟨rfl, rfl, rfl, Nat.le_refl _, fun _ _ _ => rfl⟩) (by omega))
  have NA := hidden (show Byt.Nums (W.alloc (.cells #[.int .i64 0, .int .i64 1, .int .i64 2, .int .i64 3, .int .i64 6, .int .i64 (-1)] 2)).drew W.heap.size 6 [0, 1, 2, 3, 6, -1] from ⟨rfl, (nums_six W 2).cell⟩)
  have HWS := hidden hWs
  have tA := (T3.out.keep (alloc_below W (.cells #[.int .i64 0, .int .i64 1, .int .i64 2, .int .i64 3, .int .i64 6, .int .i64 (-1)] 2))).c0
  have rA := (R3.out.keep (alloc_below W (.cells #[.int .i64 0, .int .i64 1, .int .i64 2, .int .i64 3, .int .i64 6, .int .i64 (-1)] 2))).c0
  have fA := (R3.out.keep (alloc_below W (.cells #[.int .i64 0, .int .i64 1, .int .i64 2, .int .i64 3, .int .i64 6, .int .i64 (-1)] 2))).f0
  clear K2 B2 R2 G2 SV
  go_wp2_with fail
  rw [← hW]
  clear hW hWs
  go_region_with (first
    | (go_at_call 87; with_reducible refine (F1.out _ KD.out GD.out).mono ?_; rintro e v5 ⟨g, off, m, d, a', rfl, hm, HX, t5, r5, f5⟩; have t5a := keepCell t5 (.cells #[.int .i64 0, .int .i64 1, .int .i64 2, .int .i64 3, .int .i64 6, .int .i64 (-1)] 2); have r5a := keepCell r5 (.cells #[.int .i64 0, .int .i64 1, .int .i64 2, .int .i64 3, .int .i64 6, .int .i64 (-1)] 2); have f5a : (v5.alloc (.cells #[.int .i64 0, .int .i64 1, .int .i64 2, .int .i64 3, .int .i64 6, .int .i64 (-1)] 2)).frozen? ⟨w.heap.size, 0, none⟩ = false := ((alloc_below v5 _).frozen (p := ⟨w.heap.size, 0, none⟩) (World.block_lt_of_cell? v5 _ r5)).trans f5)
    | (go_at_call 87; with_reducible refine (F1.out _ KA.out GA.out).mono ?_; rintro e v5 ⟨g, off, m, d, a', rfl, hm, HX, t5, r5, f5⟩; have t5a := keepCell t5 (.cells #[.int .i64 0, .int .i64 1, .int .i64 2, .int .i64 3, .int .i64 6, .int .i64 (-1)] 2); have r5a := keepCell r5 (.cells #[.int .i64 0, .int .i64 1, .int .i64 2, .int .i64 3, .int .i64 6, .int .i64 (-1)] 2); have f5a : (v5.alloc (.cells #[.int .i64 0, .int .i64 1, .int .i64 2, .int .i64 3, .int .i64 6, .int .i64 (-1)] 2)).frozen? ⟨w.heap.size, 0, none⟩ = false := ((alloc_below v5 _).frozen (p := ⟨w.heap.size, 0, none⟩) (World.block_lt_of_cell? v5 _ r5)).trans f5)
    | (go_at_call 48; with_reducible refine (F2.out _ _ a' HX.out.1 HX.out.2.2.1 HX.out.2.1 (Nums.grown NA.out HX.out.2.2.2.1 (by have := HWS.out; omega)) (by have := HWS.out; omega)).mono ?_; rintro e v6 ⟨x, rfl, HY, t6, r6, f6⟩; have HZ := hidden (And.intro HX.out.2.2.1 HY.out.2))
    | (go_at_call 48; with_reducible refine (F2.out _ _ a' HX.out.1 (grownBy_trans HX.out.2.2.1 (World.grownBy_alloc _ _ (some s))) (HX.out.2.1.alloc _) (nums_six v5 2) (by have := HX.out.2.1.blk; omega)).mono ?_; rintro e v6 ⟨x, rfl, HY, t6, r6, f6⟩; have HZ := hidden (And.intro HX.out.2.2.1 (grownBy_trans (World.grownBy_alloc _ _ (some s)) HY.out.2))))
  all_goals go_wp2
  all_goals (
    have h8 : W.heap.size ≤ g := by
      have h9 := HX.out.2.2.2.2.1
      first | exact h9 | exact Nat.le_trans (Nat.le_of_lt (by show W.heap.size < (World.alloc W _).heap.size; simp)) h9
    refine bodyPost_ret (v := .tuple #[.agg #[.slice q n d0], .slice (some ⟨g, off, none⟩) m d, .int .i64 x]) (by simp [results, Try.results59, go_sem, r6]) rfl ?_
    exact FIN.out v5 v6 g off m d x _ hm HZ.out.1 h8 HX.out.2.2.2.2.2 HZ.out.2)

set_option maxRecDepth 20000 in
set_option maxHeartbeats 800000 in
theorem drawRaise_any (p : Option Addr) (nn c : Nat) (l : List Int) (w : World) (h : Byt.Src w p nn l) :
    Calls Try.prog 20 #[.slice p nn c] w fun e w' => ∃ q n d0 g off m d x, e = .returned (.tuple #[.agg #[.slice q n d0], .slice (some ⟨g, off, none⟩) m d, .int .i64 x]) ∧ m ≤ 7 ∧ (∃ L, Ints w' g off m L) ∧ SigV w' (.slice q n d0) ∧ w.heap.size ≤ g ∧ (∀ b, q = some b → w.heap.size ≤ b.block) ∧ Below w.heap.size w w' := by
  have R := hidden (Cel.new w (.slice none 0 0) 26)
  have H := hidden (show Byt.Src (w.alloc (.cells #[.slice none 0 0] 26)) p nn l from by
    obtain ⟨h1, h2, h3, h4⟩ := h
    refine ⟨h1, h2, h3, h4.imp id ?_⟩
    rintro ⟨b, off, e, hlt, hc⟩
    exact ⟨b, off, e, by simp; omega, fun i hi => keepCell (hc i hi) _⟩)
  clear h
  go_enter Try.func20, Try.ntmps20
  go_wp2_with fail
  with_reducible refine (drawRank_any p nn c l _ H.out).mono ?_
  rintro e w1 ⟨q, n, d0, g, off, m, d, x, rfl, hm, ⟨L, hL⟩, hsv, hgl, hql, hb⟩
  rw [World.size_alloc] at hgl
  have HQL := hidden hql
  clear hql
  have RC := R.out.keep hb
  have r0 := RC.c0
  have r1 := RC.f0
  have hrb := R.out.blk
  have HI := hidden hL
  have HV := hidden hsv
  have HB := hidden hb
  clear hL hsv hb RC R H
  go_wp2
  refine bodyPost_ret (v := .tuple #[.agg #[.slice q n d0], .slice (some ⟨g, off, none⟩) m d, .int .i64 x]) (by simp [results, Try.results20, go_sem, r0]) rfl ?_
  refine ⟨q, n, d0, g, off, m, d, x, rfl, hm, ⟨L, ⟨fun h0 => by have := HI.out.blk h0; simp; omega, fun i hi => ?_⟩⟩, HV.out.grown (s := w.heap.size) (Byt.setCell_grown _ _ _ _) (fun g' m' d' e => by cases e; have := HQL.out _ rfl; simp at this; show g' ≠ w.heap.size; omega), by omega, fun b hb => by have := HQL.out b hb; simp at this; omega, (keepB (alloc_below w _) HB.out).setCell (by simp) _⟩
  rw [World.cell?_setCell_other _ _ _ _ (by simp; try omega)]
  exact HI.out.cell i hi

end Go.Proofs.Ythgoclbgepfjmaa
