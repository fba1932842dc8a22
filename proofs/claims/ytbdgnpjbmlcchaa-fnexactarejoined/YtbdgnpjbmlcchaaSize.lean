/- Contract: how many nodes the term at a place has, as the program tells it. -/
import Derived.Test.YtbdgnpjbmlcchaaOne
import Derived.Sort.CutIn
namespace Go.Proofs.Ytbdgnpjbmlcchaa
open Go.RowKit Go.Shelf

attribute [local go_sem] Oper.semAt_some

set_option maxRecDepth 100000 in
set_option maxHeartbeats 4000000 in
theorem sizeThere_any (b off n c b' off' m c' q : Nat) (N : Nat → ByteArray) (A T : Nat → Int) (w : World) (h : Syms w b off n N A) (h' : Ints w b' off' m T) (hg : Nods n A m T) (hn : 0 < n) (hq : q < m) (hc : m ≤ c') :
    Calls Try.prog 86 #[.agg #[.slice (some ⟨b, off, none⟩) n c], .slice (some ⟨b', off', none⟩) m c', .int .i64 q] w fun e w' => e = .returned (.int .i64 (manyN (aOf A T) m q)) ∧ Below w.heap.size w w' := by
  refine (callsIn_wide (n := 3)).1 ?_
  refine callsIn_of_wp_marks Try.func86 rfl trivial ?_ rfl
  simp only [Try.ntmps86, List.size_toArray, List.length_cons, List.length_nil, Nat.reduceAdd, Nat.reduceSub, Array.replicate_succ, Array.replicate_zero, List.push_toArray, List.append_toArray, List.nil_append, List.cons_append]
  have hb := h.blk hn
  have hb' := h'.blk (by omega)
  have hm24 := hg.most
  have HS := hidden h
  have HT := hidden h'
  have HG := hidden hg
  have hcq : ¬ c' = q := by omega
  have hqm : q ≤ m := by omega
  have hmx : Try.prog.follows .mixedOrders = true := by kernel_rfl
  clear h h' hg
  gi_wp2
  gi_cut [12] from 18 (fun t wc => t = .func (.func 98) #[] #[.pointer (some ⟨w.heap.size + 1 + 1 + 1, 0, none⟩), .pointer (some ⟨w.heap.size + 1 + 1, 0, none⟩)] ∧ wc = ((((w.alloc (.cells #[.slice (some ⟨b, off, none⟩) n c] 34)).alloc (.cells #[.int .i64 0] 2)).alloc (.cells #[.slice (some ⟨b, off, none⟩) n c] 34)).alloc (.cells #[.slice (some ⟨b', off' + q, none⟩) (m - q) (c' - q)] 26)).drew)
  case first =>
    first | gi_region_with_o (refine ⟨trivial, ?_⟩; gi_at_call 84; refine (callsIn_wide.2 (placesOf_any _ _ _ _ _ _ _)).mono ?_; rintro e w' ⟨rfl, rfl⟩) | fail
    all_goals gi_wp2
    all_goals gi_meet
    all_goals exact ⟨rfl, rfl⟩
  case rest =>
    obtain ⟨rfl, rfl⟩ := hcut
    gi_wp2
    have b0 := Boxed.new w 34 (.slice (some ⟨b, off, none⟩) n c)
    have b1 := Boxed.new (w.alloc (.cells #[.slice (some ⟨b, off, none⟩) n c] 34)) 2 (.int .i64 0)
    have b3 := Boxed.new ((w.alloc (.cells #[.slice (some ⟨b, off, none⟩) n c] 34)).alloc (.cells #[.int .i64 0] 2)) 34 (.slice (some ⟨b, off, none⟩) n c)
    have b4 := Boxed.new (((w.alloc (.cells #[.slice (some ⟨b, off, none⟩) n c] 34)).alloc (.cells #[.int .i64 0] 2)).alloc (.cells #[.slice (some ⟨b, off, none⟩) n c] 34)) 26 (.slice (some ⟨b', off' + q, none⟩) (m - q) (c' - q))
    simp only [World.size_alloc] at b1 b3 b4
    have hB0 : Below w.heap.size w ((((w.alloc (.cells #[.slice (some ⟨b, off, none⟩) n c] 34)).alloc (.cells #[.int .i64 0] 2)).alloc (.cells #[.slice (some ⟨b, off, none⟩) n c] 34)).alloc (.cells #[.slice (some ⟨b', off' + q, none⟩) (m - q) (c' - q)] 26)).drew :=
      (((((Below.refl _ w).alloc (Nat.le_refl _) _).alloc (by simp) _).alloc (by simp; omega) _).alloc (by simp; omega) _).drew
    have hB1 : Below w.heap.size w ((((w.alloc (.cells #[.slice (some ⟨b, off, none⟩) n c] 34)).alloc (.cells #[.int .i64 0] 2)).alloc (.cells #[.slice (some ⟨b, off, none⟩) n c] 34)).alloc (.cells #[.slice (some ⟨b', off' + q, none⟩) (m - q) (c' - q)] 26)) :=
      ((((Below.refl _ w).alloc (Nat.le_refl _) _).alloc (by simp) _).alloc (by simp; omega) _).alloc (by simp; omega) _
    refine wpIn_rangeFunc_ownG rfl (by omega) (gf := 98) (lb := #[.pointer (some ⟨w.heap.size + 1 + 1 + 1, 0, none⟩), .pointer (some ⟨w.heap.size + 1 + 1, 0, none⟩)]) rfl trivial (enters_of Try.func98 (by kernel_rfl) rfl)
      (places_stops _ (by omega) (w.heap.size + 1 + 1 + 1) (w.heap.size + 1 + 1) (w.heap.size + 1) (w.heap.size + 1 + 1 + 1) b off n c b' (off' + q) (m - q) (c' - q) q m N A T HG.out (by omega) ⟨by omega, by omega⟩ ⟨by omega, by omega⟩ ⟨by omega, by omega⟩ _ (by show _ < (World.alloc _ _).heap.size; simp) (by show _ ≤ (World.alloc _ _).heap.size; simp) b4.cell (b3.alloc _).cell (HS.out.keep hB1) (fun j hj => by have := (HT.out.keep hB1).cell (q + j) (by omega); rw [Nat.add_assoc]; exact this))
      butK_t (butK_b (by show _ ≤ (World.alloc _ _).heap.size; simp)) ((Below.refl _ _).drew) (fun _ => rfl)
      (fun pre W => (W.cell? ⟨w.heap.size + 1, 0, none⟩ = some (.int .i64 (pre.length : Int)) ∧ W.frozen? ⟨w.heap.size + 1, 0, none⟩ = false) ∧ Below w.heap.size w W)
      (fun _ _ _ => False)
      (OwnFrom.and (Own.from (fun s A B row hs hg hr => ⟨cell_kept hs.1 hg hr, (frozen_kept hs.1 hg hr).trans hs.2⟩) _) (ownFrom_below (Nat.le_refl _) (by show _ ≤ (World.alloc _ _).heap.size; simp; omega)))
      (fun _ _ _ _ _ hs _ _ => hs)
      ⟨⟨((b1.alloc _).alloc _).cell, ((b1.alloc _).alloc _).frozen⟩, hB0⟩
      (fun x => { tmps := #[.agg #[.slice (some ⟨b, off, none⟩) n c], .slice (some ⟨b', off', none⟩) m c', .int .i64 q, .pointer (some ⟨w.heap.size, 0, none⟩), undef, undef, .int .i64 0, .pointer (some ⟨w.heap.size + 1, 0, none⟩), u8, u9, u10, u11, .func (.func 98) #[] #[.pointer (some ⟨w.heap.size + 1 + 1 + 1, 0, none⟩), .pointer (some ⟨w.heap.size + 1 + 1, 0, none⟩)], .int .i64 (x.1 : Int), .int .i64 x.2, undef, undef, undef], defers := [] }) ?_ ?_ ?_ ?_
    · intro l x W K hK
      gi_wp2
      simpa using hK
    · rintro l pre x W ⟨⟨hc1, hf⟩, hB⟩ hl
      gi_wp2
      exact ⟨(KeepsOthers.setCell _ _ _).from _, But.set _ _ _ _, ⟨by rw [List.length_append]; exact World.cell?_setCell_same' _ _ _ (by rw [hc1]; rfl), by rw [World.frozen?_setCell]; exact hf⟩, hB.setCell (p := ⟨w.heap.size + 1, 0, none⟩) (by simp) _⟩
    · rintro D ys W hD ⟨k, hk, hpos, hend, rfl⟩ ⟨⟨hc1, _⟩, hB⟩ hK
      have hR : manyN (aOf A T) m q = k := by
        by_cases hz : awt (aOf A T) q k = 0
        · exact (manyN_at (by omega) hpos hz).2
        · have h2 := (awt_skip (aOf A T) (m := m) (p := q) k (by omega) hpos).1
          exact (manyN_over (by omega) hpos (by omega)).2
      rw [upto_length] at hc1
      have HR := hidden hR
      clear hR hpos hend
      gi_wp2
      refine ⟨by simp, .inl ⟨_, _, rfl, run_takeDeferred hK, ?_⟩⟩
      exact ⟨_, results_tmp rfl _ _ _, by rw [HR.out]; rfl, hB.trans (belowK_b (w := w) (Nat.le_refl _) W D _ _ (by have h9 : (World.alloc _ _).heap.size ≤ D := hD; simp at h9; omega) hK rfl rfl)⟩
    · rintro D c pre W _ _ h _
      exact h.elim

end Go.Proofs.Ytbdgnpjbmlcchaa
