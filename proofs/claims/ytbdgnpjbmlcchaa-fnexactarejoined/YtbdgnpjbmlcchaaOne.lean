/- Contracts: whether nodes are one term, and how many nodes the term at a place has, as the program tells it. -/
import Derived.Test.YtbdgnpjbmlcchaaPlaces
namespace Go.Proofs.Ytbdgnpjbmlcchaa
open Go.RowKit Go.Shelf

attribute [local go_sem] Oper.semAt_some

/-- Whether m nodes are one term. -/
def oneB (a : Nat → Nat) (m : Nat) : Bool := decide (skip a m 0 1 = some m)

set_option maxRecDepth 100000 in
set_option maxHeartbeats 4000000 in
theorem isOneTerm_any (b off n c b' off' m c' : Nat) (N : Nat → ByteArray) (A T : Nat → Int) (w : World) (h : Syms w b off n N A) (h' : Ints w b' off' m T) (hg : Nods n A m T) (hn : 0 < n) (hm : 0 < m) :
    Calls Try.prog 61 #[.agg #[.slice (some ⟨b, off, none⟩) n c], .slice (some ⟨b', off', none⟩) m c'] w fun e w' => e = .returned (.bool (oneB (aOf A T) m)) ∧ Below w.heap.size w w' := by
  refine (callsIn_wide (n := 3)).1 ?_
  refine callsIn_of_wp_marks Try.func61 rfl trivial ?_ rfl
  simp only [Try.ntmps61, List.size_toArray, List.length_cons, List.length_nil, Nat.reduceAdd, Nat.reduceSub, Array.replicate_succ, Array.replicate_zero, List.push_toArray, List.append_toArray, List.nil_append, List.cons_append]
  have hb := h.blk hn
  have hb' := h'.blk hm
  have hm24 := hg.most
  have HS := hidden h
  have HT := hidden h'
  have HG := hidden hg
  clear h h' hg
  gi_wp2_with (refine ⟨trivial, ?_⟩; gi_at_call 84; refine (callsIn_wide.2 (placesOf_any _ _ _ _ _ _ _)).mono ?_; rintro e w' ⟨rfl, rfl⟩)
  have b0 := Boxed.new w 34 (.slice (some ⟨b, off, none⟩) n c)
  have b1 := Boxed.new (w.alloc (.cells #[.slice (some ⟨b, off, none⟩) n c] 34)) 26 (.slice (some ⟨b', off', none⟩) m c')
  have b2 := Boxed.new ((w.alloc (.cells #[.slice (some ⟨b, off, none⟩) n c] 34)).alloc (.cells #[.slice (some ⟨b', off', none⟩) m c'] 26)) 4 (.bool false)
  have b3 := Boxed.new (((w.alloc (.cells #[.slice (some ⟨b, off, none⟩) n c] 34)).alloc (.cells #[.slice (some ⟨b', off', none⟩) m c'] 26)).alloc (.cells #[.bool false] 4)) 34 (.slice (some ⟨b, off, none⟩) n c)
  have b4 := Boxed.new ((((w.alloc (.cells #[.slice (some ⟨b, off, none⟩) n c] 34)).alloc (.cells #[.slice (some ⟨b', off', none⟩) m c'] 26)).alloc (.cells #[.bool false] 4)).alloc (.cells #[.slice (some ⟨b, off, none⟩) n c] 34)) 26 (.slice (some ⟨b', off', none⟩) m c')
  simp only [World.size_alloc] at b1 b2 b3 b4
  have hB0 : Below w.heap.size w (((((w.alloc (.cells #[.slice (some ⟨b, off, none⟩) n c] 34)).alloc (.cells #[.slice (some ⟨b', off', none⟩) m c'] 26)).alloc (.cells #[.bool false] 4)).alloc (.cells #[.slice (some ⟨b, off, none⟩) n c] 34)).alloc (.cells #[.slice (some ⟨b', off', none⟩) m c'] 26)) :=
    (((((Below.refl _ w).alloc (Nat.le_refl _) _).alloc (by simp) _).alloc (by simp; omega) _).alloc (by simp; omega) _).alloc (by simp; omega) _
  refine wpIn_rangeFunc_ownG rfl (by omega) (gf := 98) (lb := #[.pointer (some ⟨w.heap.size + 1 + 1 + 1 + 1, 0, none⟩), .pointer (some ⟨w.heap.size + 1 + 1 + 1, 0, none⟩)]) rfl trivial (enters_of Try.func98 (by kernel_rfl) rfl)
    (places_stops _ (by omega) (w.heap.size + 1 + 1 + 1 + 1) (w.heap.size + 1 + 1 + 1) (w.heap.size + 1 + 1) (w.heap.size + 1 + 1 + 1 + 1) b off n c b' off' m c' 0 m N A T HG.out (by omega) ⟨by omega, by omega⟩ ⟨by omega, by omega⟩ ⟨by omega, by omega⟩ _ (by simp) (by simp) b4.cell (b3.alloc _).cell (HS.out.keep hB0) (fun j hj => by have := (HT.out.keep hB0).cell j hj; rw [Nat.zero_add]; exact this))
    butK_t (butK_b (by simp)) (Below.refl _ _) (fun _ => rfl)
    (fun pre W => ((∀ p ∈ pre, p.2 ≠ 0) ∧ W.cell? ⟨w.heap.size + 1, 0, none⟩ = some (.slice (some ⟨b', off', none⟩) m c') ∧ W.cell? ⟨w.heap.size + 1 + 1, 0, none⟩ = some (.bool false) ∧ W.frozen? ⟨w.heap.size + 1 + 1, 0, none⟩ = false) ∧ Below w.heap.size w W)
    (fun c pre W => (c = .ret ∧ ∃ ini last, pre = ini ++ [last] ∧ last.2 = 0 ∧ W.cell? ⟨w.heap.size + 1 + 1, 0, none⟩ = some (.bool ((last.1 : Int) == (m : Int) - 1))) ∧ Below w.heap.size w W)
    (OwnFrom.and (Own.from (fun s A B row hs hg hr => ⟨hs.1, cell_kept hs.2.1 hg hr, cell_kept hs.2.2.1 hg hr, (frozen_kept hs.2.2.1 hg hr).trans hs.2.2.2⟩) _) (ownFrom_below (Nat.le_refl _) (by simp; omega)))
    (fun c => OwnFrom.and (Own.from (fun s A B row hs hg hr => by obtain ⟨hc, ini, last, e1, e2, e3⟩ := hs; exact ⟨hc, ini, last, e1, e2, cell_kept e3 hg hr⟩) _) (ownFrom_below (Nat.le_refl _) (by simp; omega)))
    ⟨⟨by simp, (((b1.alloc _).alloc _).alloc _).cell, ((b2.alloc _).alloc _).cell, ((b2.alloc _).alloc _).frozen⟩, hB0⟩
    (fun x => { tmps := #[.agg #[.slice (some ⟨b, off, none⟩) n c], .slice (some ⟨b', off', none⟩) m c', .pointer (some ⟨w.heap.size, 0, none⟩), .pointer (some ⟨w.heap.size + 1, 0, none⟩), .pointer (some ⟨w.heap.size + 1 + 1, 0, none⟩), .int .i64 (x.1 : Int), .int .i64 x.2, .agg #[.slice (some ⟨b, off, none⟩) n c], .slice (some ⟨b', off', none⟩) m c', .func (.func 98) #[] #[.pointer (some ⟨w.heap.size + 1 + 1 + 1 + 1, 0, none⟩), .pointer (some ⟨w.heap.size + 1 + 1 + 1, 0, none⟩)], .int .i64 (x.1 : Int), .int .i64 x.2, undef, undef, undef, undef, undef, undef, undef], defers := [] }) ?assign ?body ?done ?stop
  case assign =>
    intro l x W K hK
    gi_wp2
    exact hK
  case body =>
    rintro l pre x W ⟨⟨hp, hcn, hcr, hfr⟩, hB⟩ _
    by_cases hz : x.2 = 0
    · have hz' : (x.2 == 0) = true := by simpa using hz
      have HZ := hidden hz
      have HB := hidden hB
      clear hz hp hB
      gi_wp2
      exact ⟨(KeepsOthers.setCell _ _ _).from _, ⟨rfl, pre, x, rfl, HZ.out, World.cell?_setCell_same' _ _ _ (by rw [hcr]; rfl)⟩, HB.out.setCell (p := ⟨w.heap.size + 1 + 1, 0, none⟩) (by simp; omega) _⟩
    · have hz' : (x.2 == 0) = false := by simpa using hz
      have HZ := hidden hz
      have HP := hidden hp
      clear hz hp
      gi_wp2
      exact ⟨KeepsFrom.refl _ _, But.refl _ _ _, ⟨fun p hp' => (List.mem_append.1 hp').elim (HP.out p) (fun e => by simp at e; subst e; exact HZ.out), hcn, hcr, hfr⟩, hB⟩
  case done =>
    rintro D ys W hD ⟨k, hk, hpos, hend, rfl⟩ ⟨⟨hne, _, hcr, hfr⟩, hB⟩ hK
    have hR : oneB (aOf A T) m = false := by
      have h1 : 0 < awt (aOf A T) 0 k := by
        cases k with
        | zero => simp [awt]
        | succ k =>
          have h2 := (awt_skip (aOf A T) (m := m) (p := 0) (k + 1) (by omega) hpos).1
          have h3 := hne (yld (aOf A T) 0 k) (by rw [upto_succ]; simp)
          have h4 : awt (aOf A T) 0 (k + 1) ≠ 0 := h3
          omega
      have hkm : k = m := by rcases hend with e | e <;> omega
      have := (manyN_over (p := 0) (j := k) (m := m) (by omega) hpos h1).1
      simp [oneB, this]
    have HR := hidden hR
    clear hR hne hpos hend
    gi_wp2
    have hK' := (KeepsOthers.setCell W ⟨w.heap.size + 1 + 1, 0, none⟩ (.bool false)).same D _ hK rfl
    refine ⟨by simp, .inl ⟨_, _, rfl, run_takeDeferred hK', ?_⟩⟩
    have hc5 := cell_kept (World.cell?_setCell_same' W ⟨w.heap.size + 1 + 1, 0, none⟩ (.bool false) (by rw [hcr]; rfl)) (grownBy_putObj' _ D (.deferred none)) (fun r e => by cases e; exact ⟨_, hK', rfl⟩)
    refine ⟨.bool false, ?_, by rw [HR.out], (hB.setCell (p := ⟨w.heap.size + 1 + 1, 0, none⟩) (by simp; omega) _).trans (belowK_b (w := w) (Nat.le_refl _) _ D _ _ (by simp at hD; omega) hK' rfl rfl)⟩
    simp [results, Try.f61, go_sem, hc5]
  case stop =>
    rintro D c pre W hD ⟨k, hk, hpos, rfl⟩ ⟨⟨rfl, ini, last, e1, e2, hcr⟩, hB⟩ hK
    rw [upto_succ] at e1
    obtain ⟨rfl, e5⟩ := List.append_inj' e1 rfl
    obtain rfl : yld (aOf A T) 0 k = last := by simpa using e5
    have hz : awt (aOf A T) 0 (k + 1) = 0 := e2
    have hsk := (manyN_at (p := 0) (j := k + 1) (m := m) (by omega) (fun i hi => hpos i (by omega)) hz).1
    have hR : oneB (aOf A T) m = (((yld (aOf A T) 0 k).1 : Int) == (m : Int) - 1) := by
      show decide (skip (aOf A T) m 0 1 = some m) = decide ((k : Int) = (m : Int) - 1)
      rw [hsk]
      simp only [Nat.zero_add, Option.some.injEq, decide_eq_decide]
      omega
    have HR := hidden hR
    clear hR hsk hz e2 hpos e1 e5
    gi_wp2
    refine ⟨by simp, .inl ⟨_, _, rfl, run_takeDeferred hK, ?_⟩⟩
    have hc5 := cell_kept hcr (grownBy_putObj' _ D (.deferred none)) (fun r e => by cases e; exact ⟨_, hK, rfl⟩)
    refine ⟨_, ?_, by rw [HR.out], hB.trans (belowK_b (w := w) (Nat.le_refl _) W D _ _ (by simp at hD; omega) hK rfl rfl)⟩
    simp [results, Try.f61, go_sem, hc5]

end Go.Proofs.Ytbdgnpjbmlcchaa
