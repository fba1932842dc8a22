/- Contracts: a signature and a term are drawn for a law. -/
import Derived.Test.YthgoclbgepfjmaaL3One
namespace Go.Proofs.Ythgoclbgepfjmaa
open Go.RowKit

/-- What was drawn: a signature and a list of numbers. -/
structure TwoAns (w w' : World) (q : Option Addr) (n d0 g m d : Nat) : Prop where
  few : m ≤ 25
  cap : m ≤ d
  row : ∃ L, Ints w' g 0 m L
  sig : SigV w' (.slice q n d0)
  new : w.heap.size ≤ g
  old : ∀ b, q = some b → w.heap.size ≤ b.block
  below : Below w.heap.size w w'

theorem TwoAns.box {w w1 w' : World} {q : Option Addr} {n d0 g m d : Nat} {u : Value} {o : Obj} (hb : Below w1.heap.size w1 w') (hm : m ≤ 25) (hmd : m ≤ d) (hL : ∃ L, Ints w1 g 0 m L) (hS : SigV w1 (.slice q n d0)) (hg : (w.alloc o).heap.size ≤ g) (hq : ∀ b, q = some b → (w.alloc o).heap.size ≤ b.block) (h1 : Below (w.alloc o).heap.size (w.alloc o) w1) :
    TwoAns w (w'.setCell ⟨w.heap.size, 0, none⟩ u) q n d0 g m d := by
  rw [World.size_alloc] at hg hq
  obtain ⟨L, hL⟩ := hL
  have hL := hL.keep hb
  refine ⟨hm, hmd, ⟨L, ⟨fun h0 => by have := hL.blk h0; simp; omega, fun i hi => ?_⟩⟩, (hS.keep hb).grown (s := w.heap.size) (Byt.setCell_grown _ _ _ _) (fun g' m' d' e => by cases e; have := hq _ rfl; show g' ≠ w.heap.size; simp at this; omega), by omega, fun b e => by have := hq b e; omega, (keepB (keepB (alloc_below w _) h1) hb).setCell (by simp) _⟩
  rw [World.cell?_setCell_other _ _ _ _ (by simp; try omega)]
  exact hL.cell i hi

set_option maxRecDepth 20000 in
set_option maxHeartbeats 1600000 in
theorem drawTerm_any (p : Option Addr) (nn c : Nat) (l : List Int) (w : World) (h : Byt.Src w p nn l) :
    Calls Try.prog 78 #[.slice p nn c] w fun e w' => ∃ q n d0 g m d, e = .returned (.tuple #[.agg #[.slice q n d0], .slice (some ⟨g, 0, none⟩) m d]) ∧ TwoAns w w' q n d0 g m d := by
  have R := hidden (Cel.new w (.slice none 0 0) 26)
  have H := hidden (show Byt.Src (w.alloc (.cells #[.slice none 0 0] 26)) p nn l from by
    obtain ⟨h1, h2, h3, h4⟩ := h
    refine ⟨h1, h2, h3, h4.imp id ?_⟩
    rintro ⟨b, off, e, hlt, hc⟩
    exact ⟨b, off, e, by simp; omega, fun i hi => keepCell (hc i hi) _⟩)
  clear h
  go_enter Try.func78, Try.ntmps78
  go_wp2_with fail
  with_reducible refine (l3One_any p nn c l _ H.out).mono ?_
  rintro e w1 ⟨s, q, n, d0, g, m, d, a, rfl, hA⟩
  have RC := (R.out.keep hA.below).keep (alloc_below w1 (.cells #[.slice q n d0] 26))
  have r0 := RC.c0
  have r1 := RC.f0
  have t0 := (Cel.new w1 (.slice q n d0) 26).c0
  have F := hidden (fun u => TwoAns.box (u := u) (alloc_below w1 (.cells #[.slice q n d0] 26)) hA.few hA.cap hA.row hA.sig hA.new (fun b e => (hA.old b e).1) hA.below)
  clear RC R H hA
  go_wp2
  refine bodyPost_ret (v := .tuple #[.agg #[.slice q n d0], .slice (some ⟨g, 0, none⟩) m d]) (by simp [results, Try.results78, go_sem, r0]) rfl ?_
  exact ⟨q, n, d0, g, m, d, rfl, F.out _⟩

set_option maxRecDepth 20000 in
set_option maxHeartbeats 1600000 in
theorem drawVars_any (p : Option Addr) (nn c : Nat) (l : List Int) (w : World) (h : Byt.Src w p nn l) :
    Calls Try.prog 35 #[.slice p nn c] w fun e w' => ∃ q n d0 g m d, e = .returned (.tuple #[.agg #[.slice q n d0], .slice (some ⟨g, 0, none⟩) m d]) ∧ TwoAns w w' q n d0 g m d := by
  have R := hidden (Cel.new w (.slice none 0 0) 26)
  have H := hidden (show Byt.Src (w.alloc (.cells #[.slice none 0 0] 26)) p nn l from by
    obtain ⟨h1, h2, h3, h4⟩ := h
    refine ⟨h1, h2, h3, h4.imp id ?_⟩
    rintro ⟨b, off, e, hlt, hc⟩
    exact ⟨b, off, e, by simp; omega, fun i hi => keepCell (hc i hi) _⟩)
  clear h
  go_enter Try.func35, Try.ntmps35
  go_wp2_with fail
  with_reducible refine (drawTerm_any p nn c l _ H.out).mono ?_
  rintro e w1 ⟨q, n, d0, g, m, d, rfl, hA⟩
  have RC := R.out.keep hA.below
  have r0 := RC.c0
  have r1 := RC.f0
  have F := hidden (fun u => TwoAns.box (u := u) (Below.refl w1.heap.size w1) hA.few hA.cap hA.row hA.sig hA.new hA.old hA.below)
  clear RC R H hA
  go_wp2
  refine bodyPost_ret (v := .tuple #[.agg #[.slice q n d0], .slice (some ⟨g, 0, none⟩) m d]) (by simp [results, Try.results35, go_sem, r0]) rfl ?_
  exact ⟨q, n, d0, g, m, d, rfl, F.out _⟩

end Go.Proofs.Ythgoclbgepfjmaa
