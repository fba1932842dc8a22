/- The program's value stack: its row and its box; the contract of slices.Backward. -/
import Derived.Test.YtdcngfdklpdpkaaAlB
import Derived.Test.YtdcngfdklpdpkaaRound
import Derived.Test.YtdcngfdklpdpkaaVarsI
import Derived.OwnWalkIn
import Derived.Deep.RegionLaw
namespace Go.Proofs.Ytdcngfdklpdpkaa
open Go.RowKit Go.Shelf

attribute [local go_sem] Oper.semAt_some

/-- All blocks below B but X and X + 1 are as they were. -/
structure BuQ (X B : Nat) (w w' : World) : Prop where
  os : w'.os = w.os
  tape : w'.tape = w.tape
  output : w'.output = w.output
  size : w.heap.size ≤ w'.heap.size
  block : ∀ k, k < B → k ≠ X → k ≠ X + 1 → w'.heap[k]? = w.heap[k]?

theorem BuQ.refl (X B : Nat) (w : World) : BuQ X B w w := ⟨rfl, rfl, rfl, Nat.le_refl _, fun _ _ _ _ => rfl⟩
theorem BuQ.trans {X B : Nat} {a b c : World} (h : BuQ X B a b) (k : BuQ X B b c) : BuQ X B a c :=
  ⟨k.os.trans h.os, k.tape.trans h.tape, k.output.trans h.output, Nat.le_trans h.size k.size, fun i hi hx hy => (k.block i hi hx hy).trans (h.block i hi hx hy)⟩
theorem BuQ.of {X B B' : Nat} {w w' : World} (h : Below B' w w') (hB : B ≤ B') : BuQ X B w w' := ⟨h.os, h.tape, h.output, h.size, fun k hk _ _ => h.block k (by omega)⟩
theorem BuQ.but {X B : Nat} {w w' : World} (h : But X B w w') : BuQ X B w w' := ⟨h.os, h.tape, h.output, h.size, fun k hk h1 _ => h.block k hk h1⟩
theorem BuQ.but1 {X B : Nat} {w w' : World} (h : But (X + 1) B w w') : BuQ X B w w' := ⟨h.os, h.tape, h.output, h.size, fun k hk _ h1 => h.block k hk h1⟩
theorem setO (X o B : Nat) (w : World) (v : Value) : But X B w (w.setCell ⟨X, o, none⟩ v) :=
  ⟨rfl, rfl, rfl, by simp, fun k _ hx => Below.heap_setCell w _ v k hx⟩
theorem buqT {X B : Nat} {a b c : World} (h : BuQ X B a b) (k : BuQ X B b c) : BuQ X B a c := h.trans k
theorem buqB {X B : Nat} {w : World} (hn : B ≤ w.heap.size) (W : World) (l : Nat) (o o' : Obj) (hl : w.heap.size ≤ l) (h : W.heap[l]? = some o) (h1 : o.isCells = false) (h2 : o.isWalk = false) : BuQ X B W (W.putObj l o') :=
  BuQ.of (belowK_b (n₀ := B) hn W l o o' hl h h1 h2) (Nat.le_refl _)
theorem BuQ.cell {X B : Nat} {w w' : World} (h : BuQ X B w w') {b o : Nat} (hb : b < B) (hx : b ≠ X) (hy : b ≠ X + 1) : w'.cell? ⟨b, o, none⟩ = w.cell? ⟨b, o, none⟩ :=
  World.cell?_of_block (a := ⟨b, o, none⟩) (h.block b hb hx hy)

/-- What has been found: a list in a row of 24 cells, its last one on top; the row's view lies in the box behind it. -/
structure FndV (W : World) (R : Nat) (l : List Int) : Prop where
  box : W.cell? ⟨R + 1, 0, none⟩ = some (.slice (some ⟨R, 0, none⟩) l.length 24)
  boxf : W.frozen? ⟨R + 1, 0, none⟩ = false
  cell : ∀ i, i < l.length → W.cell? ⟨R, i, none⟩ = some (.int .i64 (l.reverse.getD i 0))
  room : ∀ i, i < 24 → ∃ v, W.cell? ⟨R, i, none⟩ = some v
  free : ∀ i, i < 24 → W.frozen? ⟨R, i, none⟩ = false

theorem FndV.lt {W : World} {R : Nat} {l : List Int} (h : FndV W R l) : R + 1 < W.heap.size := World.block_lt_of_cell? W _ h.box
theorem FndV.keep {w w' : World} {R : Nat} {l : List Int} (h : FndV w R l) (hb : Below w.heap.size w w') : FndV w' R l := by
  have h1 := h.lt
  exact ⟨by rw [hb.cell (p := ⟨R + 1, 0, none⟩) h1]; exact h.box, by rw [hb.frozen (p := ⟨R + 1, 0, none⟩) h1]; exact h.boxf, fun i hi => by rw [hb.cell (p := ⟨R, i, none⟩) (by show R < _; omega)]; exact h.cell i hi,
    fun i hi => by rw [hb.cell (p := ⟨R, i, none⟩) (by show R < _; omega)]; exact h.room i hi, fun i hi => by rw [hb.frozen (p := ⟨R, i, none⟩) (by show R < _; omega)]; exact h.free i hi⟩
theorem FndV.own {A B : World} {row : Option Nat} {R : Nat} {l : List Int} (h : FndV A R l) (hg : A.grownBy B row) (hr : ∀ r, row = some r → ∃ o : Obj, A.heap[r]? = some o ∧ o.isCells = false) : FndV B R l :=
  ⟨cell_kept h.box hg hr, (frozen_kept h.box hg hr).trans h.boxf, fun i hi => cell_kept (h.cell i hi) hg hr, fun i hi => by obtain ⟨v, hv⟩ := h.room i hi; exact ⟨v, cell_kept hv hg hr⟩,
    fun i hi => by obtain ⟨v, hv⟩ := h.room i hi; exact (frozen_kept hv hg hr).trans (h.free i hi)⟩
theorem FndV.top {W : World} {R : Nat} {x : Int} {l : List Int} (h : FndV W R (x :: l)) : W.cell? ⟨R, l.length, none⟩ = some (.int .i64 x) := by
  have := h.cell l.length (by simp)
  rw [this]; simp [List.getD_eq_getElem?_getD]
theorem FndV.pop {W : World} {R : Nat} {x : Int} {l : List Int} (h : FndV W R (x :: l)) : FndV (W.setCell ⟨R + 1, 0, none⟩ (.slice (some ⟨R, 0, none⟩) l.length 24)) R l := by
  have hb : But (R + 1) (R + 1) W (W.setCell ⟨R + 1, 0, none⟩ (.slice (some ⟨R, 0, none⟩) l.length 24)) := But.set _ _ _ _
  refine ⟨World.cell?_setCell_same _ _ _ h.box, by rw [World.frozen?_setCell]; exact h.boxf, fun i hi => ?_, fun i hi => ?_, fun i hi => ?_⟩
  · rw [hb.cell (by omega) (by omega), h.cell i (by simp; omega)]
    simp [List.getD_eq_getElem?_getD, List.getElem?_append_left (show i < l.reverse.length by simpa using hi)]
  · rw [hb.cell (by omega) (by omega)]; exact h.room i hi
  · rw [hb.frozen (by omega) (by omega)]; exact h.free i hi
/-- One more is found. -/
theorem FndV.push {W : World} {R : Nat} {l : List Int} (h : FndV W R l) (hl : l.length < 24) (x : Int) : FndV ((W.setCell ⟨R, l.length, none⟩ (.int .i64 x)).setCell ⟨R + 1, 0, none⟩ (.slice (some ⟨R, 0, none⟩) (l.length + 1) 24)) R (x :: l) := by
  have hb := setO R l.length (R + 2) W (.int .i64 x)
  have b1 := (hb.cell (b := R + 1) (o := 0) (by omega) (by omega)).trans h.box
  have hb2 : But (R + 1) (R + 1) (W.setCell ⟨R, l.length, none⟩ (.int .i64 x)) _ := But.set _ _ _ (.slice (some ⟨R, 0, none⟩) (l.length + 1) 24)
  refine ⟨World.cell?_setCell_same _ _ _ b1, by rw [World.frozen?_setCell, World.frozen?_setCell]; exact h.boxf, fun i hi => ?_, fun i hi => ?_, fun i hi => ?_⟩
  · rw [hb2.cell (by omega) (by omega)]
    simp only [List.length_cons] at hi
    by_cases e : i = l.length
    · subst e
      obtain ⟨v, hv⟩ := h.room l.length hl
      rw [World.cell?_setCell_same _ _ _ hv]; simp [List.getD_eq_getElem?_getD]
    · rw [World.cell?_setCell_other _ _ _ _ (by intro h1; injection h1 with h2 h3 h4; exact e h3.symm), h.cell i (by omega)]
      simp [List.getD_eq_getElem?_getD, List.getElem?_append_left (show i < l.reverse.length by simp; omega)]
  · rw [hb2.cell (by omega) (by omega)]
    by_cases e : i = l.length
    · subst e
      obtain ⟨v, hv⟩ := h.room l.length hl
      exact ⟨_, World.cell?_setCell_same _ _ _ hv⟩
    · rw [World.cell?_setCell_other _ _ _ _ (by intro h1; injection h1 with h2 h3 h4; exact e h3.symm)]; exact h.room i hi
  · rw [World.frozen?_setCell, World.frozen?_setCell]; exact h.free i hi

end Go.Proofs.Ytdcngfdklpdpkaa
