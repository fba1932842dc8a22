/- Contracts of the small functions that the exact laws on signatures call: copies of symbols, their sizes, their comparison. -/
import Derived.Test.YtbgemmhkfbfooaaRows
import Derived.WalkKit
import Derived.WalkSpells
import Derived.WalkLawsBesides
import Derived.Below
import Derived.Outline
import Derived.Laws.OwnMore
import Derived.Deep.QuietTactic
import Derived.BigQuiet
import Derived.OpenShut
import Derived.Deep.RegionWith
import Derived.Deep.DeepCutAuto
namespace Go.Proofs.Ytbgemmhkfbfooaa
open Go.RowKit

theorem hidden {p : Prop} (h : p) : Hid p := h

/-- A row of symbols in memory: the name and the arity of each. -/
structure Syms (w : World) (b off n : Nat) (N : Nat → ByteArray) (A : Nat → Int) : Prop where
  blk : 0 < n → b < w.heap.size
  name : ∀ i, i < n → w.cell? ⟨b, off + i * 2, none⟩ = some (.string (N i))
  arity : ∀ i, i < n → w.cell? ⟨b, off + i * 2 + 1, none⟩ = some (.int .i64 (A i))
  big : ∀ i, i < n → (N i).size ≤ maxLen
  fits : ∀ i, i < n → -9223372036854775808 ≤ A i ∧ A i ≤ 9223372036854775807

theorem Syms.later {w w' : World} {B b off n : Nat} {N : Nat → ByteArray} {A : Nat → Int} (h : Syms w b off n N A) (hb : Below B w w') (hB : 0 < n → b < B) : Syms w' b off n N A :=
  ⟨fun h0 => Nat.lt_of_lt_of_le (h.blk h0) hb.size, fun i hi => by rw [hb.cell (p := ⟨b, off + i * 2, none⟩) (hB (by omega))]; exact h.name i hi,
   fun i hi => by rw [hb.cell (p := ⟨b, off + i * 2 + 1, none⟩) (hB (by omega))]; exact h.arity i hi, h.big, h.fits⟩

/-- What came in: no symbol, or a row of them. -/
def SrcS (w : World) (p : Option Addr) (n : Nat) (N : Nat → ByteArray) (A : Nat → Int) : Prop :=
  n ≤ maxLen ∧ (n = 0 ∨ ∃ b off, p = some ⟨b, off, none⟩ ∧ Syms w b off n N A)

theorem SrcS.later {w w' : World} {p : Option Addr} {n : Nat} {N : Nat → ByteArray} {A : Nat → Int} (h : SrcS w p n N A) (hb : Below w.heap.size w w') : SrcS w' p n N A :=
  ⟨h.1, h.2.imp id fun ⟨b, off, hp, hs⟩ => ⟨b, off, hp, hs.later hb hs.blk⟩⟩

theorem alloc_below (w : World) (o : Obj) : Below w.heap.size w (w.alloc o) := (Below.refl _ _).alloc (Nat.le_refl _) o

/-- A row of symbols in memory of its own. -/
def OwnS (w : World) (B g n c : Nat) (N : Nat → ByteArray) (A : Nat → Int) (k : Nat) : Prop :=
  ∃ xs, w.ownsRow B 70 2 (.slice (some ⟨g, 0, none⟩) n c) n xs ∧ ∀ i, i < k → xs[i * 2]? = some (.string (N i)) ∧ xs[i * 2 + 1]? = some (.int .i64 (A i))

theorem OwnS.put {w : World} {B g n c : Nat} {N : Nat → ByteArray} {A : Nat → Int} {k : Nat} (h : OwnS w B g n c N A k) (hk : k < n) :
    (∃ u0, w.cell? ⟨g, 0 + k * 2, none⟩ = some u0) ∧ (∃ u1, (w.setCell ⟨g, 0 + k * 2, none⟩ (.string (N k))).cell? ⟨g, 0 + k * 2 + 1, none⟩ = some u1) ∧
    w.frozen? ⟨g, 0 + k * 2, none⟩ = false ∧ (w.setCell ⟨g, 0 + k * 2, none⟩ (.string (N k))).frozen? ⟨g, 0 + k * 2 + 1, none⟩ = false ∧
    OwnS ((w.setCell ⟨g, 0 + k * 2, none⟩ (.string (N k))).setCell ⟨g, 0 + k * 2 + 1, none⟩ (.int .i64 (A k))) B g n c N A (k + 1) ∧
    w.grownBy ((w.setCell ⟨g, 0 + k * 2, none⟩ (.string (N k))).setCell ⟨g, 0 + k * 2 + 1, none⟩ (.int .i64 (A k))) (some g) := by
  obtain ⟨xs, ho, hx⟩ := h
  rw [Nat.zero_add]
  obtain ⟨o1, g1⟩ := ho.stored (k * 2) (.string (N k))
  obtain ⟨o2, g2⟩ := o1.stored (k * 2 + 1) (.int .i64 (A k))
  have hl : xs.length = n * 2 := ho.1
  refine ⟨⟨_, (ho.cellAt (k * 2) (by omega)).trans (List.getElem?_eq_getElem (by omega))⟩, ⟨_, (o1.cellAt (k * 2 + 1) (by omega)).trans (List.getElem?_eq_getElem (by simp; omega))⟩,
    ho.frozenAt _, o1.frozenAt _, ⟨_, o2, fun i hi => ?_⟩, ⟨g2.os.trans g1.os, g2.tape.trans g1.tape, g2.output.trans g1.output, Nat.le_trans g1.size g2.size, fun j hj hr => (g2.block j (Nat.lt_of_lt_of_le hj g1.size) hr).trans (g1.block j hj hr)⟩⟩
  by_cases e : i = k
  · subst e
    constructor
    · rw [List.getElem?_set_ne (by omega), List.getElem?_set_self (by omega)]
    · rw [List.getElem?_set_self (by simp; omega)]
  · rw [List.getElem?_set_ne (by omega), List.getElem?_set_ne (by omega), List.getElem?_set_ne (by omega), List.getElem?_set_ne (by omega)]
    exact hx i (by omega)

theorem OwnS.later {w w' : World} {B B' g n c : Nat} {N : Nat → ByteArray} {A : Nat → Int} {k : Nat} (h : OwnS w B g n c N A k) (hb : Below B' w w') (hg : g < B') : OwnS w' B g n c N A k := by
  obtain ⟨xs, ho, hx⟩ := h
  refine ⟨xs, ⟨ho.1, ho.2.imp id ?_⟩, hx⟩
  rintro ⟨g', cap, cur, h1, h2, h3, h4⟩
  have e : g' = g := by simp at h1; exact h1.1.symm
  subst e
  exact ⟨g', cap, cur, h1, h2, by rw [hb.block g' hg]; exact h3, h4⟩

theorem OwnS.other {w : World} {B g n c : Nat} {N : Nat → ByteArray} {A : Nat → Int} {k : Nat} (h : OwnS w B g n c N A k) (a : Addr) (u : Value) (hg : g ≠ a.block) : OwnS (w.setCell a u) B g n c N A k := by
  obtain ⟨xs, ho, hx⟩ := h
  refine ⟨xs, ⟨ho.1, ho.2.imp id ?_⟩, hx⟩
  rintro ⟨g', cap, cur, h1, h2, h3, h4⟩
  have e : g' = g := by simp at h1; exact h1.1.symm
  subst e
  exact ⟨g', cap, cur, h1, h2, by rw [Below.heap_setCell _ _ _ _ hg]; exact h3, h4⟩

theorem OwnS.base {w : World} {B B' g n c : Nat} {N : Nat → ByteArray} {A : Nat → Int} {k : Nat} (h : OwnS w B g n c N A k) (hB : B' ≤ g) : OwnS w B' g n c N A k := by
  obtain ⟨xs, ho, hx⟩ := h
  refine ⟨xs, ⟨ho.1, ho.2.imp id ?_⟩, hx⟩
  rintro ⟨g', cap, cur, h1, h2, h3, h4⟩
  have e : g' = g := by simp at h1; exact h1.1.symm
  subst e
  exact ⟨g', cap, cur, h1, hB, h3, h4⟩

theorem bcell {W w1 : World} (hb : Below W.heap.size W w1) : (∀ b o, b < W.heap.size → w1.cell? ⟨b, o, none⟩ = W.cell? ⟨b, o, none⟩) ∧ (∀ b o, b < W.heap.size → w1.frozen? ⟨b, o, none⟩ = W.frozen? ⟨b, o, none⟩) :=
  ⟨fun b o h => hb.cell (p := ⟨b, o, none⟩) h, fun b o h => hb.frozen (p := ⟨b, o, none⟩) h⟩

theorem OwnS.lt {w : World} {B g n c : Nat} {N : Nat → ByteArray} {A : Nat → Int} {k : Nat} (h : OwnS w B g n c N A k) : g < w.heap.size := by
  obtain ⟨xs, ho, _⟩ := h; exact (ho.lt g rfl).2

theorem OwnS.syms {w : World} {B g n c : Nat} {N : Nat → ByteArray} {A : Nat → Int} (h : OwnS w B g n c N A n) (hb : ∀ i, i < n → (N i).size ≤ maxLen) (hf : ∀ i, i < n → -9223372036854775808 ≤ A i ∧ A i ≤ 9223372036854775807) : Syms w g 0 n N A := by
  obtain ⟨xs, ho, hx⟩ := h
  refine ⟨fun _ => (ho.lt g rfl).2, fun i hi => ?_, fun i hi => ?_, hb, hf⟩
  · rw [Nat.zero_add, ho.cellAt _ (by omega)]; exact (hx i hi).1
  · rw [Nat.zero_add, ho.cellAt _ (by omega)]; exact (hx i hi).2

set_option maxRecDepth 10000 in
theorem makeSyms (w : World) (n : Nat) (hn : n ≤ 1048576) : ∃ w', (Instr.makeSlice 24 (.int .i64 (n : Int)) (.int .i64 (n : Int))).run Try.prog w = .ok (.slice (some ⟨w.heap.size, 0, none⟩) n n) w' ∧
      w'.ownsRow w.heap.size 70 2 (.slice (some ⟨w.heap.size, 0, none⟩) n n) n (madeCells (Value.agg #[.string ByteArray.empty, .int .i64 0]).cells (n * 2)).toList ∧ w.grownBy w' none :=
  run_make_full (P := Try.prog) w w.heap.size 24 70 _ (.agg #[.string ByteArray.empty, .int .i64 0]) 2 Try.underlying24 rfl rfl rfl .i64 .i64 n (by show 24 * n ≤ _; omega) (by unfold maxLen; omega) (Nat.le_refl _)

/-- What a law copies: symbols of at most so many signs. -/
structure Kept (n : Nat) (N : Nat → ByteArray) (A : Nat → Int) : Prop where
  most : n ≤ 1048576
  short : ∀ i, i < n → (N i).size ≤ 1048576
  fits : ∀ i, i < n → -9223372036854775808 ≤ A i ∧ A i ≤ 9223372036854775807

theorem Kept.big {n : Nat} {N : Nat → ByteArray} {A : Nat → Int} (h : Kept n N A) : ∀ i, i < n → (N i).size ≤ maxLen := fun i hi => by have := h.short i hi; unfold maxLen; omega

end Go.Proofs.Ytbgemmhkfbfooaa
