/- Several texts as one: BndM, BndR, BndQ, ByS, ByT. -/
import Derived.Test.YtbdgnpjbmlcchaaBnd
import Derived.Test.YtbdgnpjbmlcchaaCat
import Derived.Test.YtbdgnpjbmlcchaaCanon
import Derived.Deep.AppendLies
/- Contracts: bindings in memory of their own, and their marks: what is marked lies between two numbers of blocks. -/
namespace Go.Proofs.Ytbdgnpjbmlcchaa
open Go.RowKit

/-- Nothing but blocks from lo to hi has turned. -/
structure Rng (lo hi : Nat) (w w' : World) : Prop where
  os : w'.os = w.os
  tape : w'.tape = w.tape
  output : w'.output = w.output
  size : w.heap.size ≤ w'.heap.size
  block : ∀ k, k < w.heap.size → (k < lo ∨ hi ≤ k) → w'.heap[k]? = w.heap[k]?

theorem Rng.refl (lo hi : Nat) (w : World) : Rng lo hi w w := ⟨rfl, rfl, rfl, Nat.le_refl _, fun _ _ _ => rfl⟩
theorem Rng.trans {lo hi : Nat} {a b c : World} (h : Rng lo hi a b) (k : Rng lo hi b c) : Rng lo hi a c :=
  ⟨k.os.trans h.os, k.tape.trans h.tape, k.output.trans h.output, Nat.le_trans h.size k.size, fun j hj hx => (k.block j (Nat.lt_of_lt_of_le hj h.size) hx).trans (h.block j hj hx)⟩
theorem Rng.of {lo hi g : Nat} {a b : World} (h : a.grownBy b (some g)) (h1 : lo ≤ g) (h2 : g < hi) : Rng lo hi a b :=
  ⟨h.os, h.tape, h.output, h.size, fun j hj hx => h.block j hj (by intro e; simp at e; omega)⟩
theorem Rng.by {lo hi : Nat} {a b : World} (h : Below a.heap.size a b) : Rng lo hi a b :=
  ⟨h.os, h.tape, h.output, h.size, fun j hj _ => h.block j hj⟩
theorem Rng.below {lo hi : Nat} {w a b : World} (h : Below w.heap.size w a) (k : Rng lo hi a b) (hl : w.heap.size ≤ lo) : Below w.heap.size w b :=
  ⟨k.os.trans h.os, k.tape.trans h.tape, k.output.trans h.output, Nat.le_trans h.size k.size, fun j hj => (k.block j (Nat.lt_of_lt_of_le hj h.size) (Or.inl (by omega))).trans (h.block j hj)⟩

theorem cell_of_blk {w w' : World} {b o : Nat} (h : w'.heap[b]? = w.heap[b]?) : w'.cell? ⟨b, o, none⟩ = w.cell? ⟨b, o, none⟩ := by
  unfold World.cell?; simp only [h]

theorem One.rng {w w' : World} {b lo hi : Nat} {v : Value} (h : One w b v) (k : Rng lo hi w w') (hx : b < lo ∨ hi ≤ b) : One w' b v :=
  ⟨Nat.lt_of_lt_of_le h.blk k.size, by rw [cell_of_blk (k.block b h.blk hx)]; exact h.c0⟩
theorem Two.rng {w w' : World} {b lo hi : Nat} {x y : Value} (h : Two w b x y) (k : Rng lo hi w w') (hx : b < lo ∨ hi ≤ b) : Two w' b x y :=
  ⟨Nat.lt_of_lt_of_le h.blk k.size, by rw [cell_of_blk (k.block b h.blk hx)]; exact h.c0, by rw [cell_of_blk (k.block b h.blk hx)]; exact h.c1⟩
theorem ownsRow_rng {w w' : World} {B e size g n c lo hi : Nat} {xs : List Value} (h : w.ownsRow B e size (.slice (some ⟨g, 0, none⟩) n c) n xs) (k : Rng lo hi w w') (hx : g < lo ∨ hi ≤ g) : w'.ownsRow B e size (.slice (some ⟨g, 0, none⟩) n c) n xs := by
  refine ⟨h.1, h.2.imp id ?_⟩
  rintro ⟨g', cap, cur, h1, h2, h3, h4⟩
  have e' : g' = g := by simp at h1; exact h1.1.symm
  subst e'
  exact ⟨g', cap, cur, h1, h2, by rw [k.block g' (Array.getElem?_eq_some_iff.1 h3).1 hx]; exact h3, h4⟩
theorem OwnI.rng {w w' : World} {B g n c lo hi : Nat} {L : Nat → Int} {j : Nat} (h : OwnI w B g n c L j) (k : Rng lo hi w w') (hx : g < lo ∨ hi ≤ g) : OwnI w' B g n c L j := by
  obtain ⟨xs, ho, hz⟩ := h; exact ⟨xs, ownsRow_rng ho k hx, hz⟩

/-- How many numbers the first k lists have. -/
def sumM (D : LsL) : Nat → Nat
  | 0 => 0
  | k + 1 => sumM D k + D.m k

/-- Lists in memory of their own, between two numbers of blocks. -/
def OwnMR (w : World) (lo hi g n c : Nat) (D : LsL) : Prop :=
  lo ≤ g ∧ g < hi ∧ hi ≤ w.heap.size ∧ ∃ (xs : List Value) (G : Nat → Nat), w.ownsRow lo 26 1 (.slice (some ⟨g, 0, none⟩) n c) n xs ∧ (∀ i, i < n → ∃ d, xs[i]? = some (.slice (some ⟨G i, 0, none⟩) (D.m i) d) ∧ D.m i ≤ d ∧ lo ≤ G i ∧ G i < hi ∧ G i ≠ g ∧ OwnI w lo (G i) (D.m i) d (D.L i) (D.m i)) ∧ ∀ i j, i < j → j < n → G i < G j

theorem OwnM.between {w : World} {B g n c : Nat} {D : LsL} (h : OwnM w B g n c D n) : OwnMR w B w.heap.size g n c D := by
  have hl := h.lt
  obtain ⟨xs, G, ho, hx, hm⟩ := h
  refine ⟨(ho.lt g rfl).1, hl, Nat.le_refl _, xs, G, ho, fun i hi => ?_, hm⟩
  obtain ⟨d, a1, a2, a3, a4, a5⟩ := hx i hi
  exact ⟨d, a1, a2, a3, a5.lt, a4, a5⟩

theorem OwnMR.keep {w w' : World} {lo hi g n c : Nat} {D : LsL} (h : OwnMR w lo hi g n c D) (hb : Below w.heap.size w w') : OwnMR w' lo hi g n c D := by
  obtain ⟨h1, h2, h3, xs, G, ho, hx, hm⟩ := h
  refine ⟨h1, h2, Nat.le_trans h3 hb.size, xs, G, ownsRow_later ho hb (by omega), fun i hi => ?_, hm⟩
  obtain ⟨d, a1, a2, a3, a4, a5, a6⟩ := hx i hi
  exact ⟨d, a1, a2, a3, a4, a5, a6.keep hb⟩

theorem OwnMR.rng {w w' : World} {lo hi lo' hi' g n c : Nat} {D : LsL} (h : OwnMR w lo hi g n c D) (k : Rng lo' hi' w w') (hx : hi ≤ lo' ∨ hi' ≤ lo) : OwnMR w' lo hi g n c D := by
  obtain ⟨h1, h2, h3, xs, G, ho, hz, hm⟩ := h
  refine ⟨h1, h2, Nat.le_trans h3 k.size, xs, G, ownsRow_rng ho k (by omega), fun i hi => ?_, hm⟩
  obtain ⟨d, a1, a2, a3, a4, a5, a6⟩ := hz i hi
  exact ⟨d, a1, a2, a3, a4, a5, a6.rng k (by omega)⟩

theorem grown_rng {w w' : World} {g : Nat} (h : w.grownBy w' (some g)) : Rng g (g + 1) w w' := Rng.of h (Nat.le_refl _) (by omega)

theorem OwnMR.mats {w : World} {lo hi g n c : Nat} {D : LsL} (h : OwnMR w lo hi g n c D) : Mats w g 0 n D := by
  obtain ⟨h1, h2, h3, xs, G, ho, hx, _⟩ := h
  refine ⟨fun _ => by omega, fun i hi => ?_⟩
  obtain ⟨d, a1, a2, _, _, _, a6⟩ := hx i hi
  exact ⟨G i, 0, d, by rw [Nat.zero_add, ho.cellAt _ (by omega)]; exact a1, a6.ints, a2⟩

theorem OwnMR.one {w : World} {lo hi g n c : Nat} {D : LsL} (h : OwnMR w lo hi g n c D) {k : Nat} (hk : k < n) :
    ∃ G d, w.cell? ⟨g, k, none⟩ = some (.slice (some ⟨G, 0, none⟩) (D.m k) d) ∧ OwnI w lo G (D.m k) d (D.L k) (D.m k) ∧ lo ≤ G ∧ G < hi ∧
      ∀ (w' : World) (L' : Nat → Int), w.grownBy w' (some G) → OwnI w' lo G (D.m k) d L' (D.m k) → OwnMR w' lo hi g n c ⟨D.m, fun i => if i = k then L' else D.L i⟩ := by
  obtain ⟨h1, h2, h3, xs, G, ho, hx, hm⟩ := h
  obtain ⟨d, a1, a2, a3, a4, a5, a6⟩ := hx k hk
  refine ⟨G k, d, by rw [ho.cellAt _ (by omega)]; exact a1, a6, a3, a4, fun w' L' hg ho' => ⟨h1, h2, Nat.le_trans h3 hg.size, xs, G, ho.kept hg (Or.inr (by simp [Value.ownBlock]; omega)), fun i hi => ?_, hm⟩⟩
  by_cases e : i = k
  · subst e
    simp only [if_true]
    exact ⟨d, a1, a2, a3, a4, a5, ho'⟩
  · obtain ⟨d', b1, b2, b3, b4, b5, b6⟩ := hx i hi
    simp only [e, if_false]
    refine ⟨d', b1, b2, b3, b4, b5, b6.grown hg ?_⟩
    rcases Nat.lt_or_gt_of_ne e with hl | hl
    · have := hm i k hl hk; omega
    · have := hm k i hl hi; omega

/-- The lists, the first k of them marked from z on. -/
def mkD (z : Nat) (D : LsL) (k : Nat) : LsL := ⟨D.m, fun i => if i < k then mkI (z + sumM D i) else D.L i⟩

theorem mkD_step (z : Nat) (D : LsL) (k : Nat) : (⟨(mkD z D k).m, fun i => if i = k then mkI (z + sumM D k) else (mkD z D k).L i⟩ : LsL) = mkD z D (k + 1) := by
  simp only [mkD]
  congr 1
  funext i
  by_cases e : i = k
  · subst e; rw [if_pos rfl, if_pos (by omega)]
  · rw [if_neg e]
    by_cases h : i < k
    · rw [if_pos h, if_pos (by omega)]
    · rw [if_neg h, if_neg (by omega)]

theorem mkD_zero (z : Nat) (D : LsL) : mkD z D 0 = D := by simp [mkD]

theorem sumM_le (D : LsL) : ∀ {k n : Nat}, k ≤ n → sumM D k ≤ sumM D n := by
  intro k n h
  induction h with
  | refl => exact Nat.le_refl _
  | step _ ih => exact Nat.le_trans ih (Nat.le_add_right _ _)

/-- A binding in memory of its own. -/
structure OwnBd (w : World) (lo hi g1 m : Nat) (V : Nat → Int) (g2 t : Nat) (D : LsL) : Prop where
  base : lo ≤ g1
  up : g1 + 1 ≤ hi
  top : hi ≤ w.heap.size
  vars : OwnI w lo g1 m m V m
  terms : OwnMR w (g1 + 1) hi g2 t t D

theorem OwnBd.keep {w w' : World} {lo hi g1 m : Nat} {V : Nat → Int} {g2 t : Nat} {D : LsL} (h : OwnBd w lo hi g1 m V g2 t D) (hb : Below w.heap.size w w') : OwnBd w' lo hi g1 m V g2 t D :=
  ⟨h.base, h.up, Nat.le_trans h.top hb.size, h.vars.keep hb, h.terms.keep hb⟩
theorem OwnBd.rng {w w' : World} {lo hi g1 m lo' hi' : Nat} {V : Nat → Int} {g2 t : Nat} {D : LsL} (h : OwnBd w lo hi g1 m V g2 t D) (k : Rng lo' hi' w w') (hx : hi ≤ lo' ∨ hi' ≤ lo) : OwnBd w' lo hi g1 m V g2 t D :=
  ⟨h.base, h.up, Nat.le_trans h.top k.size, h.vars.rng k (by have := h.base; have := h.up; omega), h.terms.rng k (by have := h.base; omega)⟩
theorem OwnBd.grown {w w' : World} {lo hi g1 m g : Nat} {V : Nat → Int} {g2 t : Nat} {D : LsL} (h : OwnBd w lo hi g1 m V g2 t D) (k : w.grownBy w' (some g)) (hx : g < lo ∨ hi ≤ g) : OwnBd w' lo hi g1 m V g2 t D :=
  h.rng (grown_rng k) (by omega)

end Go.Proofs.Ytbdgnpjbmlcchaa

/- Contracts: a binding as an answer, in memory of its own: its comparison, its marks, and that they are held. -/
namespace Go.Proofs.Ytbdgnpjbmlcchaa
open Go.RowKit

/-- Lists in memory of their own, between two numbers of blocks, none of them in block no. -/
def OwnMX (w : World) (lo hi no g n c : Nat) (D : LsL) : Prop :=
  lo ≤ g ∧ g < hi ∧ hi ≤ w.heap.size ∧ g ≠ no ∧ ∃ (xs : List Value) (G : Nat → Nat), w.ownsRow lo 26 1 (.slice (some ⟨g, 0, none⟩) n c) n xs ∧ (∀ i, i < n → ∃ d, xs[i]? = some (.slice (some ⟨G i, 0, none⟩) (D.m i) d) ∧ D.m i ≤ d ∧ lo ≤ G i ∧ G i < hi ∧ G i ≠ g ∧ G i ≠ no ∧ OwnI w lo (G i) (D.m i) d (D.L i) (D.m i)) ∧ ∀ i j, i < j → j < n → G i < G j

theorem OwnMX.keep {w w' : World} {lo hi no g n c : Nat} {D : LsL} (h : OwnMX w lo hi no g n c D) (hb : Below w.heap.size w w') : OwnMX w' lo hi no g n c D := by
  obtain ⟨h1, h2, h3, h4, xs, G, ho, hx, hm⟩ := h
  refine ⟨h1, h2, Nat.le_trans h3 hb.size, h4, xs, G, ownsRow_later ho hb (by omega), fun i hi => ?_, hm⟩
  obtain ⟨d, a1, a2, a3, a4, a5, a6, a7⟩ := hx i hi
  exact ⟨d, a1, a2, a3, a4, a5, a6, a7.keep hb⟩

theorem OwnMX.rng {w w' : World} {lo hi no lo' hi' g n c : Nat} {D : LsL} (h : OwnMX w lo hi no g n c D) (k : Rng lo' hi' w w') (hx : hi ≤ lo' ∨ hi' ≤ lo) : OwnMX w' lo hi no g n c D := by
  obtain ⟨h1, h2, h3, h4, xs, G, ho, hz, hm⟩ := h
  refine ⟨h1, h2, Nat.le_trans h3 k.size, h4, xs, G, ownsRow_rng ho k (by omega), fun i hi => ?_, hm⟩
  obtain ⟨d, a1, a2, a3, a4, a5, a6, a7⟩ := hz i hi
  exact ⟨d, a1, a2, a3, a4, a5, a6, a7.rng k (by omega)⟩

/-- What is written into block no leaves it as it was. -/
theorem OwnMX.far {w w' : World} {lo hi no g n c : Nat} {D : LsL} (h : OwnMX w lo hi no g n c D) (k : w.grownBy w' (some no)) : OwnMX w' lo hi no g n c D := by
  obtain ⟨h1, h2, h3, h4, xs, G, ho, hz, hm⟩ := h
  refine ⟨h1, h2, Nat.le_trans h3 k.size, h4, xs, G, ho.kept k (Or.inr (by simp [Value.ownBlock]; omega)), fun i hi => ?_, hm⟩
  obtain ⟨d, a1, a2, a3, a4, a5, a6, a7⟩ := hz i hi
  exact ⟨d, a1, a2, a3, a4, a5, a6, a7.grown k a6⟩

theorem OwnMX.mats {w : World} {lo hi no g n c : Nat} {D : LsL} (h : OwnMX w lo hi no g n c D) : Mats w g 0 n D := by
  obtain ⟨h1, h2, h3, h4, xs, G, ho, hx, _⟩ := h
  refine ⟨fun _ => by omega, fun i hi => ?_⟩
  obtain ⟨d, a1, a2, _, _, _, _, a6⟩ := hx i hi
  exact ⟨G i, 0, d, by rw [Nat.zero_add, ho.cellAt _ (by omega)]; exact a1, a6.ints, a2⟩

theorem OwnMX.one {w : World} {lo hi no g n c : Nat} {D : LsL} (h : OwnMX w lo hi no g n c D) {k : Nat} (hk : k < n) :
    ∃ G d, w.cell? ⟨g, k, none⟩ = some (.slice (some ⟨G, 0, none⟩) (D.m k) d) ∧ OwnI w lo G (D.m k) d (D.L k) (D.m k) ∧ lo ≤ G ∧ G < hi ∧ G ≠ no ∧
      ∀ (w' : World) (L' : Nat → Int), w.grownBy w' (some G) → OwnI w' lo G (D.m k) d L' (D.m k) → OwnMX w' lo hi no g n c ⟨D.m, fun i => if i = k then L' else D.L i⟩ := by
  obtain ⟨h1, h2, h3, h4, xs, G, ho, hx, hm⟩ := h
  obtain ⟨d, a1, a2, a3, a4, a5, a6, a7⟩ := hx k hk
  refine ⟨G k, d, by rw [ho.cellAt _ (by omega)]; exact a1, a7, a3, a4, a6, fun w' L' hg ho' => ⟨h1, h2, Nat.le_trans h3 hg.size, h4, xs, G, ho.kept hg (Or.inr (by simp [Value.ownBlock]; omega)), fun i hi => ?_, hm⟩⟩
  by_cases e : i = k
  · subst e
    simp only [if_true]
    exact ⟨d, a1, a2, a3, a4, a5, a6, ho'⟩
  · obtain ⟨d', b1, b2, b3, b4, b5, b6, b7⟩ := hx i hi
    simp only [e, if_false]
    refine ⟨d', b1, b2, b3, b4, b5, b6, b7.grown hg ?_⟩
    rcases Nat.lt_or_gt_of_ne e with hl | hl
    · have := hm i k hl hk; omega
    · have := hm k i hl hi; omega

/-- What has turned lies between two numbers of blocks, and not in block no. -/
structure RngX (lo hi no : Nat) (w w' : World) : Prop where
  rng : Rng lo hi w w'
  far : no < w.heap.size → w'.heap[no]? = w.heap[no]?

theorem RngX.refl (lo hi no : Nat) (w : World) : RngX lo hi no w w := ⟨Rng.refl _ _ _, fun _ => rfl⟩
theorem RngX.trans {lo hi no : Nat} {a b c : World} (h : RngX lo hi no a b) (k : RngX lo hi no b c) : RngX lo hi no a c :=
  ⟨h.rng.trans k.rng, fun hn => (k.far (Nat.lt_of_lt_of_le hn h.rng.size)).trans (h.far hn)⟩

theorem OwnI.farX {w w' : World} {B g n c lo hi : Nat} {L : Nat → Int} {j : Nat} (h : OwnI w B g n c L j) (k : RngX lo hi g w w') : OwnI w' B g n c L j := by
  obtain ⟨xs, ho, hz⟩ := h
  refine ⟨xs, ⟨ho.1, ho.2.imp id ?_⟩, hz⟩
  rintro ⟨g', cap, cur, h1, h2, h3, h4⟩
  have e' : g' = g := by simp at h1; exact h1.1.symm
  subst e'
  exact ⟨g', cap, cur, h1, h2, by rw [k.far (Array.getElem?_eq_some_iff.1 h3).1]; exact h3, h4⟩

/-- A binding as an answer, in memory of its own. -/
structure OwnBx (w : World) (lo hi g1 m d1 : Nat) (V : Nat → Int) (g2 t d2 : Nat) (D : LsL) : Prop where
  base : lo ≤ g1
  up : g1 < hi
  top : hi ≤ w.heap.size
  vars : OwnI w lo g1 m d1 V m
  terms : OwnMX w lo hi g1 g2 t d2 D

theorem OwnBx.keep {w w' : World} {lo hi g1 m d1 : Nat} {V : Nat → Int} {g2 t d2 : Nat} {D : LsL} (h : OwnBx w lo hi g1 m d1 V g2 t d2 D) (hb : Below w.heap.size w w') : OwnBx w' lo hi g1 m d1 V g2 t d2 D :=
  ⟨h.base, h.up, Nat.le_trans h.top hb.size, h.vars.keep hb, h.terms.keep hb⟩
theorem OwnBx.rng {w w' : World} {lo hi g1 m d1 lo' hi' : Nat} {V : Nat → Int} {g2 t d2 : Nat} {D : LsL} (h : OwnBx w lo hi g1 m d1 V g2 t d2 D) (k : Rng lo' hi' w w') (hx : hi ≤ lo' ∨ hi' ≤ lo) : OwnBx w' lo hi g1 m d1 V g2 t d2 D :=
  ⟨h.base, h.up, Nat.le_trans h.top k.size, h.vars.rng k (by have := h.base; have := h.up; omega), h.terms.rng k hx⟩
theorem OwnBx.grown {w w' : World} {lo hi g1 m d1 g : Nat} {V : Nat → Int} {g2 t d2 : Nat} {D : LsL} (h : OwnBx w lo hi g1 m d1 V g2 t d2 D) (k : w.grownBy w' (some g)) (hx : g < lo ∨ hi ≤ g) : OwnBx w' lo hi g1 m d1 V g2 t d2 D :=
  h.rng (grown_rng k) (by omega)

end Go.Proofs.Ytbdgnpjbmlcchaa

/- Contracts: results that hold a binding: their comparison, marks, and that they are held. -/
namespace Go.Proofs.Ytbdgnpjbmlcchaa
open Go.RowKit

theorem Three.grown {w w' : World} {b g : Nat} {x y z : Value} (h : Three w b x y z) (hg : w.grownBy w' (some g)) (hne : b ≠ g) : Three w' b x y z :=
  ⟨Nat.lt_of_lt_of_le h.blk hg.size, by rw [cell_of_blk (hg.block b h.blk (by simpa using hne))]; exact h.c0, by rw [cell_of_blk (hg.block b h.blk (by simpa using hne))]; exact h.c1, by rw [cell_of_blk (hg.block b h.blk (by simpa using hne))]; exact h.c2⟩
theorem Three.rng {w w' : World} {b lo hi : Nat} {x y z : Value} (h : Three w b x y z) (k : Rng lo hi w w') (hx : b < lo ∨ hi ≤ b) : Three w' b x y z :=
  ⟨Nat.lt_of_lt_of_le h.blk k.size, by rw [cell_of_blk (k.block b h.blk hx)]; exact h.c0, by rw [cell_of_blk (k.block b h.blk hx)]; exact h.c1, by rw [cell_of_blk (k.block b h.blk hx)]; exact h.c2⟩

end Go.Proofs.Ytbdgnpjbmlcchaa

/- Plain facts: a binding that is made, variable by variable: where its rows lie. -/
namespace Go.Proofs.Ytbdgnpjbmlcchaa
open Go.RowKit

theorem ownsRow_setX {w : World} {B e n : Nat} {v : Value} {xs : List Value} (h : w.ownsRow B e 1 v n xs) (a : Addr) (u : Value) (ha : a.block < B) : (w.setCell a u).ownsRow B e 1 v n xs := by
  refine ⟨h.1, h.2.imp id ?_⟩
  rintro ⟨g', cap, cur, h1, h2, h3, h4⟩
  exact ⟨g', cap, cur, h1, h2, by rw [Below.heap_setCell w a u g' (by omega)]; exact h3, h4⟩

/-- The terms of a binding that is made: a row of lists, each of its own, none of them where the variables are. -/
def TmS (w : World) (B : Nat) (M : Nat → List Int) (k : Nat) (va ta : Value) : Prop :=
  ∃ (xs : List Value) (G : Nat → Nat), w.ownsRow B 26 1 ta (cnL M k).length xs ∧ (∀ i, i < (cnL M k).length → ∃ d, xs[i]? = some (.slice (some ⟨G i, 0, none⟩) ((cnD M k).m i) d) ∧ (cnD M k).m i ≤ d ∧ B ≤ G i ∧ ta.ownBlock ≠ some (G i) ∧ va.ownBlock ≠ some (G i) ∧ OwnI w B (G i) ((cnD M k).m i) d ((cnD M k).L i) ((cnD M k).m i)) ∧ ∀ i j, i < j → j < (cnL M k).length → G i < G j

/-- A binding that is made, of the variables below k. -/
structure BySt (w : World) (B X : Nat) (M : Nat → List Int) (k : Nat) (va ta : Value) : Prop where
  box : Own2 w X va ta
  low : X < B
  top : B ≤ w.heap.size
  vars : w.ownsRow B 2 1 va (cnL M k).length ((cnL M k).map (fun x => Value.int .i64 x))
  terms : TmS w B M k va ta
  apart : ∀ q, va.ownBlock = some q → ta.ownBlock ≠ some q
  full : 0 < (cnL M k).length → ¬ va = .slice none 0 0 ∧ ¬ ta = .slice none 0 0

theorem TmS.keep {w w' : World} {B : Nat} {M : Nat → List Int} {k : Nat} {va ta : Value} (h : TmS w B M k va ta) (hb : Below w.heap.size w w') : TmS w' B M k va ta := by
  obtain ⟨xs, G, ho, hx, hm⟩ := h
  refine ⟨xs, G, ownsRow_upon ho hb, fun i hi => ?_, hm⟩
  obtain ⟨d, a1, a2, a3, a4, a5, a6⟩ := hx i hi
  exact ⟨d, a1, a2, a3, a4, a5, a6.keep hb⟩

theorem BySt.keep {w w' : World} {B X : Nat} {M : Nat → List Int} {k : Nat} {va ta : Value} (h : BySt w B X M k va ta) (hb : Below w.heap.size w w') : BySt w' B X M k va ta :=
  ⟨h.box.keep hb, h.low, Nat.le_trans h.top hb.size, ownsRow_upon h.vars hb, h.terms.keep hb, h.apart, h.full⟩

theorem BySt.start (w : World) (B X : Nat) (M : Nat → List Int) (h : Own2 w X (.slice none 0 0) (.slice none 0 0)) (hl : X < B) (ht : B ≤ w.heap.size) : BySt w B X M 0 (.slice none 0 0) (.slice none 0 0) :=
  ⟨h, hl, ht, World.ownsRow_nil _ _ _ _, ⟨[], fun _ => 0, World.ownsRow_nil _ _ _ _, fun i hi => by simp [cnL, flt] at hi, fun i j _ hj => by simp [cnL, flt] at hj⟩, fun q hq => by simp [Value.ownBlock] at hq, fun hh => by simp [cnL, flt] at hh⟩

theorem cn_same {M : Nat → List Int} {k : Nat} (h : hasB M k = false) : cnL M (k + 1) = cnL M k := by
  rw [cnL_step, if_neg (by rw [h]; decide)]

/-- A variable for which nothing stands. -/
theorem BySt.skip {w : World} {B X : Nat} {M : Nat → List Int} {k : Nat} {va ta : Value} (h : BySt w B X M k va ta) (hn : hasB M k = false) : BySt w B X M (k + 1) va ta := by
  have e := cn_same hn
  have e2 : cnD M (k + 1) = cnD M k := by simp only [cnD, e]
  refine ⟨h.box, h.low, h.top, by rw [e]; exact h.vars, ?_, h.apart, by rw [e]; exact h.full⟩
  have := h.terms
  unfold TmS at this ⊢
  rw [e, e2]
  exact this

/-- What a binding that is made has in the end. -/
theorem BySt.done {w : World} {B X : Nat} {M : Nat → List Int} {k : Nat} {va ta : Value} (h : BySt w B X M k va ta) (hl : 0 < (cnL M k).length) :
    ∃ g1 d1 g2 d2, va = .slice (some ⟨g1, 0, none⟩) (cnL M k).length d1 ∧ ta = .slice (some ⟨g2, 0, none⟩) (cnL M k).length d2 ∧ OwnBx w B w.heap.size g1 (cnL M k).length d1 (fun i => (cnL M k).getD i 0) g2 (cnL M k).length d2 (cnD M k) := by
  obtain ⟨n1, n2⟩ := h.full hl
  have hv := h.vars
  obtain ⟨xs, G, ho, hx, hm⟩ := h.terms
  rcases hv.2 with ⟨e, _⟩ | ⟨g1, d1, cur, rfl, hg1, _⟩
  · exact absurd e n1
  rcases ho.2 with ⟨e, _⟩ | ⟨g2, d2, cur2, rfl, hg2, _⟩
  · exact absurd e n2
  have l1 := (hv.lt g1 rfl).2
  have l2 := (ho.lt g2 rfl).2
  have ap := h.apart g1 rfl
  refine ⟨g1, d1, g2, d2, rfl, rfl, hg1, l1, Nat.le_refl _, ⟨_, hv, fun i hi => by simp [List.getElem?_eq_getElem hi]⟩, hg2, l2, Nat.le_refl _, fun e => ap (by simp [Value.ownBlock, e]), xs, G, ho, fun i hi => ?_, hm⟩
  obtain ⟨d, a1, a2, a3, a4, a5, a6⟩ := hx i hi
  exact ⟨d, a1, a2, a3, a6.lt, fun e => a4 (by simp [Value.ownBlock, e]), fun e => a5 (by simp [Value.ownBlock, e]), a6⟩

end Go.Proofs.Ytbdgnpjbmlcchaa

/- Plain facts: one variable more in a binding that is made. -/
namespace Go.Proofs.Ytbdgnpjbmlcchaa
open Go.RowKit

theorem OwnI.grownO {w w' : World} {B g n c : Nat} {L : Nat → Int} {j : Nat} {row : Option Nat} (h : OwnI w B g n c L j) (hg : w.grownBy w' row) (hne : row ≠ some g) : OwnI w' B g n c L j := by
  obtain ⟨xs, ho, hz⟩ := h
  exact ⟨xs, ho.kept hg (Or.inr (by simp only [Value.ownBlock]; exact fun e => hne e.symm)), hz⟩

theorem Own2.grownO {w w' : World} {X : Nat} {x y : Value} {row : Option Nat} (h : Own2 w X x y) (hg : w.grownBy w' row) (hne : row ≠ some X) : Own2 w' X x y := by
  have hb := hg.block X h.two.blk (fun e => hne e.symm)
  refine ⟨⟨Nat.lt_of_lt_of_le h.two.blk hg.size, by rw [cell_of_blk hb]; exact h.two.c0, by rw [cell_of_blk hb]; exact h.two.c1⟩, ?_, ?_⟩
  · rw [World.frozen?_of_block hb]; exact h.f0
  · rw [World.frozen?_of_block hb]; exact h.f1

/-- The variables have one more, the terms not yet. -/
structure MidSt (w : World) (B X : Nat) (M : Nat → List Int) (k : Nat) (va ta : Value) : Prop where
  box : Own2 w X va ta
  low : X < B
  top : B ≤ w.heap.size
  vars : w.ownsRow B 2 1 va (cnL M (k + 1)).length ((cnL M (k + 1)).map (fun x => Value.int .i64 x))
  terms : TmS w B M k va ta
  apart : ∀ q, va.ownBlock = some q → ta.ownBlock ≠ some q
  held : ¬ va = .slice none 0 0

theorem MidSt.keep {w w' : World} {B X : Nat} {M : Nat → List Int} {k : Nat} {va ta : Value} (h : MidSt w B X M k va ta) (hb : Below w.heap.size w w') : MidSt w' B X M k va ta :=
  ⟨h.box.keep hb, h.low, Nat.le_trans h.top hb.size, ownsRow_upon h.vars hb, h.terms.keep hb, h.apart, h.held⟩

theorem block_lt {w : World} {B e n : Nat} {v : Value} {xs : List Value} (h : w.ownsRow B e 1 v n xs) : ∀ q, v.ownBlock = some q → B ≤ q ∧ q < w.heap.size := h.lt

theorem BySt.mid {w wa w' : World} {B X : Nat} {M : Nat → List Int} {k : Nat} {va ta : Value} (h : BySt w B X M k va ta) (hk : hasB M k = true) (hb : Below w.heap.size w wa) (hg : wa.grownBy w' va.ownBlock) {g cap : Nat}
    (ho : w'.ownsRow B 2 1 (.slice (some ⟨g, 0, none⟩) ((cnL M k).length + 1) cap) ((cnL M k).length + 1) ((cnL M k).map (fun x => Value.int .i64 x) ++ [.int .i64 (k : Int)])) (hat : va.ownBlock = some g ∨ g = wa.heap.size) :
    MidSt (w'.setCell ⟨X, 0, none⟩ (.slice (some ⟨g, 0, none⟩) ((cnL M k).length + 1) cap)) B X M k (.slice (some ⟨g, 0, none⟩) ((cnL M k).length + 1) cap) ta := by
  have e : cnL M (k + 1) = cnL M k ++ [(k : Int)] := by rw [cnL_step, if_pos hk]
  have ha := h.keep hb
  have hX := ha.low
  have nX : va.ownBlock ≠ some X := fun ee => by have := (block_lt ha.vars X ee).1; omega
  have lg := ho.lt g rfl
  have bx := (ha.box.grownO hg nX).set0 (.slice (some ⟨g, 0, none⟩) ((cnL M k).length + 1) cap)
  obtain ⟨xs, G, h1, h2, h3⟩ := ha.terms
  have nT : ta.ownBlock = none ∨ ta.ownBlock ≠ va.ownBlock := by
    cases ev : va.ownBlock with
    | none => cases et : ta.ownBlock <;> simp
    | some q => exact Or.inr (ha.apart q ev)
  refine ⟨bx, h.low, by simp; exact Nat.le_trans ha.top hg.size, ?_, ⟨xs, G, ownsRow_setX (h1.kept hg nT) _ _ hX, fun i hi => ?_, h3⟩, fun q hq => ?_, by simp⟩
  · rw [e, List.length_append, List.map_append]
    exact ownsRow_setX ho _ _ hX
  · obtain ⟨d, a1, a2, a3, a4, a5, a6⟩ := h2 i hi
    refine ⟨d, a1, a2, a3, a4, ?_, (a6.grownO hg a5).other _ _ (by show G i ≠ X; omega)⟩
    intro ee
    have eg : g = G i := by simpa [Value.ownBlock] using ee
    rcases hat with hh | hh
    · exact a5 (by rw [hh, eg])
    · have := a6.lt; omega
  · have eg : g = q := by simpa [Value.ownBlock] using hq
    subst eg
    intro et
    rcases hat with hh | hh
    · exact ha.apart g hh et
    · have := (block_lt h1 g et).2; omega

theorem MidSt.fin {w wa w' : World} {B X : Nat} {M : Nat → List Int} {k : Nat} {va ta : Value} (h : MidSt w B X M k va ta) (hk : hasB M k = true) (hb : Below w.heap.size w wa) (hg : wa.grownBy w' ta.ownBlock) {g cap gc dc Bc : Nat} {xs : List Value} {G : Nat → Nat}
    (hx1 : wa.ownsRow B 26 1 ta (cnL M k).length xs) (hx2 : ∀ i, i < (cnL M k).length → ∃ d, xs[i]? = some (.slice (some ⟨G i, 0, none⟩) ((cnD M k).m i) d) ∧ (cnD M k).m i ≤ d ∧ B ≤ G i ∧ ta.ownBlock ≠ some (G i) ∧ va.ownBlock ≠ some (G i) ∧ G i < w.heap.size ∧ OwnI wa B (G i) ((cnD M k).m i) d ((cnD M k).L i) ((cnD M k).m i)) (hx3 : ∀ i j, i < j → j < (cnL M k).length → G i < G j)
    (hc : w.heap.size ≤ gc) (oc : OwnI wa Bc gc (M k).length dc (fun i => (M k).getD i 0) (M k).length) (hd : (M k).length ≤ dc)
    (ho : w'.ownsRow B 26 1 (.slice (some ⟨g, 0, none⟩) ((cnL M k).length + 1) cap) ((cnL M k).length + 1) (xs ++ [.slice (some ⟨gc, 0, none⟩) (M k).length dc])) (hat : ta.ownBlock = some g ∨ g = wa.heap.size) :
    BySt (w'.setCell ⟨X, 1, none⟩ (.slice (some ⟨g, 0, none⟩) ((cnL M k).length + 1) cap)) B X M (k + 1) va (.slice (some ⟨g, 0, none⟩) ((cnL M k).length + 1) cap) := by
  have e : cnL M (k + 1) = cnL M k ++ [(k : Int)] := by rw [cnL_step, if_pos hk]
  have el : (cnL M (k + 1)).length = (cnL M k).length + 1 := by rw [e]; simp
  have ha := h.keep hb
  have hX := ha.low
  have htop := h.top
  have hbs := hb.size
  have nX : ta.ownBlock ≠ some X := fun ee => by have := (block_lt hx1 X ee).1; omega
  have bx := (ha.box.grownO hg nX).set1 (.slice (some ⟨g, 0, none⟩) ((cnL M k).length + 1) cap)
  have nV : va.ownBlock = none ∨ va.ownBlock ≠ ta.ownBlock := by
    cases ev : va.ownBlock with
    | none => exact Or.inl rfl
    | some q => exact Or.inr (fun ee => ha.apart q ev ee.symm)
  have gV : ∀ q, va.ownBlock = some q → q < w.heap.size := fun q hq => (block_lt h.vars q hq).2
  have gT : ∀ q, ta.ownBlock = some q → q < w.heap.size := fun q hq => by
    obtain ⟨ys, _, h1, _⟩ := h.terms
    exact (block_lt h1 q hq).2
  have hlen : xs.length = (cnL M k).length * 1 := hx1.1
  have mL : ∀ i, i < (cnL M k).length → (cnD M (k + 1)).m i = (cnD M k).m i ∧ (cnD M (k + 1)).L i = (cnD M k).L i := fun i hi => by
    simp only [cnD]; rw [cnD_ahead hi]; exact ⟨rfl, rfl⟩
  have mK : (cnD M (k + 1)).m (cnL M k).length = (M k).length ∧ (cnD M (k + 1)).L (cnL M k).length = fun j => (M k).getD j 0 := by
    simp only [cnD]; rw [cnD_last hk]; exact ⟨by simp, by simp⟩
  refine ⟨bx, h.low, by simp; exact Nat.le_trans ha.top hg.size, ownsRow_setX (ha.vars.kept hg nV) _ _ hX, ⟨_, fun i => if i = (cnL M k).length then gc else G i, by rw [el]; exact ownsRow_setX ho _ _ hX, fun i hi => ?_, fun i j hij hj => ?_⟩, fun q hq => ?_, fun _ => ⟨h.held, by simp⟩⟩
  · rw [el] at hi
    by_cases ei : i = (cnL M k).length
    · subst ei
      simp only [if_true]
      rw [mK.1, mK.2]
      refine ⟨dc, by rw [List.getElem?_append_right (by omega)]; simp [hlen], hd, by omega, ?_, fun ee => by have := gV gc ee; omega, ((oc.grownO hg (fun ee => by have := gT gc ee; omega)).other _ _ (by show gc ≠ X; omega)).base (by omega)⟩
      intro ee
      have eg : g = gc := by simpa [Value.ownBlock] using ee
      rcases hat with hh | hh
      · have := gT g hh; omega
      · have := oc.lt; omega
    · obtain ⟨d, a1, a2, a3, a4, a5, a7, a6⟩ := hx2 i (by omega)
      simp only [ei, if_false]
      rw [(mL i (by omega)).1, (mL i (by omega)).2]
      refine ⟨d, by rw [List.getElem?_append_left (by omega)]; exact a1, a2, a3, ?_, a5, (a6.grownO hg a4).other _ _ (by show G i ≠ X; omega)⟩
      intro ee
      have eg : g = G i := by simpa [Value.ownBlock] using ee
      rcases hat with hh | hh
      · exact a4 (by rw [hh, eg])
      · have := a6.lt; omega
  · rw [el] at hj
    have hi' : i ≠ (cnL M k).length := by omega
    simp only [hi', if_false]
    by_cases ej : j = (cnL M k).length
    · simp only [ej, if_true]
      obtain ⟨_, _, _, _, _, _, a7, _⟩ := hx2 i (by omega)
      omega
    · simp only [ej, if_false]; exact hx3 i j hij (by omega)
  · intro et
    have eg : g = q := by simpa [Value.ownBlock] using et
    subst eg
    rcases hat with hh | hh
    · exact ha.apart g hq hh
    · have := gV g hq; omega

end Go.Proofs.Ytbdgnpjbmlcchaa
