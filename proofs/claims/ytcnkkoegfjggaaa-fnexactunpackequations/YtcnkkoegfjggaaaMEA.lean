/- Several texts as one: Eqn, SameT, Mat, Rng, Eqs, EqsM, EqsN. -/
import Derived.Test.YtcnkkoegfjggaaaTermF
import Derived.Test.YtcnkkoegfjggaaaIntsRes
import Derived.Test.YtcnkkoegfjggaaaInts
/- Contracts: equations: how great they are, their copies and their comparison. -/
namespace Go.Proofs.Ytcnkkoegfjggaaa
open Go.RowKit

/-- A block of two cells that may be written. -/
structure Own2 (w : World) (b : Nat) (x y : Value) : Prop where
  two : Two w b x y
  f0 : w.frozen? ⟨b, 0, none⟩ = false
  f1 : w.frozen? ⟨b, 1, none⟩ = false

theorem Own2.new (w : World) (x y : Value) (t : TypeId) : Own2 (w.alloc (.cells #[x, y] t)) w.heap.size x y := by
  refine ⟨Two.new w x y t, ?_, ?_⟩ <;> simp [go_sem]

theorem Own2.keep {w w' : World} {b : Nat} {x y : Value} (h : Own2 w b x y) (hb : Below w.heap.size w w') : Own2 w' b x y :=
  ⟨h.two.keep hb, by rw [(bcell hb).2 _ _ h.two.blk]; exact h.f0, by rw [(bcell hb).2 _ _ h.two.blk]; exact h.f1⟩

theorem Own2.set0 {w : World} {b : Nat} {x y : Value} (h : Own2 w b x y) (v : Value) : Own2 (w.setCell ⟨b, 0, none⟩ v) b v y :=
  ⟨⟨by simpa using h.two.blk, World.cell?_setCell_same _ _ _ h.two.c0, by rw [World.cell?_setCell_other _ _ _ _ (by simp)]; exact h.two.c1⟩, by simpa [go_sem] using h.f0, by simpa [go_sem] using h.f1⟩

theorem Own2.set1 {w : World} {b : Nat} {x y : Value} (h : Own2 w b x y) (v : Value) : Own2 (w.setCell ⟨b, 1, none⟩ v) b x v :=
  ⟨⟨by simpa using h.two.blk, by rw [World.cell?_setCell_other _ _ _ _ (by simp)]; exact h.two.c0, World.cell?_setCell_same _ _ _ h.two.c1⟩, by simpa [go_sem] using h.f0, by simpa [go_sem] using h.f1⟩

theorem Own2.other {w : World} {b : Nat} {x y : Value} (h : Own2 w b x y) (a : Addr) (v : Value) (hne : b ≠ a.block) : Own2 (w.setCell a v) b x y :=
  ⟨⟨by simpa using h.two.blk, by rw [World.cell?_setCell_other _ _ _ _ (by intro e; exact hne (by rw [e]))]; exact h.two.c0, by rw [World.cell?_setCell_other _ _ _ _ (by intro e; exact hne (by rw [e]))]; exact h.two.c1⟩, by simpa [go_sem] using h.f0, by simpa [go_sem] using h.f1⟩

theorem Two.other {w : World} {b : Nat} {x y : Value} (h : Two w b x y) (a : Addr) (v : Value) (hne : b ≠ a.block) : Two (w.setCell a v) b x y :=
  ⟨by simpa using h.blk, by rw [World.cell?_setCell_other _ _ _ _ (by intro e; exact hne (by rw [e]))]; exact h.c0, by rw [World.cell?_setCell_other _ _ _ _ (by intro e; exact hne (by rw [e]))]; exact h.c1⟩

set_option maxRecDepth 20000 in
set_option maxHeartbeats 400000 in
theorem eqEquation_eq (b1 o1 b2 o2 m1 c1 m2 c2 b3 o3 b4 o4 c3 c4 : Nat) (L1 L2 : Nat → Int) (w : World) (h1 : Ints w b1 o1 m1 L1) (h2 : Ints w b2 o2 m2 L2) (h3 : Ints w b3 o3 m1 L1) (h4 : Ints w b4 o4 m2 L2) (hm1 : m1 ≤ 1048576) (hm2 : m2 ≤ 1048576) :
    Calls Try.prog 80 #[.agg #[.slice (some ⟨b1, o1, none⟩) m1 c1, .slice (some ⟨b2, o2, none⟩) m2 c2], .agg #[.slice (some ⟨b3, o3, none⟩) m1 c3, .slice (some ⟨b4, o4, none⟩) m2 c4]] w fun e w' => e = .returned (.bool true) ∧ Below w.heap.size w w' := by
  have A1 := hidden (alloc_below w (.cells #[.slice (some ⟨b1, o1, none⟩) m1 c1, .slice (some ⟨b2, o2, none⟩) m2 c2] 76))
  have X1 := hidden (Two.new w (.slice (some ⟨b1, o1, none⟩) m1 c1) (.slice (some ⟨b2, o2, none⟩) m2 c2) 76)
  have A2 := hidden (alloc_below (w.alloc (.cells #[.slice (some ⟨b1, o1, none⟩) m1 c1, .slice (some ⟨b2, o2, none⟩) m2 c2] 76)) (.cells #[.slice (some ⟨b3, o3, none⟩) m1 c3, .slice (some ⟨b4, o4, none⟩) m2 c4] 76))
  have X2 := hidden (Two.new (w.alloc (.cells #[.slice (some ⟨b1, o1, none⟩) m1 c1, .slice (some ⟨b2, o2, none⟩) m2 c2] 76)) (.slice (some ⟨b3, o3, none⟩) m1 c3) (.slice (some ⟨b4, o4, none⟩) m2 c4) 76)
  replace X1 := hidden (X1.out.keep A2.out)
  have B := hidden (keepB A1.out A2.out)
  have H1 := hidden (h1.keep B.out)
  have H2 := hidden (h2.keep B.out)
  have H3 := hidden (h3.keep B.out)
  have H4 := hidden (h4.keep B.out)
  clear h1 h2 h3 h4
  go_enter Try.func80, Try.ntmps80
  go_wp2_with fail
  with_reducible refine (eqInt64S_eq _ _ _ _ _ _ _ L1 _ H1.out H3.out hm1).mono ?_
  rintro e w1 ⟨rfl, hb⟩
  replace B := hidden (keepB B.out hb)
  replace H2 := hidden (H2.out.keep hb)
  replace H4 := hidden (H4.out.keep hb)
  replace X1 := hidden (X1.out.keep hb)
  replace X2 := hidden (X2.out.keep hb)
  clear hb H1 H3
  have x1 := X1.out.c1
  have x2 := X2.out.c1
  simp only [World.size_alloc] at x1 x2
  go_wp2_with fail
  with_reducible refine (eqInt64S_eq _ _ _ _ _ _ _ L2 _ H2.out H4.out hm2).mono ?_
  rintro e w2 ⟨rfl, hb⟩
  replace B := hidden (keepB B.out hb)
  clear hb
  go_wp2
  go_ret
  exact ⟨rfl, B.out⟩

end Go.Proofs.Ytcnkkoegfjggaaa

/- Contracts: whether two lists of numbers are the same, as the model and as the program tells it. -/
namespace Go.Proofs.Ytcnkkoegfjggaaa
open Go.RowKit

open Classical in
noncomputable def sameI (m k : Nat) (L M : Nat → Int) : Bool := decide (m = k ∧ ∀ i, i < m → L i = M i)

end Go.Proofs.Ytcnkkoegfjggaaa

/- Contracts: lists of lists of numbers: how great they are, their copies and their comparison. -/
namespace Go.Proofs.Ytcnkkoegfjggaaa
open Go.RowKit

/-- The lists of a list: how long they are, and their numbers. -/
structure LsL where
  m : Nat → Nat
  L : Nat → Nat → Int

/-- Lists that came in, in a row. -/
structure RowM (w : World) (b off n : Nat) (D : LsL) : Prop where
  blk : 0 < n → b < w.heap.size
  row : ∀ i, i < n → ∃ p c, w.cell? ⟨b, off + i, none⟩ = some (.slice p (D.m i) c) ∧ SrcI w p (D.m i) (D.L i) ∧ D.m i ≤ maxLen

theorem RowM.keep {w w' : World} {b off n : Nat} {D : LsL} (h : RowM w b off n D) (hb : Below w.heap.size w w') : RowM w' b off n D :=
  ⟨fun h0 => Nat.lt_of_lt_of_le (h.blk h0) hb.size, fun i hi => by
    obtain ⟨p1, c1, h1, h3, h5⟩ := h.row i hi
    have hk := h.blk (by omega)
    exact ⟨p1, c1, by rw [(bcell hb).1 _ _ hk]; exact h1, h3.keep hb, h5⟩⟩

/-- What came in: no list, or a row of them. -/
def SrcM (w : World) (p : Option Addr) (n : Nat) (D : LsL) : Prop :=
  n ≤ maxLen ∧ (n = 0 ∨ ∃ b off, p = some ⟨b, off, none⟩ ∧ RowM w b off n D)

theorem SrcM.keep {w w' : World} {p : Option Addr} {n : Nat} {D : LsL} (h : SrcM w p n D) (hb : Below w.heap.size w w') : SrcM w' p n D :=
  ⟨h.1, h.2.imp id fun ⟨b, off, hp, hs⟩ => ⟨b, off, hp, hs.keep hb⟩⟩

/-- Copies of lists, in a row. -/
structure Mats (w : World) (b off n : Nat) (D : LsL) : Prop where
  blk : 0 < n → b < w.heap.size
  row : ∀ i, i < n → ∃ g o c, w.cell? ⟨b, off + i, none⟩ = some (.slice (some ⟨g, o, none⟩) (D.m i) c) ∧ Ints w g o (D.m i) (D.L i) ∧ D.m i ≤ c

theorem Mats.keep {w w' : World} {b off n : Nat} {D : LsL} (h : Mats w b off n D) (hb : Below w.heap.size w w') : Mats w' b off n D :=
  ⟨fun h0 => Nat.lt_of_lt_of_le (h.blk h0) hb.size, fun i hi => by
    obtain ⟨g1, o1, c1, h1, h3, h4⟩ := h.row i hi
    have hk := h.blk (by omega)
    exact ⟨g1, o1, c1, by rw [(bcell hb).1 _ _ hk]; exact h1, h3.keep hb, h4⟩⟩

/-- What a law copies. -/
structure KeptM (n : Nat) (D : LsL) : Prop where
  most : n ≤ 1048576
  m : ∀ i, i < n → D.m i ≤ 1048576

/-- A row of copies in memory of its own, of which the first k are known; each lies behind those ahead of it. -/
def OwnM (w : World) (B g n c : Nat) (D : LsL) (k : Nat) : Prop :=
  ∃ (xs : List Value) (G : Nat → Nat), w.ownsRow B 25 1 (.slice (some ⟨g, 0, none⟩) n c) n xs ∧ (∀ i, i < k → ∃ d, xs[i]? = some (.slice (some ⟨G i, 0, none⟩) (D.m i) d) ∧ D.m i ≤ d ∧ B ≤ G i ∧ G i ≠ g ∧ OwnI w B (G i) (D.m i) d (D.L i) (D.m i)) ∧ ∀ i j, i < j → j < k → G i < G j

theorem OwnM.lt {w : World} {B g n c : Nat} {D : LsL} {k : Nat} (h : OwnM w B g n c D k) : g < w.heap.size := by
  obtain ⟨xs, G, ho, _⟩ := h; exact (ho.lt g rfl).2

theorem OwnM.keep {w w' : World} {B g n c : Nat} {D : LsL} {k : Nat} (h : OwnM w B g n c D k) (hb : Below w.heap.size w w') : OwnM w' B g n c D k := by
  have hl := h.lt
  obtain ⟨xs, G, ho, hx, hm⟩ := h
  refine ⟨xs, G, ownsRow_later ho hb hl, fun i hi => ?_, hm⟩
  obtain ⟨d, a1, a2, a3, a4, a5⟩ := hx i hi
  exact ⟨d, a1, a2, a3, a4, a5.keep hb⟩

theorem OwnM.mats {w : World} {B g n c : Nat} {D : LsL} (h : OwnM w B g n c D n) : Mats w g 0 n D := by
  have hl := h.lt
  obtain ⟨xs, G, ho, hx, _⟩ := h
  refine ⟨fun _ => hl, fun i hi => ?_⟩
  obtain ⟨d, a1, a2, _, _, a5⟩ := hx i hi
  exact ⟨G i, 0, d, by rw [Nat.zero_add, ho.cellAt _ (by omega)]; exact a1, a5.ints, a2⟩

theorem OwnM.put {w w1 : World} {B g n c : Nat} {D : LsL} {k : Nat} (h : OwnM w B g n c D k) (hb : Below w.heap.size w w1) (hk : k < n) {g1 d1 : Nat} (l1 : w.heap.size ≤ g1) (l2 : D.m k ≤ d1) (hB : B ≤ w.heap.size) {B' : Nat} (i1 : OwnI w1 B' g1 (D.m k) d1 (D.L k) (D.m k)) :
    (∃ u0, w1.cell? ⟨g, k, none⟩ = some u0) ∧ w1.frozen? ⟨g, k, none⟩ = false ∧
    OwnM (w1.setCell ⟨g, k, none⟩ (.slice (some ⟨g1, 0, none⟩) (D.m k) d1)) B g n c D (k + 1) ∧
    w1.grownBy (w1.setCell ⟨g, k, none⟩ (.slice (some ⟨g1, 0, none⟩) (D.m k) d1)) (some g) := by
  have hl := h.lt
  have h1 := h.keep hb
  obtain ⟨xs, G, ho0, hx0, hm0⟩ := h
  have ho := ownsRow_later ho0 hb hl
  obtain ⟨o1, e1⟩ := ho.stored k (.slice (some ⟨g1, 0, none⟩) (D.m k) d1)
  have hlen : xs.length = n * 1 := ho.1
  refine ⟨⟨_, (ho.cellAt k (by omega)).trans (List.getElem?_eq_getElem (by omega))⟩, ho.frozenAt _, ⟨_, fun i => if i = k then g1 else G i, o1, fun i hi => ?_, fun i j hij hj => ?_⟩, e1⟩
  · by_cases e : i = k
    · subst e
      simp only [if_true]
      exact ⟨d1, by rw [List.getElem?_set_self (by omega)], l2, by omega, by omega, ((i1.base (by omega)).other _ _ (by simp; omega))⟩
    · obtain ⟨d, a1, a2, a3, a4, a5⟩ := hx0 i (by omega)
      simp only [e, if_false]
      exact ⟨d, by rw [List.getElem?_set_ne (by omega)]; exact a1, a2, a3, a4, ((a5.keep hb).other _ _ (by simpa using a4))⟩
  · have hne : i ≠ k := by omega
    obtain ⟨d, _, _, _, _, a5⟩ := hx0 i (by omega)
    have := a5.lt
    simp only [hne, if_false]
    by_cases e : j = k
    · simp only [e, if_true]; omega
    · simp only [e, if_false]; exact hm0 i j hij (by omega)

end Go.Proofs.Ytcnkkoegfjggaaa

/- Plain facts: what has turned lies between two numbers of blocks. -/
namespace Go.Proofs.Ytcnkkoegfjggaaa
open Go.RowKit

/-- Nothing but blocks from lo to hi has turned. -/
structure Rng (lo hi : Nat) (w w' : World) : Prop where
  os : w'.os = w.os
  tape : w'.tape = w.tape
  output : w'.output = w.output
  size : w.heap.size ≤ w'.heap.size
  block : ∀ k, k < w.heap.size → (k < lo ∨ hi ≤ k) → w'.heap[k]? = w.heap[k]?

theorem Rng.refl (lo hi : Nat) (w : World) : Rng lo hi w w := ⟨rfl, rfl, rfl, Nat.le_refl _, fun _ _ _ => rfl⟩
theorem Rng.trans {lo hi : Nat} {a b c : World} (h : Rng lo hi a b) (k : Rng lo hi b c) : Rng lo hi a c :=
  ⟨k.os.trans h.os, k.tape.trans h.tape, k.output.trans h.output, Nat.le_trans h.size k.size, fun j hj hx => (k.block j (Nat.lt_of_lt_of_le hj h.size) hx).trans (h.block j hj hx)⟩
theorem Rng.of {lo hi g : Nat} {a b : World} (h : a.grownBy b (some g)) (h1 : lo ≤ g) (h2 : g < hi) : Rng lo hi a b :=
  ⟨h.os, h.tape, h.output, h.size, fun j hj hx => h.block j hj (by intro e; simp at e; omega)⟩
theorem Rng.by {lo hi : Nat} {a b : World} (h : Below a.heap.size a b) : Rng lo hi a b :=
  ⟨h.os, h.tape, h.output, h.size, fun j hj _ => h.block j hj⟩
theorem Rng.below {lo hi : Nat} {w a b : World} (h : Below w.heap.size w a) (k : Rng lo hi a b) (hl : w.heap.size ≤ lo) : Below w.heap.size w b :=
  ⟨k.os.trans h.os, k.tape.trans h.tape, k.output.trans h.output, Nat.le_trans h.size k.size, fun j hj => (k.block j (Nat.lt_of_lt_of_le hj h.size) (Or.inl (by omega))).trans (h.block j hj)⟩

theorem cell_of_blk {w w' : World} {b o : Nat} (h : w'.heap[b]? = w.heap[b]?) : w'.cell? ⟨b, o, none⟩ = w.cell? ⟨b, o, none⟩ := by
  unfold World.cell?; simp only [h]

theorem One.rng {w w' : World} {b lo hi : Nat} {v : Value} (h : One w b v) (k : Rng lo hi w w') (hx : b < lo ∨ hi ≤ b) : One w' b v :=
  ⟨Nat.lt_of_lt_of_le h.blk k.size, by rw [cell_of_blk (k.block b h.blk hx)]; exact h.c0⟩
theorem Two.rng {w w' : World} {b lo hi : Nat} {x y : Value} (h : Two w b x y) (k : Rng lo hi w w') (hx : b < lo ∨ hi ≤ b) : Two w' b x y :=
  ⟨Nat.lt_of_lt_of_le h.blk k.size, by rw [cell_of_blk (k.block b h.blk hx)]; exact h.c0, by rw [cell_of_blk (k.block b h.blk hx)]; exact h.c1⟩
theorem ownsRow_rng {w w' : World} {B e size g n c lo hi : Nat} {xs : List Value} (h : w.ownsRow B e size (.slice (some ⟨g, 0, none⟩) n c) n xs) (k : Rng lo hi w w') (hx : g < lo ∨ hi ≤ g) : w'.ownsRow B e size (.slice (some ⟨g, 0, none⟩) n c) n xs := by
  refine ⟨h.1, h.2.imp id ?_⟩
  rintro ⟨g', cap, cur, h1, h2, h3, h4⟩
  have e' : g' = g := by simp at h1; exact h1.1.symm
  subst e'
  exact ⟨g', cap, cur, h1, h2, by rw [k.block g' (Array.getElem?_eq_some_iff.1 h3).1 hx]; exact h3, h4⟩
theorem OwnI.rng {w w' : World} {B g n c lo hi : Nat} {L : Nat → Int} {j : Nat} (h : OwnI w B g n c L j) (k : Rng lo hi w w') (hx : g < lo ∨ hi ≤ g) : OwnI w' B g n c L j := by
  obtain ⟨xs, ho, hz⟩ := h; exact ⟨xs, ownsRow_rng ho k hx, hz⟩

/-- How many numbers the first k lists have. -/
def sumM (D : LsL) : Nat → Nat
  | 0 => 0
  | k + 1 => sumM D k + D.m k

theorem grown_rng {w w' : World} {g : Nat} (h : w.grownBy w' (some g)) : Rng g (g + 1) w w' := Rng.of h (Nat.le_refl _) (by omega)

/-- The lists, the first k of them marked from z on. -/
def mkD (z : Nat) (D : LsL) (k : Nat) : LsL := ⟨D.m, fun i => if i < k then mkI (z + sumM D i) else D.L i⟩

theorem mkD_step (z : Nat) (D : LsL) (k : Nat) : (⟨(mkD z D k).m, fun i => if i = k then mkI (z + sumM D k) else (mkD z D k).L i⟩ : LsL) = mkD z D (k + 1) := by
  simp only [mkD]
  congr 1
  funext i
  by_cases e : i = k
  · subst e; rw [if_pos rfl, if_pos (by omega)]
  · rw [if_neg e]
    by_cases h : i < k
    · rw [if_pos h, if_pos (by omega)]
    · rw [if_neg h, if_neg (by omega)]

theorem mkD_zero (z : Nat) (D : LsL) : mkD z D 0 = D := by simp [mkD]

theorem sumM_le (D : LsL) : ∀ {k n : Nat}, k ≤ n → sumM D k ≤ sumM D n := by
  intro k n h
  induction h with
  | refl => exact Nat.le_refl _
  | step _ ih => exact Nat.le_trans ih (Nat.le_add_right _ _)

end Go.Proofs.Ytcnkkoegfjggaaa

/- Contracts: lists of equations: how great they are, their copies and their comparison. -/
namespace Go.Proofs.Ytcnkkoegfjggaaa
open Go.RowKit

/-- The equations of a list: how long the sides are, and their nodes. -/
structure EqL where
  m1 : Nat → Nat
  L1 : Nat → Nat → Int
  m2 : Nat → Nat
  L2 : Nat → Nat → Int

/-- Equations that came in, in a row. -/
structure RowE (w : World) (b off n : Nat) (D : EqL) : Prop where
  blk : 0 < n → b < w.heap.size
  row : ∀ i, i < n → ∃ p1 c1 p2 c2, w.cell? ⟨b, off + i * 2, none⟩ = some (.slice p1 (D.m1 i) c1) ∧ w.cell? ⟨b, off + i * 2 + 1, none⟩ = some (.slice p2 (D.m2 i) c2) ∧ SrcI w p1 (D.m1 i) (D.L1 i) ∧ SrcI w p2 (D.m2 i) (D.L2 i) ∧ D.m1 i ≤ maxLen ∧ D.m2 i ≤ maxLen

theorem RowE.keep {w w' : World} {b off n : Nat} {D : EqL} (h : RowE w b off n D) (hb : Below w.heap.size w w') : RowE w' b off n D :=
  ⟨fun h0 => Nat.lt_of_lt_of_le (h.blk h0) hb.size, fun i hi => by
    obtain ⟨p1, c1, p2, c2, h1, h2, h3, h4, h5⟩ := h.row i hi
    have hk := h.blk (by omega)
    exact ⟨p1, c1, p2, c2, by rw [(bcell hb).1 _ _ hk]; exact h1, by rw [(bcell hb).1 _ _ hk]; exact h2, h3.keep hb, h4.keep hb, h5⟩⟩

/-- What came in: no equation, or a row of them. -/
def SrcE (w : World) (p : Option Addr) (n : Nat) (D : EqL) : Prop :=
  n ≤ maxLen ∧ (n = 0 ∨ ∃ b off, p = some ⟨b, off, none⟩ ∧ RowE w b off n D)

theorem SrcE.keep {w w' : World} {p : Option Addr} {n : Nat} {D : EqL} (h : SrcE w p n D) (hb : Below w.heap.size w w') : SrcE w' p n D :=
  ⟨h.1, h.2.imp id fun ⟨b, off, hp, hs⟩ => ⟨b, off, hp, hs.keep hb⟩⟩

/-- Copies of equations, in a row. -/
structure Eqs (w : World) (b off n : Nat) (D : EqL) : Prop where
  blk : 0 < n → b < w.heap.size
  row : ∀ i, i < n → ∃ g1 o1 c1 g2 o2 c2, w.cell? ⟨b, off + i * 2, none⟩ = some (.slice (some ⟨g1, o1, none⟩) (D.m1 i) c1) ∧ w.cell? ⟨b, off + i * 2 + 1, none⟩ = some (.slice (some ⟨g2, o2, none⟩) (D.m2 i) c2) ∧ Ints w g1 o1 (D.m1 i) (D.L1 i) ∧ Ints w g2 o2 (D.m2 i) (D.L2 i)

theorem Eqs.keep {w w' : World} {b off n : Nat} {D : EqL} (h : Eqs w b off n D) (hb : Below w.heap.size w w') : Eqs w' b off n D :=
  ⟨fun h0 => Nat.lt_of_lt_of_le (h.blk h0) hb.size, fun i hi => by
    obtain ⟨g1, o1, c1, g2, o2, c2, h1, h2, h3, h4⟩ := h.row i hi
    have hk := h.blk (by omega)
    exact ⟨g1, o1, c1, g2, o2, c2, by rw [(bcell hb).1 _ _ hk]; exact h1, by rw [(bcell hb).1 _ _ hk]; exact h2, h3.keep hb, h4.keep hb⟩⟩

/-- What a law copies. -/
structure KeptE (n : Nat) (D : EqL) : Prop where
  most : n ≤ 1048576
  m1 : ∀ i, i < n → D.m1 i ≤ 1048576
  m2 : ∀ i, i < n → D.m2 i ≤ 1048576

theorem Ints.other {w : World} {b off n : Nat} {L : Nat → Int} (h : Ints w b off n L) (a : Addr) (v : Value) (hne : b ≠ a.block) : Ints (w.setCell a v) b off n L :=
  ⟨fun h0 => by simpa using h.blk h0, fun i hi => by rw [World.cell?_setCell_other _ _ _ _ (by intro e; exact hne (by rw [e]))]; exact h.cell i hi⟩

/-- A row of copies in memory of its own, of which the first k are known. -/
def OwnE (w : World) (B g n : Nat) (D : EqL) (k : Nat) : Prop :=
  ∃ xs, w.ownsRow B 76 2 (.slice (some ⟨g, 0, none⟩) n n) n xs ∧ ∀ i, i < k → ∃ g1 g2, xs[i * 2]? = some (.slice (some ⟨g1, 0, none⟩) (D.m1 i) (D.m1 i)) ∧ xs[i * 2 + 1]? = some (.slice (some ⟨g2, 0, none⟩) (D.m2 i) (D.m2 i)) ∧ g < g1 ∧ g < g2 ∧ Ints w g1 0 (D.m1 i) (D.L1 i) ∧ Ints w g2 0 (D.m2 i) (D.L2 i)

theorem OwnE.lt {w : World} {B g n : Nat} {D : EqL} {k : Nat} (h : OwnE w B g n D k) : g < w.heap.size := by
  obtain ⟨xs, ho, _⟩ := h; exact (ho.lt g rfl).2

theorem OwnE.keep {w w' : World} {B g n : Nat} {D : EqL} {k : Nat} (h : OwnE w B g n D k) (hb : Below w.heap.size w w') : OwnE w' B g n D k := by
  have hl := h.lt
  obtain ⟨xs, ho, hx⟩ := h
  refine ⟨xs, ownsRow_later ho hb hl, fun i hi => ?_⟩
  obtain ⟨g1, g2, a1, a2, a3, a4, a5, a6⟩ := hx i hi
  exact ⟨g1, g2, a1, a2, a3, a4, a5.keep hb, a6.keep hb⟩

theorem OwnE.eqs {w : World} {B g n : Nat} {D : EqL} (h : OwnE w B g n D n) : Eqs w g 0 n D := by
  have hl := h.lt
  obtain ⟨xs, ho, hx⟩ := h
  refine ⟨fun _ => hl, fun i hi => ?_⟩
  obtain ⟨g1, g2, a1, a2, _, _, a5, a6⟩ := hx i hi
  exact ⟨g1, 0, _, g2, 0, _, by rw [Nat.zero_add, ho.cellAt _ (by omega)]; exact a1, by rw [Nat.zero_add, ho.cellAt _ (by omega)]; exact a2, a5, a6⟩

theorem OwnE.put {w : World} {B g n : Nat} {D : EqL} {k : Nat} (h : OwnE w B g n D k) (hk : k < n) {g1 g2 : Nat} (l1 : g < g1) (l2 : g < g2) (i1 : Ints w g1 0 (D.m1 k) (D.L1 k)) (i2 : Ints w g2 0 (D.m2 k) (D.L2 k)) :
    (∃ u0, w.cell? ⟨g, 0 + k * 2, none⟩ = some u0) ∧ (∃ u1, (w.setCell ⟨g, 0 + k * 2, none⟩ (.slice (some ⟨g1, 0, none⟩) (D.m1 k) (D.m1 k))).cell? ⟨g, 0 + k * 2 + 1, none⟩ = some u1) ∧
    w.frozen? ⟨g, 0 + k * 2, none⟩ = false ∧ (w.setCell ⟨g, 0 + k * 2, none⟩ (.slice (some ⟨g1, 0, none⟩) (D.m1 k) (D.m1 k))).frozen? ⟨g, 0 + k * 2 + 1, none⟩ = false ∧
    OwnE ((w.setCell ⟨g, 0 + k * 2, none⟩ (.slice (some ⟨g1, 0, none⟩) (D.m1 k) (D.m1 k))).setCell ⟨g, 0 + k * 2 + 1, none⟩ (.slice (some ⟨g2, 0, none⟩) (D.m2 k) (D.m2 k))) B g n D (k + 1) ∧
    w.grownBy ((w.setCell ⟨g, 0 + k * 2, none⟩ (.slice (some ⟨g1, 0, none⟩) (D.m1 k) (D.m1 k))).setCell ⟨g, 0 + k * 2 + 1, none⟩ (.slice (some ⟨g2, 0, none⟩) (D.m2 k) (D.m2 k))) (some g) := by
  obtain ⟨xs, ho, hx⟩ := h
  rw [Nat.zero_add]
  obtain ⟨o1, e1⟩ := ho.stored (k * 2) (.slice (some ⟨g1, 0, none⟩) (D.m1 k) (D.m1 k))
  obtain ⟨o2, e2⟩ := o1.stored (k * 2 + 1) (.slice (some ⟨g2, 0, none⟩) (D.m2 k) (D.m2 k))
  have hl : xs.length = n * 2 := ho.1
  refine ⟨⟨_, (ho.cellAt (k * 2) (by omega)).trans (List.getElem?_eq_getElem (by omega))⟩, ⟨_, (o1.cellAt (k * 2 + 1) (by omega)).trans (List.getElem?_eq_getElem (by simp; omega))⟩,
    ho.frozenAt _, o1.frozenAt _, ⟨_, o2, fun i hi => ?_⟩, ⟨e2.os.trans e1.os, e2.tape.trans e1.tape, e2.output.trans e1.output, Nat.le_trans e1.size e2.size, fun j hj hr => (e2.block j (Nat.lt_of_lt_of_le hj e1.size) hr).trans (e1.block j hj hr)⟩⟩
  by_cases e : i = k
  · subst e
    refine ⟨g1, g2, ?_, ?_, l1, l2, (i1.other _ _ (by simp; omega)).other _ _ (by simp; omega), (i2.other _ _ (by simp; omega)).other _ _ (by simp; omega)⟩
    · rw [List.getElem?_set_ne (by omega), List.getElem?_set_self (by omega)]
    · rw [List.getElem?_set_self (by simp; omega)]
  · obtain ⟨h1, h2, a1, a2, a3, a4, a5, a6⟩ := hx i (by omega)
    refine ⟨h1, h2, ?_, ?_, a3, a4, (a5.other _ _ (by simp; omega)).other _ _ (by simp; omega), (a6.other _ _ (by simp; omega)).other _ _ (by simp; omega)⟩
    · rw [List.getElem?_set_ne (by omega), List.getElem?_set_ne (by omega)]; exact a1
    · rw [List.getElem?_set_ne (by omega), List.getElem?_set_ne (by omega)]; exact a2

set_option maxRecDepth 20000 in
theorem makeEqs (w : World) (n : Nat) (hn : n ≤ 1048576) : ∃ w', (Instr.makeSlice 53 (.int .i64 (n : Int)) (.int .i64 (n : Int))).run Try.prog w = .ok (.slice (some ⟨w.heap.size, 0, none⟩) n n) w' ∧
      w'.ownsRow w.heap.size 76 2 (.slice (some ⟨w.heap.size, 0, none⟩) n n) n (madeCells (Value.agg #[.slice none 0 0, .slice none 0 0]).cells (n * 2)).toList ∧ w.grownBy w' none :=
  run_make_full (P := Try.prog) w w.heap.size 53 76 _ (.agg #[.slice none 0 0, .slice none 0 0]) 2 Try.underlying53 rfl rfl rfl .i64 .i64 n (by show 48 * n ≤ _; omega) (by unfold maxLen; omega) (Nat.le_refl _)

end Go.Proofs.Ytcnkkoegfjggaaa

/- Contracts: lists of equations in memory of their own, how great they are, and their marks. -/
namespace Go.Proofs.Ytcnkkoegfjggaaa
open Go.RowKit

/-- The sides of equations, one behind the other. -/
def fl2 (D : EqL) : LsL := ⟨fun e => if e % 2 = 0 then D.m1 (e / 2) else D.m2 (e / 2), fun e => if e % 2 = 0 then D.L1 (e / 2) else D.L2 (e / 2)⟩

theorem fl2_m0 (D : EqL) (k : Nat) : (fl2 D).m (k * 2) = D.m1 k := by simp [fl2]
theorem fl2_m1 (D : EqL) (k : Nat) : (fl2 D).m (k * 2 + 1) = D.m2 k := by
  have h1 : (k * 2 + 1) % 2 = 1 := by omega
  have h2 : (k * 2 + 1) / 2 = k := by omega
  simp [fl2, h1, h2]
theorem fl2_L0 (D : EqL) (k : Nat) : (fl2 D).L (k * 2) = D.L1 k := by simp [fl2]
theorem fl2_L1 (D : EqL) (k : Nat) : (fl2 D).L (k * 2 + 1) = D.L2 k := by
  have h1 : (k * 2 + 1) % 2 = 1 := by omega
  have h2 : (k * 2 + 1) / 2 = k := by omega
  simp [fl2, h1, h2]

/-- A row of equations in memory of its own, of which the first k sides are known, in blocks below U. -/
def OwnF (w : World) (B g n : Nat) (F : LsL) (k U : Nat) : Prop :=
  ∃ (xs : List Value) (G : Nat → Nat), w.ownsRow B 76 2 (.slice (some ⟨g, 0, none⟩) n n) n xs ∧ (∀ e, e < k → xs[e]? = some (.slice (some ⟨G e, 0, none⟩) (F.m e) (F.m e)) ∧ B ≤ G e ∧ G e < U ∧ G e ≠ g ∧ OwnI w B (G e) (F.m e) (F.m e) (F.L e) (F.m e)) ∧ ∀ i j, i < j → j < k → G i < G j

theorem OwnF.lt {w : World} {B g n : Nat} {F : LsL} {k U : Nat} (h : OwnF w B g n F k U) : g < w.heap.size := by
  obtain ⟨xs, G, ho, _⟩ := h; exact (ho.lt g rfl).2

theorem OwnF.keep {w w' : World} {B g n : Nat} {F : LsL} {k U : Nat} (h : OwnF w B g n F k U) (hb : Below w.heap.size w w') : OwnF w' B g n F k U := by
  have hl := h.lt
  obtain ⟨xs, G, ho, hx, hm⟩ := h
  refine ⟨xs, G, ownsRow_later ho hb hl, fun e he => ?_, hm⟩
  obtain ⟨a1, a2, a3, a4, a5⟩ := hx e he
  exact ⟨a1, a2, a3, a4, a5.keep hb⟩

theorem OwnF.up {w : World} {B g n : Nat} {F : LsL} {k U U' : Nat} (h : OwnF w B g n F k U) (hU : U ≤ U') : OwnF w B g n F k U' := by
  obtain ⟨xs, G, ho, hx, hm⟩ := h
  refine ⟨xs, G, ho, fun e he => ?_, hm⟩
  obtain ⟨a1, a2, a3, a4, a5⟩ := hx e he
  exact ⟨a1, a2, by omega, a4, a5⟩

theorem OwnF.put {w : World} {B g n : Nat} {F : LsL} {k U : Nat} (h : OwnF w B g n F k U) (hk : k < n * 2) {g1 m1 : Nat} {L1 : Nat → Int} (hm1 : F.m k = m1) (hL1 : F.L k = L1) (hU : U ≤ g1) (hB : B ≤ g1) (hne : g1 ≠ g) {B' : Nat} (i1 : OwnI w B' g1 m1 m1 L1 m1) :
    (∃ u0, w.cell? ⟨g, k, none⟩ = some u0) ∧ w.frozen? ⟨g, k, none⟩ = false ∧
    OwnF (w.setCell ⟨g, k, none⟩ (.slice (some ⟨g1, 0, none⟩) m1 m1)) B g n F (k + 1) (g1 + 1) ∧
    w.grownBy (w.setCell ⟨g, k, none⟩ (.slice (some ⟨g1, 0, none⟩) m1 m1)) (some g) := by
  subst hm1 hL1
  obtain ⟨xs, G, ho, hx, hm⟩ := h
  obtain ⟨o1, e1⟩ := ho.stored k (.slice (some ⟨g1, 0, none⟩) (F.m k) (F.m k))
  have hlen : xs.length = n * 2 := ho.1
  refine ⟨⟨_, (ho.cellAt k (by omega)).trans (List.getElem?_eq_getElem (by omega))⟩, ho.frozenAt _, ⟨_, fun i => if i = k then g1 else G i, o1, fun e he => ?_, fun i j hij hj => ?_⟩, e1⟩
  · by_cases ee : e = k
    · subst ee
      simp only [if_true]
      exact ⟨by rw [List.getElem?_set_self (by omega)], hB, by omega, hne, (i1.base hB).other _ _ (by simpa using hne)⟩
    · obtain ⟨a1, a2, a3, a4, a5⟩ := hx e (by omega)
      simp only [ee, if_false]
      exact ⟨by rw [List.getElem?_set_ne (by omega)]; exact a1, a2, by omega, a4, a5.other _ _ (by simpa using a4)⟩
  · have hne' : i ≠ k := by omega
    obtain ⟨_, _, a3, _, _⟩ := hx i (by omega)
    simp only [hne', if_false]
    by_cases ee : j = k
    · simp only [ee, if_true]; omega
    · simp only [ee, if_false]; exact hm i j hij (by omega)

/-- Equations in memory of their own, between two numbers of blocks. -/
def OwnFR (w : World) (lo hi g n : Nat) (F : LsL) : Prop :=
  lo ≤ g ∧ g < hi ∧ hi ≤ w.heap.size ∧ ∃ (xs : List Value) (G : Nat → Nat), w.ownsRow lo 76 2 (.slice (some ⟨g, 0, none⟩) n n) n xs ∧ (∀ e, e < n * 2 → xs[e]? = some (.slice (some ⟨G e, 0, none⟩) (F.m e) (F.m e)) ∧ lo ≤ G e ∧ G e < hi ∧ G e ≠ g ∧ OwnI w lo (G e) (F.m e) (F.m e) (F.L e) (F.m e)) ∧ ∀ i j, i < j → j < n * 2 → G i < G j

theorem OwnF.between {w : World} {B g n : Nat} {F : LsL} {U : Nat} (h : OwnF w B g n F (n * 2) U) : OwnFR w B w.heap.size g n F := by
  have hl := h.lt
  obtain ⟨xs, G, ho, hx, hm⟩ := h
  refine ⟨(ho.lt g rfl).1, hl, Nat.le_refl _, xs, G, ho, fun i hi => ?_, hm⟩
  obtain ⟨a1, a2, a3, a4, a5⟩ := hx i hi
  exact ⟨a1, a2, a5.lt, a4, a5⟩

theorem OwnFR.keep {w w' : World} {lo hi g n : Nat} {F : LsL} (h : OwnFR w lo hi g n F) (hb : Below w.heap.size w w') : OwnFR w' lo hi g n F := by
  obtain ⟨h1, h2, h3, xs, G, ho, hx, hm⟩ := h
  refine ⟨h1, h2, Nat.le_trans h3 hb.size, xs, G, ownsRow_later ho hb (by omega), fun i hi => ?_, hm⟩
  obtain ⟨a1, a3, a4, a5, a6⟩ := hx i hi
  exact ⟨a1, a3, a4, a5, a6.keep hb⟩

theorem OwnFR.top {w : World} {lo hi g n : Nat} {F : LsL} (h : OwnFR w lo hi g n F) : hi ≤ w.heap.size := h.2.2.1

theorem OwnFR.rng {w w' : World} {lo hi lo' hi' g n : Nat} {F : LsL} (h : OwnFR w lo hi g n F) (k : Rng lo' hi' w w') (hx : hi ≤ lo' ∨ hi' ≤ lo) : OwnFR w' lo hi g n F := by
  obtain ⟨h1, h2, h3, xs, G, ho, hz, hm⟩ := h
  refine ⟨h1, h2, Nat.le_trans h3 k.size, xs, G, ownsRow_rng ho k (by omega), fun i hi => ?_, hm⟩
  obtain ⟨a1, a3, a4, a5, a6⟩ := hz i hi
  exact ⟨a1, a3, a4, a5, a6.rng k (by omega)⟩

theorem OwnFR.grown {w w' : World} {lo hi g n g' : Nat} {F : LsL} (h : OwnFR w lo hi g n F) (k : w.grownBy w' (some g')) (hx : g' < lo ∨ hi ≤ g') : OwnFR w' lo hi g n F := h.rng (grown_rng k) (by omega)

theorem OwnFR.one {w : World} {lo hi g n : Nat} {F : LsL} (h : OwnFR w lo hi g n F) {k : Nat} (hk : k < n * 2) :
    ∃ G, w.cell? ⟨g, k, none⟩ = some (.slice (some ⟨G, 0, none⟩) (F.m k) (F.m k)) ∧ OwnI w lo G (F.m k) (F.m k) (F.L k) (F.m k) ∧ lo ≤ G ∧ G < hi ∧
      ∀ (w' : World) (L' : Nat → Int), w.grownBy w' (some G) → OwnI w' lo G (F.m k) (F.m k) L' (F.m k) → OwnFR w' lo hi g n ⟨F.m, fun i => if i = k then L' else F.L i⟩ := by
  obtain ⟨h1, h2, h3, xs, G, ho, hx, hm⟩ := h
  obtain ⟨a1, a3, a4, a5, a6⟩ := hx k hk
  refine ⟨G k, by rw [ho.cellAt _ (by omega)]; exact a1, a6, a3, a4, fun w' L' hg ho' => ⟨h1, h2, Nat.le_trans h3 hg.size, xs, G, ho.kept hg (Or.inr (by simp [Value.ownBlock]; omega)), fun i hi => ?_, hm⟩⟩
  by_cases e : i = k
  · subst e
    simp only [if_true]
    exact ⟨a1, a3, a4, a5, ho'⟩
  · obtain ⟨b1, b3, b4, b5, b6⟩ := hx i hi
    simp only [e, if_false]
    refine ⟨b1, b3, b4, b5, b6.grown hg ?_⟩
    rcases Nat.lt_or_gt_of_ne e with hl | hl
    · have := hm i k hl hk; omega
    · have := hm k i hl hi; omega

theorem OwnFR.eqs {w : World} {lo hi g n : Nat} {D : EqL} (h : OwnFR w lo hi g n (fl2 D)) : Eqs w g 0 n D := by
  obtain ⟨h1, h2, h3, xs, G, ho, hx, _⟩ := h
  refine ⟨fun _ => by omega, fun i hi => ?_⟩
  obtain ⟨a1, _, _, _, a6⟩ := hx (i * 2) (by omega)
  obtain ⟨b1, _, _, _, b6⟩ := hx (i * 2 + 1) (by omega)
  rw [fl2_m0, fl2_L0] at a6
  rw [fl2_m1, fl2_L1] at b6
  rw [fl2_m0] at a1
  rw [fl2_m1] at b1
  exact ⟨G (i * 2), 0, _, G (i * 2 + 1), 0, _, by rw [Nat.zero_add, ho.cellAt _ (by omega)]; exact a1, by rw [Nat.zero_add, ho.cellAt _ (by omega)]; exact b1, a6.ints, b6.ints⟩

end Go.Proofs.Ytcnkkoegfjggaaa

/- Contracts: lists of equations: how great all of them are together, their copies, their marks. -/
namespace Go.Proofs.Ytcnkkoegfjggaaa
open Go.RowKit

theorem kept_fl2 {n : Nat} {D : EqL} (h : KeptE n D) : ∀ e, e < n * 2 → (fl2 D).m e ≤ 1048576 := fun e he => by
  simp only [fl2]
  split
  · exact h.m1 _ (by omega)
  · exact h.m2 _ (by omega)

set_option maxRecDepth 20000 in
set_option maxHeartbeats 1600000 in
theorem markEquationS_any (lo hi g n : Nat) (z : Int) (D : EqL) (w : World) (h : OwnFR w lo hi g n (fl2 D)) (hk : KeptE n D) (h0 : 0 ≤ z) (ht : z + sumM (fl2 D) (n * 2) ≤ 1099511627776) :
    Calls Try.prog 56 #[.slice (some ⟨g, 0, none⟩) n n, .int .i64 z] w fun e w' => e = .returned (.int .i64 (z + sumM (fl2 D) (n * 2))) ∧ OwnFR w' lo hi g n (mkD z.toNat (fl2 D) (n * 2)) ∧ Rng lo hi w w' := by
  have hn := hk.most
  have H := hidden h
  have HK := hidden (kept_fl2 hk)
  have HT := hidden ht
  generalize hS : z + (sumM (fl2 D) (n * 2) : Int) = S
  have HS := hidden hS
  obtain ⟨F, hF⟩ : ∃ F, F = fl2 D := ⟨_, rfl⟩
  rw [← hF] at H HK HT HS ⊢
  clear h hk ht hS hF
  go_enter Try.func56, Try.ntmps56
  go_wp2
  go_loopw [1, 5] (fun a i wr => ∃ (k : Nat) (y : Int), k ≤ n ∧ i = .int .i64 k ∧ a = .int .i64 y ∧ Hid (y = z + sumM F (k * 2)) ∧ Hid (OwnFR wr lo hi g n (mkD z.toNat F (k * 2)) ∧ Rng lo hi w wr)) (fun _ i _ => n - (intOf i).toNat)
  case atStart => exact ⟨0, z, Nat.zero_le _, rfl, rfl, hidden (by simp [sumM]), hidden ⟨by rw [mkD_zero]; exact H.out, Rng.refl _ _ _⟩⟩
  case round =>
    obtain ⟨k, y, hk, rfl, rfl, HY, HI⟩ := hrel
    by_cases hlt : k < n
    · obtain ⟨G, c1, ho, hl, hh, hput⟩ := HI.out.1.one (k := k * 2) (by omega)
      replace c1 : wr.cell? ⟨g, k * 2, none⟩ = some (.slice (some ⟨G, 0, none⟩) (F.m (k * 2)) (F.m (k * 2))) := c1
      have O := hidden ho
      have P := hidden hput
      have LL := hidden (And.intro hl hh)
      have HA := hidden (show 0 ≤ y ∧ y ≤ 1099511627776 by have := sumM_le F (show k * 2 ≤ n * 2 by omega); have := HY.out; have := HT.out; omega)
      have HM := hidden (HK.out (k * 2) (by omega))
      clear ho hput hl hh
      go_wp2_with fail
      with_reducible refine (markInt64S_z lo G (F.m (k * 2)) (F.m (k * 2)) y _ _ O.out HM.out HA.out.1 HA.out.2).mono ?_
      rintro e w2 ⟨rfl, ho, hg⟩
      have e1 : y.toNat = z.toNat + sumM F (k * 2) := by have := HY.out; omega
      rw [e1] at ho
      have HW := hidden (And.intro (P.out w2 _ hg ho) (HI.out.2.trans (Rng.of hg LL.out.1 LL.out.2)))
      rw [mkD_step] at HW
      have HY2 := hidden (show y + (F.m (k * 2) : Int) = z + sumM F (k * 2 + 1) by have := HY.out; simp only [sumM]; omega)
      clear ho hg c1 HI O P LL HA HM e1 HY
      generalize y + (F.m (k * 2) : Int) = y2 at *
      obtain ⟨G, c1, ho, hl, hh, hput⟩ := HW.out.1.one (k := k * 2 + 1) (by omega)
      replace c1 : w2.cell? ⟨g, k * 2 + 1, none⟩ = some (.slice (some ⟨G, 0, none⟩) (F.m (k * 2 + 1)) (F.m (k * 2 + 1))) := c1
      have O := hidden ho
      have P := hidden hput
      have LL := hidden (And.intro hl hh)
      have HA := hidden (show 0 ≤ y2 ∧ y2 ≤ 1099511627776 by have := sumM_le F (show k * 2 + 1 ≤ n * 2 by omega); have := HY2.out; have := HT.out; omega)
      have HM := hidden (HK.out (k * 2 + 1) (by omega))
      clear ho hput hl hh
      go_wp2_with fail
      with_reducible refine (markInt64S_z lo G (F.m (k * 2 + 1)) (F.m (k * 2 + 1)) y2 _ _ O.out HM.out HA.out.1 HA.out.2).mono ?_
      rintro e w3 ⟨rfl, ho, hg⟩
      have e1 : y2.toNat = z.toNat + sumM F (k * 2 + 1) := by have := HY2.out; omega
      rw [e1] at ho
      have HW3 := hidden (And.intro (P.out w3 _ hg ho) (HW.out.2.trans (Rng.of hg LL.out.1 LL.out.2)))
      rw [mkD_step] at HW3
      have HY3 := hidden (show y2 + (F.m (k * 2 + 1) : Int) = z + sumM F ((k + 1) * 2) by have := HY2.out; rw [show (k + 1) * 2 = k * 2 + 1 + 1 by omega]; simp only [sumM] at *; omega)
      clear ho hg c1 HW O P LL HA HM e1 HY2
      generalize y2 + (F.m (k * 2 + 1) : Int) = y3 at *
      go_wp2
      go_roundw
      case rel => exact ⟨k + 1, y3, by omega, by go_num, rfl, HY3, hidden (by have := HW3.out; rw [show k * 2 + 1 + 1 = (k + 1) * 2 by omega] at this; exact this)⟩
      case measure => simp [intOf]; omega
    · obtain rfl : n = k := by omega
      have HE := hidden (HY.out.trans HS.out)
      go_wp2
      go_ret
      exact ⟨by rw [← HE.out]; rfl, HI.out.1, HI.out.2⟩

end Go.Proofs.Ytcnkkoegfjggaaa
