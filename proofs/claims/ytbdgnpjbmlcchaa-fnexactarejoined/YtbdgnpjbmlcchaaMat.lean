/- Contracts: lists of lists of numbers: how great they are, their copies and their comparison. -/
import Derived.Test.YtbdgnpjbmlcchaaEqn
import Derived.Test.YtbdgnpjbmlcchaaSameT
namespace Go.Proofs.Ytbdgnpjbmlcchaa
open Go.RowKit

/-- The lists of a list: how long they are, and their numbers. -/
structure LsL where
  m : Nat → Nat
  L : Nat → Nat → Int

/-- Lists that came in, in a row. -/
structure RowM (w : World) (b off n : Nat) (D : LsL) : Prop where
  blk : 0 < n → b < w.heap.size
  row : ∀ i, i < n → ∃ p c, w.cell? ⟨b, off + i, none⟩ = some (.slice p (D.m i) c) ∧ SrcI w p (D.m i) (D.L i) ∧ D.m i ≤ maxLen

theorem RowM.keep {w w' : World} {b off n : Nat} {D : LsL} (h : RowM w b off n D) (hb : Below w.heap.size w w') : RowM w' b off n D :=
  ⟨fun h0 => Nat.lt_of_lt_of_le (h.blk h0) hb.size, fun i hi => by
    obtain ⟨p1, c1, h1, h3, h5⟩ := h.row i hi
    have hk := h.blk (by omega)
    exact ⟨p1, c1, by rw [(bcell hb).1 _ _ hk]; exact h1, h3.keep hb, h5⟩⟩

/-- What came in: no list, or a row of them. -/
def SrcM (w : World) (p : Option Addr) (n : Nat) (D : LsL) : Prop :=
  n ≤ maxLen ∧ (n = 0 ∨ ∃ b off, p = some ⟨b, off, none⟩ ∧ RowM w b off n D)

theorem SrcM.keep {w w' : World} {p : Option Addr} {n : Nat} {D : LsL} (h : SrcM w p n D) (hb : Below w.heap.size w w') : SrcM w' p n D :=
  ⟨h.1, h.2.imp id fun ⟨b, off, hp, hs⟩ => ⟨b, off, hp, hs.keep hb⟩⟩

/-- Copies of lists, in a row. -/
structure Mats (w : World) (b off n : Nat) (D : LsL) : Prop where
  blk : 0 < n → b < w.heap.size
  row : ∀ i, i < n → ∃ g o c, w.cell? ⟨b, off + i, none⟩ = some (.slice (some ⟨g, o, none⟩) (D.m i) c) ∧ Ints w g o (D.m i) (D.L i) ∧ D.m i ≤ c

theorem Mats.keep {w w' : World} {b off n : Nat} {D : LsL} (h : Mats w b off n D) (hb : Below w.heap.size w w') : Mats w' b off n D :=
  ⟨fun h0 => Nat.lt_of_lt_of_le (h.blk h0) hb.size, fun i hi => by
    obtain ⟨g1, o1, c1, h1, h3, h4⟩ := h.row i hi
    have hk := h.blk (by omega)
    exact ⟨g1, o1, c1, by rw [(bcell hb).1 _ _ hk]; exact h1, h3.keep hb, h4⟩⟩

/-- What a law copies. -/
structure KeptM (n : Nat) (D : LsL) : Prop where
  most : n ≤ 1048576
  m : ∀ i, i < n → D.m i ≤ 1048576

/-- A row of copies in memory of its own, of which the first k are known; each lies behind those ahead of it. -/
def OwnM (w : World) (B g n c : Nat) (D : LsL) (k : Nat) : Prop :=
  ∃ (xs : List Value) (G : Nat → Nat), w.ownsRow B 26 1 (.slice (some ⟨g, 0, none⟩) n c) n xs ∧ (∀ i, i < k → ∃ d, xs[i]? = some (.slice (some ⟨G i, 0, none⟩) (D.m i) d) ∧ D.m i ≤ d ∧ B ≤ G i ∧ G i ≠ g ∧ OwnI w B (G i) (D.m i) d (D.L i) (D.m i)) ∧ ∀ i j, i < j → j < k → G i < G j

theorem OwnM.lt {w : World} {B g n c : Nat} {D : LsL} {k : Nat} (h : OwnM w B g n c D k) : g < w.heap.size := by
  obtain ⟨xs, G, ho, _⟩ := h; exact (ho.lt g rfl).2

theorem OwnM.keep {w w' : World} {B g n c : Nat} {D : LsL} {k : Nat} (h : OwnM w B g n c D k) (hb : Below w.heap.size w w') : OwnM w' B g n c D k := by
  have hl := h.lt
  obtain ⟨xs, G, ho, hx, hm⟩ := h
  refine ⟨xs, G, ownsRow_later ho hb hl, fun i hi => ?_, hm⟩
  obtain ⟨d, a1, a2, a3, a4, a5⟩ := hx i hi
  exact ⟨d, a1, a2, a3, a4, a5.keep hb⟩

theorem OwnM.mats {w : World} {B g n c : Nat} {D : LsL} (h : OwnM w B g n c D n) : Mats w g 0 n D := by
  have hl := h.lt
  obtain ⟨xs, G, ho, hx, _⟩ := h
  refine ⟨fun _ => hl, fun i hi => ?_⟩
  obtain ⟨d, a1, a2, _, _, a5⟩ := hx i hi
  exact ⟨G i, 0, d, by rw [Nat.zero_add, ho.cellAt _ (by omega)]; exact a1, a5.ints, a2⟩

theorem OwnM.put {w w1 : World} {B g n c : Nat} {D : LsL} {k : Nat} (h : OwnM w B g n c D k) (hb : Below w.heap.size w w1) (hk : k < n) {g1 d1 : Nat} (l1 : w.heap.size ≤ g1) (l2 : D.m k ≤ d1) (hB : B ≤ w.heap.size) {B' : Nat} (i1 : OwnI w1 B' g1 (D.m k) d1 (D.L k) (D.m k)) :
    (∃ u0, w1.cell? ⟨g, k, none⟩ = some u0) ∧ w1.frozen? ⟨g, k, none⟩ = false ∧
    OwnM (w1.setCell ⟨g, k, none⟩ (.slice (some ⟨g1, 0, none⟩) (D.m k) d1)) B g n c D (k + 1) ∧
    w1.grownBy (w1.setCell ⟨g, k, none⟩ (.slice (some ⟨g1, 0, none⟩) (D.m k) d1)) (some g) := by
  have hl := h.lt
  have h1 := h.keep hb
  obtain ⟨xs, G, ho0, hx0, hm0⟩ := h
  have ho := ownsRow_later ho0 hb hl
  obtain ⟨o1, e1⟩ := ho.stored k (.slice (some ⟨g1, 0, none⟩) (D.m k) d1)
  have hlen : xs.length = n * 1 := ho.1
  refine ⟨⟨_, (ho.cellAt k (by omega)).trans (List.getElem?_eq_getElem (by omega))⟩, ho.frozenAt _, ⟨_, fun i => if i = k then g1 else G i, o1, fun i hi => ?_, fun i j hij hj => ?_⟩, e1⟩
  · by_cases e : i = k
    · subst e
      simp only [if_true]
      exact ⟨d1, by rw [List.getElem?_set_self (by omega)], l2, by omega, by omega, ((i1.base (by omega)).other _ _ (by simp; omega))⟩
    · obtain ⟨d, a1, a2, a3, a4, a5⟩ := hx0 i (by omega)
      simp only [e, if_false]
      exact ⟨d, by rw [List.getElem?_set_ne (by omega)]; exact a1, a2, a3, a4, ((a5.keep hb).other _ _ (by simpa using a4))⟩
  · have hne : i ≠ k := by omega
    obtain ⟨d, _, _, _, _, a5⟩ := hx0 i (by omega)
    have := a5.lt
    simp only [hne, if_false]
    by_cases e : j = k
    · simp only [e, if_true]; omega
    · simp only [e, if_false]; exact hm0 i j hij (by omega)

set_option maxRecDepth 20000 in
theorem makeMats (w : World) (n : Nat) (hn : n ≤ 1048576) : ∃ w', (Instr.makeSlice 90 (.int .i64 (n : Int)) (.int .i64 (n : Int))).run Try.prog w = .ok (.slice (some ⟨w.heap.size, 0, none⟩) n n) w' ∧
      w'.ownsRow w.heap.size 26 1 (.slice (some ⟨w.heap.size, 0, none⟩) n n) n (madeCells (Value.slice none 0 0).cells (n * 1)).toList ∧ w.grownBy w' none :=
  run_make_full (P := Try.prog) w w.heap.size 90 26 _ (.slice none 0 0) 1 Try.underlying90 rfl rfl rfl .i64 .i64 n (by show 24 * n ≤ _; omega) (by unfold maxLen; omega) (Nat.le_refl _)

end Go.Proofs.Ytbdgnpjbmlcchaa
