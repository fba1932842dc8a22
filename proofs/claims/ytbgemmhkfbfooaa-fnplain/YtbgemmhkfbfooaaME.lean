/- Several texts as one: Eqs, EqSame. -/
import Derived.Test.YtbgemmhkfbfooaaMA
import Derived.Test.YtbgemmhkfbfooaaSameT
import Derived.Deep.RegionHeld3
/- Contracts: lists of equations: how great they are, their copies and their comparison. -/
namespace Go.Proofs.Ytbgemmhkfbfooaa
open Go.RowKit

/-- The equations of a list: how long the sides are, and their nodes. -/
structure EqL where
  m1 : Nat → Nat
  L1 : Nat → Nat → Int
  m2 : Nat → Nat
  L2 : Nat → Nat → Int

/-- Equations that came in, in a row. -/
structure RowE (w : World) (b off n : Nat) (D : EqL) : Prop where
  blk : 0 < n → b < w.heap.size
  row : ∀ i, i < n → ∃ p1 c1 p2 c2, w.cell? ⟨b, off + i * 2, none⟩ = some (.slice p1 (D.m1 i) c1) ∧ w.cell? ⟨b, off + i * 2 + 1, none⟩ = some (.slice p2 (D.m2 i) c2) ∧ SrcI w p1 (D.m1 i) (D.L1 i) ∧ SrcI w p2 (D.m2 i) (D.L2 i) ∧ D.m1 i ≤ maxLen ∧ D.m2 i ≤ maxLen

theorem RowE.keep {w w' : World} {b off n : Nat} {D : EqL} (h : RowE w b off n D) (hb : Below w.heap.size w w') : RowE w' b off n D :=
  ⟨fun h0 => Nat.lt_of_lt_of_le (h.blk h0) hb.size, fun i hi => by
    obtain ⟨p1, c1, p2, c2, h1, h2, h3, h4, h5⟩ := h.row i hi
    have hk := h.blk (by omega)
    exact ⟨p1, c1, p2, c2, by rw [(bcell hb).1 _ _ hk]; exact h1, by rw [(bcell hb).1 _ _ hk]; exact h2, h3.keep hb, h4.keep hb, h5⟩⟩

/-- What came in: no equation, or a row of them. -/
def SrcE (w : World) (p : Option Addr) (n : Nat) (D : EqL) : Prop :=
  n ≤ maxLen ∧ (n = 0 ∨ ∃ b off, p = some ⟨b, off, none⟩ ∧ RowE w b off n D)

theorem SrcE.keep {w w' : World} {p : Option Addr} {n : Nat} {D : EqL} (h : SrcE w p n D) (hb : Below w.heap.size w w') : SrcE w' p n D :=
  ⟨h.1, h.2.imp id fun ⟨b, off, hp, hs⟩ => ⟨b, off, hp, hs.keep hb⟩⟩

/-- Copies of equations, in a row. -/
structure Eqs (w : World) (b off n : Nat) (D : EqL) : Prop where
  blk : 0 < n → b < w.heap.size
  row : ∀ i, i < n → ∃ g1 o1 c1 g2 o2 c2, w.cell? ⟨b, off + i * 2, none⟩ = some (.slice (some ⟨g1, o1, none⟩) (D.m1 i) c1) ∧ w.cell? ⟨b, off + i * 2 + 1, none⟩ = some (.slice (some ⟨g2, o2, none⟩) (D.m2 i) c2) ∧ Ints w g1 o1 (D.m1 i) (D.L1 i) ∧ Ints w g2 o2 (D.m2 i) (D.L2 i)

theorem Eqs.keep {w w' : World} {b off n : Nat} {D : EqL} (h : Eqs w b off n D) (hb : Below w.heap.size w w') : Eqs w' b off n D :=
  ⟨fun h0 => Nat.lt_of_lt_of_le (h.blk h0) hb.size, fun i hi => by
    obtain ⟨g1, o1, c1, g2, o2, c2, h1, h2, h3, h4⟩ := h.row i hi
    have hk := h.blk (by omega)
    exact ⟨g1, o1, c1, g2, o2, c2, by rw [(bcell hb).1 _ _ hk]; exact h1, by rw [(bcell hb).1 _ _ hk]; exact h2, h3.keep hb, h4.keep hb⟩⟩

/-- What a law copies. -/
structure KeptE (n : Nat) (D : EqL) : Prop where
  most : n ≤ 1048576
  m1 : ∀ i, i < n → D.m1 i ≤ 1048576
  m2 : ∀ i, i < n → D.m2 i ≤ 1048576

theorem Ints.other {w : World} {b off n : Nat} {L : Nat → Int} (h : Ints w b off n L) (a : Addr) (v : Value) (hne : b ≠ a.block) : Ints (w.setCell a v) b off n L :=
  ⟨fun h0 => by simpa using h.blk h0, fun i hi => by rw [World.cell?_setCell_other _ _ _ _ (by intro e; exact hne (by rw [e]))]; exact h.cell i hi⟩

/-- A row of copies in memory of its own, of which the first k are known. -/
def OwnE (w : World) (B g n : Nat) (D : EqL) (k : Nat) : Prop :=
  ∃ xs, w.ownsRow B 29 2 (.slice (some ⟨g, 0, none⟩) n n) n xs ∧ ∀ i, i < k → ∃ g1 g2, xs[i * 2]? = some (.slice (some ⟨g1, 0, none⟩) (D.m1 i) (D.m1 i)) ∧ xs[i * 2 + 1]? = some (.slice (some ⟨g2, 0, none⟩) (D.m2 i) (D.m2 i)) ∧ g < g1 ∧ g < g2 ∧ Ints w g1 0 (D.m1 i) (D.L1 i) ∧ Ints w g2 0 (D.m2 i) (D.L2 i)

theorem OwnE.lt {w : World} {B g n : Nat} {D : EqL} {k : Nat} (h : OwnE w B g n D k) : g < w.heap.size := by
  obtain ⟨xs, ho, _⟩ := h; exact (ho.lt g rfl).2

theorem OwnE.keep {w w' : World} {B g n : Nat} {D : EqL} {k : Nat} (h : OwnE w B g n D k) (hb : Below w.heap.size w w') : OwnE w' B g n D k := by
  have hl := h.lt
  obtain ⟨xs, ho, hx⟩ := h
  refine ⟨xs, ownsRow_later ho hb hl, fun i hi => ?_⟩
  obtain ⟨g1, g2, a1, a2, a3, a4, a5, a6⟩ := hx i hi
  exact ⟨g1, g2, a1, a2, a3, a4, a5.keep hb, a6.keep hb⟩

theorem OwnE.eqs {w : World} {B g n : Nat} {D : EqL} (h : OwnE w B g n D n) : Eqs w g 0 n D := by
  have hl := h.lt
  obtain ⟨xs, ho, hx⟩ := h
  refine ⟨fun _ => hl, fun i hi => ?_⟩
  obtain ⟨g1, g2, a1, a2, _, _, a5, a6⟩ := hx i hi
  exact ⟨g1, 0, _, g2, 0, _, by rw [Nat.zero_add, ho.cellAt _ (by omega)]; exact a1, by rw [Nat.zero_add, ho.cellAt _ (by omega)]; exact a2, a5, a6⟩

theorem OwnE.put {w : World} {B g n : Nat} {D : EqL} {k : Nat} (h : OwnE w B g n D k) (hk : k < n) {g1 g2 : Nat} (l1 : g < g1) (l2 : g < g2) (i1 : Ints w g1 0 (D.m1 k) (D.L1 k)) (i2 : Ints w g2 0 (D.m2 k) (D.L2 k)) :
    (∃ u0, w.cell? ⟨g, 0 + k * 2, none⟩ = some u0) ∧ (∃ u1, (w.setCell ⟨g, 0 + k * 2, none⟩ (.slice (some ⟨g1, 0, none⟩) (D.m1 k) (D.m1 k))).cell? ⟨g, 0 + k * 2 + 1, none⟩ = some u1) ∧
    w.frozen? ⟨g, 0 + k * 2, none⟩ = false ∧ (w.setCell ⟨g, 0 + k * 2, none⟩ (.slice (some ⟨g1, 0, none⟩) (D.m1 k) (D.m1 k))).frozen? ⟨g, 0 + k * 2 + 1, none⟩ = false ∧
    OwnE ((w.setCell ⟨g, 0 + k * 2, none⟩ (.slice (some ⟨g1, 0, none⟩) (D.m1 k) (D.m1 k))).setCell ⟨g, 0 + k * 2 + 1, none⟩ (.slice (some ⟨g2, 0, none⟩) (D.m2 k) (D.m2 k))) B g n D (k + 1) ∧
    w.grownBy ((w.setCell ⟨g, 0 + k * 2, none⟩ (.slice (some ⟨g1, 0, none⟩) (D.m1 k) (D.m1 k))).setCell ⟨g, 0 + k * 2 + 1, none⟩ (.slice (some ⟨g2, 0, none⟩) (D.m2 k) (D.m2 k))) (some g) := by
  obtain ⟨xs, ho, hx⟩ := h
  rw [Nat.zero_add]
  obtain ⟨o1, e1⟩ := ho.stored (k * 2) (.slice (some ⟨g1, 0, none⟩) (D.m1 k) (D.m1 k))
  obtain ⟨o2, e2⟩ := o1.stored (k * 2 + 1) (.slice (some ⟨g2, 0, none⟩) (D.m2 k) (D.m2 k))
  have hl : xs.length = n * 2 := ho.1
  refine ⟨⟨_, (ho.cellAt (k * 2) (by omega)).trans (List.getElem?_eq_getElem (by omega))⟩, ⟨_, (o1.cellAt (k * 2 + 1) (by omega)).trans (List.getElem?_eq_getElem (by simp; omega))⟩,
    ho.frozenAt _, o1.frozenAt _, ⟨_, o2, fun i hi => ?_⟩, ⟨e2.os.trans e1.os, e2.tape.trans e1.tape, e2.output.trans e1.output, Nat.le_trans e1.size e2.size, fun j hj hr => (e2.block j (Nat.lt_of_lt_of_le hj e1.size) hr).trans (e1.block j hj hr)⟩⟩
  by_cases e : i = k
  · subst e
    refine ⟨g1, g2, ?_, ?_, l1, l2, (i1.other _ _ (by simp; omega)).other _ _ (by simp; omega), (i2.other _ _ (by simp; omega)).other _ _ (by simp; omega)⟩
    · rw [List.getElem?_set_ne (by omega), List.getElem?_set_self (by omega)]
    · rw [List.getElem?_set_self (by simp; omega)]
  · obtain ⟨h1, h2, a1, a2, a3, a4, a5, a6⟩ := hx i (by omega)
    refine ⟨h1, h2, ?_, ?_, a3, a4, (a5.other _ _ (by simp; omega)).other _ _ (by simp; omega), (a6.other _ _ (by simp; omega)).other _ _ (by simp; omega)⟩
    · rw [List.getElem?_set_ne (by omega), List.getElem?_set_ne (by omega)]; exact a1
    · rw [List.getElem?_set_ne (by omega), List.getElem?_set_ne (by omega)]; exact a2

set_option maxRecDepth 20000 in
theorem makeEqs (w : World) (n : Nat) (hn : n ≤ 1048576) : ∃ w', (Instr.makeSlice 40 (.int .i64 (n : Int)) (.int .i64 (n : Int))).run Try.prog w = .ok (.slice (some ⟨w.heap.size, 0, none⟩) n n) w' ∧
      w'.ownsRow w.heap.size 29 2 (.slice (some ⟨w.heap.size, 0, none⟩) n n) n (madeCells (Value.agg #[.slice none 0 0, .slice none 0 0]).cells (n * 2)).toList ∧ w.grownBy w' none :=
  run_make_full (P := Try.prog) w w.heap.size 40 29 _ (.agg #[.slice none 0 0, .slice none 0 0]) 2 Try.underlying40 rfl rfl rfl .i64 .i64 n (by show 48 * n ≤ _; omega) (by unfold maxLen; omega) (Nat.le_refl _)

end Go.Proofs.Ytbgemmhkfbfooaa

/- Contracts: whether two lists of equations are the same, as the model and as the program tells it. -/
namespace Go.Proofs.Ytbgemmhkfbfooaa
open Go.RowKit

noncomputable def eqB (m1 : Nat) (L1 : Nat → Int) (m2 : Nat) (L2 : Nat → Int) (k1 : Nat) (R1 : Nat → Int) (k2 : Nat) (R2 : Nat → Int) : Bool := sameI m1 k1 L1 R1 && sameI m2 k2 L2 R2

noncomputable def eqAt (D E : EqL) (i : Nat) : Bool := eqB (D.m1 i) (D.L1 i) (D.m2 i) (D.L2 i) (E.m1 i) (E.L1 i) (E.m2 i) (E.L2 i)

open Classical in
noncomputable def sameE (n k : Nat) (D E : EqL) : Bool := decide (n = k ∧ ∀ i, i < n → eqAt D E i = true)

theorem sameE_len {n k : Nat} {D E : EqL} (h : n ≠ k) : sameE n k D E = false := by simp [sameE, h]
theorem sameE_no {n : Nat} {D E : EqL} {i : Nat} (hi : i < n) (h : eqAt D E i = false) : sameE n n D E = false := by
  simp only [sameE, decide_eq_false_iff_not]
  rintro ⟨_, hx⟩
  rw [hx i hi] at h; cases h
theorem sameE_yes {n : Nat} {D E : EqL} (h : ∀ i, i < n → eqAt D E i = true) : sameE n n D E = true := by
  unfold sameE; exact decide_eq_true ⟨rfl, h⟩

set_option maxRecDepth 20000 in
set_option maxHeartbeats 800000 in
theorem sameSides_any (b1 o1 b2 o2 m1 c1 m2 c2 b3 o3 b4 o4 k1 c3 k2 c4 : Nat) (L1 L2 R1 R2 : Nat → Int) (w : World) (h1 : Ints w b1 o1 m1 L1) (h2 : Ints w b2 o2 m2 L2) (h3 : Ints w b3 o3 k1 R1) (h4 : Ints w b4 o4 k2 R2) (hm1 : m1 ≤ 1048576) (hm2 : m2 ≤ 1048576) :
    Calls Try.prog 32 #[.agg #[.slice (some ⟨b1, o1, none⟩) m1 c1, .slice (some ⟨b2, o2, none⟩) m2 c2], .agg #[.slice (some ⟨b3, o3, none⟩) k1 c3, .slice (some ⟨b4, o4, none⟩) k2 c4]] w fun e w' => e = .returned (.bool (eqB m1 L1 m2 L2 k1 R1 k2 R2)) ∧ Below w.heap.size w w' := by
  have A1 := hidden (alloc_below w (.cells #[.slice (some ⟨b1, o1, none⟩) m1 c1, .slice (some ⟨b2, o2, none⟩) m2 c2] 29))
  have X1 := hidden (Two.new w (.slice (some ⟨b1, o1, none⟩) m1 c1) (.slice (some ⟨b2, o2, none⟩) m2 c2) 29)
  have A2 := hidden (alloc_below (w.alloc (.cells #[.slice (some ⟨b1, o1, none⟩) m1 c1, .slice (some ⟨b2, o2, none⟩) m2 c2] 29)) (.cells #[.slice (some ⟨b3, o3, none⟩) k1 c3, .slice (some ⟨b4, o4, none⟩) k2 c4] 29))
  have X2 := hidden (Two.new (w.alloc (.cells #[.slice (some ⟨b1, o1, none⟩) m1 c1, .slice (some ⟨b2, o2, none⟩) m2 c2] 29)) (.slice (some ⟨b3, o3, none⟩) k1 c3) (.slice (some ⟨b4, o4, none⟩) k2 c4) 29)
  replace X1 := hidden (X1.out.keep A2.out)
  simp only [World.size_alloc] at X2
  have B := hidden (keepB A1.out A2.out)
  have H1 := hidden (h1.keep B.out)
  have H2 := hidden (h2.keep B.out)
  have H3 := hidden (h3.keep B.out)
  have H4 := hidden (h4.keep B.out)
  clear h1 h2 h3 h4
  go_enter Try.func32, Try.ntmps32
  go_wp2_with fail
  with_reducible refine (sameTerms_any _ _ _ _ _ _ _ _ L1 R1 _ H1.out H3.out hm1).mono ?_
  rintro e w1 ⟨rfl, hb⟩
  replace B := hidden (keepB B.out hb)
  replace H2 := hidden (H2.out.keep hb)
  replace H4 := hidden (H4.out.keep hb)
  replace X1 := hidden (X1.out.keep hb)
  replace X2 := hidden (X2.out.keep hb)
  clear hb H1 H3
  generalize hz : sameI m1 k1 L1 R1 = ib
  cases ib
  · have HR := hidden (show eqB m1 L1 m2 L2 k1 R1 k2 R2 = false by simp [eqB, hz])
    clear hz
    go_wp2
    go_ret
    exact ⟨by rw [HR.out]; rfl, B.out⟩
  · have HR := hidden (show eqB m1 L1 m2 L2 k1 R1 k2 R2 = sameI m2 k2 L2 R2 by simp [eqB, hz])
    clear hz
    have x1 := X1.out.c1
    have x2 := X2.out.c1
    go_wp2_with fail
    with_reducible refine (sameTerms_any _ _ _ _ _ _ _ _ L2 R2 _ H2.out H4.out hm2).mono ?_
    rintro e w2 ⟨rfl, hb⟩
    replace B := hidden (keepB B.out hb)
    clear hb x1 x2
    go_wp2
    go_ret
    exact ⟨by rw [HR.out]; rfl, B.out⟩

set_option maxRecDepth 20000 in
set_option maxHeartbeats 800000 in
theorem l4Same_any (x y b1 o1 b2 o2 m1 c1 m2 c2 z t b3 o3 b4 o4 k1 c3 k2 c4 : Nat) (L1 L2 R1 R2 : Nat → Int) (w : World) (d1 : w.cell? ⟨x, y, none⟩ = some (.slice (some ⟨b1, o1, none⟩) m1 c1)) (d2 : w.cell? ⟨x, y + 1, none⟩ = some (.slice (some ⟨b2, o2, none⟩) m2 c2)) (d3 : w.cell? ⟨z, t, none⟩ = some (.slice (some ⟨b3, o3, none⟩) k1 c3)) (d4 : w.cell? ⟨z, t + 1, none⟩ = some (.slice (some ⟨b4, o4, none⟩) k2 c4))
    (h1 : Ints w b1 o1 m1 L1) (h2 : Ints w b2 o2 m2 L2) (h3 : Ints w b3 o3 k1 R1) (h4 : Ints w b4 o4 k2 R2) (hm1 : m1 ≤ 1048576) (hm2 : m2 ≤ 1048576) :
    Calls Try.prog 33 #[.pointer (some ⟨x, y, none⟩), .pointer (some ⟨z, t, none⟩)] w fun e w' => e = .returned (.bool (eqB m1 L1 m2 L2 k1 R1 k2 R2)) ∧ Below w.heap.size w w' := by
  have H1 := hidden h1
  have H2 := hidden h2
  have H3 := hidden h3
  have H4 := hidden h4
  have hx := World.block_lt_of_cell? w _ d2
  have hz := World.block_lt_of_cell? w _ d4
  have D2 := hidden d2
  have D4 := hidden d4
  clear h1 h2 h3 h4
  have D1 := hidden d1
  have D3 := hidden d3
  have CK := hidden (show ∀ w', Below w.heap.size w w' → (w'.cell? ⟨x, y, none⟩ = some (.slice (some ⟨b1, o1, none⟩) m1 c1) ∧ w'.cell? ⟨x, y + 1, none⟩ = some (.slice (some ⟨b2, o2, none⟩) m2 c2) ∧ w'.cell? ⟨z, t, none⟩ = some (.slice (some ⟨b3, o3, none⟩) k1 c3) ∧ w'.cell? ⟨z, t + 1, none⟩ = some (.slice (some ⟨b4, o4, none⟩) k2 c4)) from fun w' hb => ⟨((bcell hb).1 x y hx).trans D1.out, ((bcell hb).1 x (y + 1) hx).trans D2.out, ((bcell hb).1 z t hz).trans D3.out, ((bcell hb).1 z (t + 1) hz).trans D4.out⟩)
  have S1 := hidden (show ∀ wc, Below w.heap.size w wc → Calls Try.prog 56 #[.slice (some ⟨b1, o1, none⟩) m1 c1, .slice (some ⟨b3, o3, none⟩) k1 c3] wc fun e w' => e = .returned (.bool (sameI m1 k1 L1 R1)) ∧ Below w.heap.size w w' ∧ (w'.cell? ⟨x, y, none⟩ = some (.slice (some ⟨b1, o1, none⟩) m1 c1) ∧ w'.cell? ⟨x, y + 1, none⟩ = some (.slice (some ⟨b2, o2, none⟩) m2 c2) ∧ w'.cell? ⟨z, t, none⟩ = some (.slice (some ⟨b3, o3, none⟩) k1 c3) ∧ w'.cell? ⟨z, t + 1, none⟩ = some (.slice (some ⟨b4, o4, none⟩) k2 c4)) from fun wc hc => by
    refine (l1Same_any _ _ _ _ _ _ _ _ L1 R1 _ (H1.out.keep hc) (H3.out.keep hc) hm1).mono ?_
    rintro e w' ⟨rfl, hb⟩
    exact ⟨rfl, keepB hc hb, CK.out _ (keepB hc hb)⟩)
  have S2 := hidden (show ∀ wc, Below w.heap.size w wc → Calls Try.prog 56 #[.slice (some ⟨b2, o2, none⟩) m2 c2, .slice (some ⟨b4, o4, none⟩) k2 c4] wc fun e w' => e = .returned (.bool (sameI m2 k2 L2 R2)) ∧ Below w.heap.size w w' ∧ (w'.cell? ⟨x, y, none⟩ = some (.slice (some ⟨b1, o1, none⟩) m1 c1) ∧ w'.cell? ⟨x, y + 1, none⟩ = some (.slice (some ⟨b2, o2, none⟩) m2 c2) ∧ w'.cell? ⟨z, t, none⟩ = some (.slice (some ⟨b3, o3, none⟩) k1 c3) ∧ w'.cell? ⟨z, t + 1, none⟩ = some (.slice (some ⟨b4, o4, none⟩) k2 c4)) from fun wc hc => by
    refine (l1Same_any _ _ _ _ _ _ _ _ L2 R2 _ (H2.out.keep hc) (H4.out.keep hc) hm2).mono ?_
    rintro e w' ⟨rfl, hb⟩
    exact ⟨rfl, keepB hc hb, CK.out _ (keepB hc hb)⟩)
  clear H1 H2 H3 H4 D1 D2 D3 D4 hx hz CK
  generalize hq : sameI m1 k1 L1 R1 = ib at S1
  cases ib
  · have HR := hidden (show eqB m1 L1 m2 L2 k1 R1 k2 R2 = false by simp [eqB, hq])
    clear hq
    go_enter Try.func33, Try.ntmps33
    go_wp2_with fail
    refine wp_region_held_drew (S := fun wz => wz.cell? ⟨x, y, none⟩ = some (.slice (some ⟨b1, o1, none⟩) m1 c1) ∧ wz.cell? ⟨x, y + 1, none⟩ = some (.slice (some ⟨b2, o2, none⟩) m2 c2) ∧ wz.cell? ⟨z, t, none⟩ = some (.slice (some ⟨b3, o3, none⟩) k1 c3) ∧ wz.cell? ⟨z, t + 1, none⟩ = some (.slice (some ⟨b4, o4, none⟩) k2 c4)) (by kernel_rfl) ⟨d1, d2, d3, d4⟩ (fun hHeld => ?_)
    refine wpAnyH_take (i := 0) (oi := { dst := some 5, op := Op.move (Operand.tmp 0), type := 55, pos := "l04_text.go:197", after := #[], guard := none }) (v := ?_) rfl (by kernel_rfl) (by kernel_rfl) (by kernel_rfl) (fun _ _ _ h => h) (Or.inl ⟨by rfl, ?_⟩) (by assumption) ?_
    rotate_left
    · (intro wv hSw; (try dsimp only at hSw); go_simp; try with_reducible rfl)
    try simp only [Act.put, List.setIfInBounds_toArray, List.set_cons_zero, List.set_cons_succ]
    refine wpAnyH_take (i := 1) (oi := { dst := some 6, op := Op.nilCheck (Operand.tmp 5), type := 0, pos := "l04_text.go:197", after := #[{ on := 0, ground := Ground.data }], guard := none }) (v := ?_) rfl (by kernel_rfl) (by kernel_rfl) (by kernel_rfl) (fun _ _ _ h => h) (Or.inl ⟨by rfl, ?_⟩) (by assumption) ?_
    rotate_left
    · (intro wv hSw; (try dsimp only at hSw); go_simp; try with_reducible rfl)
    try simp only [Act.put, List.setIfInBounds_toArray, List.set_cons_zero, List.set_cons_succ]
    refine wpAnyH_take (i := 2) (oi := { dst := some 7, op := Op.fieldAddr 29 (Operand.tmp 6) 0, type := 0, pos := "l04_text.go:197", after := #[{ on := 1, ground := Ground.data }], guard := none }) (v := ?_) rfl (by kernel_rfl) (by kernel_rfl) (by kernel_rfl) (fun _ _ _ h => h) (Or.inl ⟨by rfl, ?_⟩) (by assumption) ?_
    rotate_left
    · (intro wv hSw; (try dsimp only at hSw); go_simp; try with_reducible rfl)
    try simp only [Act.put, List.setIfInBounds_toArray, List.set_cons_zero, List.set_cons_succ]
    refine wpAnyH_take (i := 3) (oi := { dst := some 8, op := Op.load 27 (Operand.tmp 7), type := 27, pos := "l04_text.go:197", after := #[{ on := 2, ground := Ground.data }], guard := none }) (v := ?_) rfl (by kernel_rfl) (by kernel_rfl) (by kernel_rfl) (fun _ _ _ h => h) (Or.inl ⟨by rfl, ?_⟩) (by assumption) ?_
    rotate_left
    · (intro wv hSw; (try dsimp only at hSw); go_simp; try with_reducible rfl)
    try simp only [Act.put, List.setIfInBounds_toArray, List.set_cons_zero, List.set_cons_succ]
    refine wpAnyH_take (i := 4) (oi := { dst := some 9, op := Op.move (Operand.tmp 1), type := 55, pos := "l04_text.go:197", after := #[], guard := none }) (v := ?_) rfl (by kernel_rfl) (by kernel_rfl) (by kernel_rfl) (fun _ _ _ h => h) (Or.inl ⟨by rfl, ?_⟩) (by assumption) ?_
    rotate_left
    · (intro wv hSw; (try dsimp only at hSw); go_simp; try with_reducible rfl)
    try simp only [Act.put, List.setIfInBounds_toArray, List.set_cons_zero, List.set_cons_succ]
    refine wpAnyH_take (i := 5) (oi := { dst := some 10, op := Op.nilCheck (Operand.tmp 9), type := 0, pos := "l04_text.go:197", after := #[{ on := 4, ground := Ground.data }], guard := none }) (v := ?_) rfl (by kernel_rfl) (by kernel_rfl) (by kernel_rfl) (fun _ _ _ h => h) (Or.inl ⟨by rfl, ?_⟩) (by assumption) ?_
    rotate_left
    · (intro wv hSw; (try dsimp only at hSw); go_simp; try with_reducible rfl)
    try simp only [Act.put, List.setIfInBounds_toArray, List.set_cons_zero, List.set_cons_succ]
    refine wpAnyH_take (i := 6) (oi := { dst := some 11, op := Op.fieldAddr 29 (Operand.tmp 10) 0, type := 0, pos := "l04_text.go:197", after := #[{ on := 5, ground := Ground.data }], guard := none }) (v := ?_) rfl (by kernel_rfl) (by kernel_rfl) (by kernel_rfl) (fun _ _ _ h => h) (Or.inl ⟨by rfl, ?_⟩) (by assumption) ?_
    rotate_left
    · (intro wv hSw; (try dsimp only at hSw); go_simp; try with_reducible rfl)
    try simp only [Act.put, List.setIfInBounds_toArray, List.set_cons_zero, List.set_cons_succ]
    refine wpAnyH_take (i := 7) (oi := { dst := some 12, op := Op.load 27 (Operand.tmp 11), type := 27, pos := "l04_text.go:197", after := #[{ on := 6, ground := Ground.data }], guard := none }) (v := ?_) rfl (by kernel_rfl) (by kernel_rfl) (by kernel_rfl) (fun _ _ _ h => h) (Or.inl ⟨by rfl, ?_⟩) (by assumption) ?_
    rotate_left
    · (intro wv hSw; (try dsimp only at hSw); go_simp; try with_reducible rfl)
    try simp only [Act.put, List.setIfInBounds_toArray, List.set_cons_zero, List.set_cons_succ]
    refine wpAnyH_ready (rs := [8]) (by kernel_rfl) (by simp) ?_
    refine AllReadyH.cons (o := { dst := some 13, op := Op.call { callee := Callee.value (Operand.func 56), args := #[Operand.tmp 8, Operand.tmp 12], argTypes := #[27, 27] }, type := 4, pos := "l04_text.go:197", after := #[{ on := 3, ground := Ground.data }, { on := 7, ground := Ground.data }], guard := none }) rfl (fun K hK => ?_) AllReadyH.nil
    go_simp
    go_at_call 56; with_reducible refine (S1.out _ ?_).mono ?_; exact (Below.refl _ _).drew; rintro e v5 ⟨rfl, b5', q5⟩
    try go_wp2_with fail
    refine hK.out _ _ ?_ (fun hHeld => ?_)
    · exact q5
    clear hK K
    try simp only [Act.put, List.setIfInBounds_toArray, List.set_cons_zero, List.set_cons_succ]
    refine wpAnyH_take (i := 9) (oi := { dst := some 14, op := Op.move (Operand.tmp 13), type := 4, pos := "l04_text.go:197", after := #[{ on := 8, ground := Ground.data }, { on := 8, ground := Ground.chain }], guard := none }) (v := ?_) rfl (by kernel_rfl) (by kernel_rfl) (by kernel_rfl) (fun _ _ _ h => h) (Or.inl ⟨by rfl, ?_⟩) (by assumption) ?_
    rotate_left
    · (intro wv hSw; (try dsimp only at hSw); go_simp; try with_reducible rfl)
    try simp only [Act.put, List.setIfInBounds_toArray, List.set_cons_zero, List.set_cons_succ]
    refine wpAnyH_take (i := 10) (oi := { dst := some 15, op := Op.move (Operand.tmp 0), type := 55, pos := "l04_text.go:197", after := #[{ on := 9, ground := Ground.guard }], guard := some (9, true) }) (v := undef) rfl (by kernel_rfl) (by kernel_rfl) (by kernel_rfl) (fun _ _ _ h => h) (Or.inr ⟨by rfl, rfl⟩) (by assumption) ?_
    try simp only [Act.put, List.setIfInBounds_toArray, List.set_cons_zero, List.set_cons_succ]
    refine wpAnyH_take (i := 11) (oi := { dst := some 16, op := Op.nilCheck (Operand.tmp 15), type := 0, pos := "l04_text.go:197", after := #[{ on := 10, ground := Ground.data }, { on := 9, ground := Ground.guard }], guard := some (9, true) }) (v := undef) rfl (by kernel_rfl) (by kernel_rfl) (by kernel_rfl) (fun _ _ _ h => h) (Or.inr ⟨by rfl, rfl⟩) (by assumption) ?_
    try simp only [Act.put, List.setIfInBounds_toArray, List.set_cons_zero, List.set_cons_succ]
    refine wpAnyH_take (i := 12) (oi := { dst := some 17, op := Op.fieldAddr 29 (Operand.tmp 16) 1, type := 0, pos := "l04_text.go:197", after := #[{ on := 11, ground := Ground.data }, { on := 9, ground := Ground.guard }], guard := some (9, true) }) (v := undef) rfl (by kernel_rfl) (by kernel_rfl) (by kernel_rfl) (fun _ _ _ h => h) (Or.inr ⟨by rfl, rfl⟩) (by assumption) ?_
    try simp only [Act.put, List.setIfInBounds_toArray, List.set_cons_zero, List.set_cons_succ]
    refine wpAnyH_take (i := 13) (oi := { dst := some 18, op := Op.load 27 (Operand.tmp 17), type := 27, pos := "l04_text.go:197", after := #[{ on := 12, ground := Ground.data }, { on := 9, ground := Ground.guard }], guard := some (9, true) }) (v := undef) rfl (by kernel_rfl) (by kernel_rfl) (by kernel_rfl) (fun _ _ _ h => h) (Or.inr ⟨by rfl, rfl⟩) (by assumption) ?_
    try simp only [Act.put, List.setIfInBounds_toArray, List.set_cons_zero, List.set_cons_succ]
    refine wpAnyH_take (i := 14) (oi := { dst := some 19, op := Op.move (Operand.tmp 1), type := 55, pos := "l04_text.go:197", after := #[{ on := 9, ground := Ground.guard }], guard := some (9, true) }) (v := undef) rfl (by kernel_rfl) (by kernel_rfl) (by kernel_rfl) (fun _ _ _ h => h) (Or.inr ⟨by rfl, rfl⟩) (by assumption) ?_
    try simp only [Act.put, List.setIfInBounds_toArray, List.set_cons_zero, List.set_cons_succ]
    refine wpAnyH_take (i := 15) (oi := { dst := some 20, op := Op.nilCheck (Operand.tmp 19), type := 0, pos := "l04_text.go:197", after := #[{ on := 14, ground := Ground.data }, { on := 9, ground := Ground.guard }], guard := some (9, true) }) (v := undef) rfl (by kernel_rfl) (by kernel_rfl) (by kernel_rfl) (fun _ _ _ h => h) (Or.inr ⟨by rfl, rfl⟩) (by assumption) ?_
    try simp only [Act.put, List.setIfInBounds_toArray, List.set_cons_zero, List.set_cons_succ]
    refine wpAnyH_take (i := 16) (oi := { dst := some 21, op := Op.fieldAddr 29 (Operand.tmp 20) 1, type := 0, pos := "l04_text.go:197", after := #[{ on := 15, ground := Ground.data }, { on := 9, ground := Ground.guard }], guard := some (9, true) }) (v := undef) rfl (by kernel_rfl) (by kernel_rfl) (by kernel_rfl) (fun _ _ _ h => h) (Or.inr ⟨by rfl, rfl⟩) (by assumption) ?_
    try simp only [Act.put, List.setIfInBounds_toArray, List.set_cons_zero, List.set_cons_succ]
    refine wpAnyH_take (i := 17) (oi := { dst := some 22, op := Op.load 27 (Operand.tmp 21), type := 27, pos := "l04_text.go:197", after := #[{ on := 16, ground := Ground.data }, { on := 9, ground := Ground.guard }], guard := some (9, true) }) (v := undef) rfl (by kernel_rfl) (by kernel_rfl) (by kernel_rfl) (fun _ _ _ h => h) (Or.inr ⟨by rfl, rfl⟩) (by assumption) ?_
    try simp only [Act.put, List.setIfInBounds_toArray, List.set_cons_zero, List.set_cons_succ]
    refine wpAnyH_take (i := 18) (oi := { dst := some 23, op := Op.call { callee := Callee.value (Operand.func 56), args := #[Operand.tmp 18, Operand.tmp 22], argTypes := #[27, 27] }, type := 4, pos := "l04_text.go:197", after := #[{ on := 13, ground := Ground.data }, { on := 17, ground := Ground.data }, { on := 9, ground := Ground.chain }, { on := 9, ground := Ground.guard }], guard := some (9, true) }) (v := undef) rfl (by kernel_rfl) (by kernel_rfl) (by kernel_rfl) (fun _ _ _ h => h) (Or.inr ⟨by rfl, rfl⟩) (by assumption) ?_
    try simp only [Act.put, List.setIfInBounds_toArray, List.set_cons_zero, List.set_cons_succ]
    refine wpAnyH_take (i := 19) (oi := { dst := some 24, op := Op.pick (Operand.tmp 14) (Operand.tmp 23) (Operand.const (Value.bool false)), type := 4, pos := "l04_text.go:197", after := #[{ on := 9, ground := Ground.data }, { on := 18, ground := Ground.data }], guard := none }) (v := ?_) rfl (by kernel_rfl) (by kernel_rfl) (by kernel_rfl) (fun _ _ _ h => h) (Or.inl ⟨by rfl, ?_⟩) (by assumption) ?_
    rotate_left
    · (intro wv hSw; (try dsimp only at hSw); go_simp; try with_reducible rfl)
    try simp only [Act.put, List.setIfInBounds_toArray, List.set_cons_zero, List.set_cons_succ]
    refine wpAnyH_take (i := 20) (oi := { dst := some 4, op := Op.assign (Operand.tmp 24), type := 4, pos := "l04_text.go:197", after := #[{ on := 19, ground := Ground.data }, { on := 18, ground := Ground.chain }, { on := 0, ground := Ground.phase }, { on := 1, ground := Ground.phase }, { on := 2, ground := Ground.phase }, { on := 3, ground := Ground.phase }, { on := 4, ground := Ground.phase }, { on := 5, ground := Ground.phase }, { on := 6, ground := Ground.phase }, { on := 7, ground := Ground.phase }, { on := 8, ground := Ground.phase }, { on := 9, ground := Ground.phase }, { on := 10, ground := Ground.phase }, { on := 11, ground := Ground.phase }, { on := 12, ground := Ground.phase }, { on := 13, ground := Ground.phase }, { on := 14, ground := Ground.phase }, { on := 15, ground := Ground.phase }, { on := 16, ground := Ground.phase }, { on := 17, ground := Ground.phase }, { on := 18, ground := Ground.phase }, { on := 19, ground := Ground.phase }], guard := none }) (v := ?_) rfl (by kernel_rfl) (by kernel_rfl) (by kernel_rfl) (fun _ _ _ h => h) (Or.inl ⟨by rfl, ?_⟩) (by assumption) ?_
    rotate_left
    · (intro wv hSw; (try dsimp only at hSw); go_simp; try with_reducible rfl)
    try simp only [Act.put, List.setIfInBounds_toArray, List.set_cons_zero, List.set_cons_succ]
    refine wpAnyH_done (by kernel_rfl) ?_ _
    go_wp2
    go_ret
    exact ⟨by rw [HR.out]; rfl, b5'⟩
  · have HR := hidden (show eqB m1 L1 m2 L2 k1 R1 k2 R2 = sameI m2 k2 L2 R2 by simp [eqB, hq])
    clear hq
    go_enter Try.func33, Try.ntmps33
    go_wp2_with fail
    refine wp_region_held_drew (S := fun wz => wz.cell? ⟨x, y, none⟩ = some (.slice (some ⟨b1, o1, none⟩) m1 c1) ∧ wz.cell? ⟨x, y + 1, none⟩ = some (.slice (some ⟨b2, o2, none⟩) m2 c2) ∧ wz.cell? ⟨z, t, none⟩ = some (.slice (some ⟨b3, o3, none⟩) k1 c3) ∧ wz.cell? ⟨z, t + 1, none⟩ = some (.slice (some ⟨b4, o4, none⟩) k2 c4)) (by kernel_rfl) ⟨d1, d2, d3, d4⟩ (fun hHeld => ?_)
    refine wpAnyH_take (i := 0) (oi := { dst := some 5, op := Op.move (Operand.tmp 0), type := 55, pos := "l04_text.go:197", after := #[], guard := none }) (v := ?_) rfl (by kernel_rfl) (by kernel_rfl) (by kernel_rfl) (fun _ _ _ h => h) (Or.inl ⟨by rfl, ?_⟩) (by assumption) ?_
    rotate_left
    · (intro wv hSw; (try dsimp only at hSw); go_simp; try with_reducible rfl)
    try simp only [Act.put, List.setIfInBounds_toArray, List.set_cons_zero, List.set_cons_succ]
    refine wpAnyH_take (i := 1) (oi := { dst := some 6, op := Op.nilCheck (Operand.tmp 5), type := 0, pos := "l04_text.go:197", after := #[{ on := 0, ground := Ground.data }], guard := none }) (v := ?_) rfl (by kernel_rfl) (by kernel_rfl) (by kernel_rfl) (fun _ _ _ h => h) (Or.inl ⟨by rfl, ?_⟩) (by assumption) ?_
    rotate_left
    · (intro wv hSw; (try dsimp only at hSw); go_simp; try with_reducible rfl)
    try simp only [Act.put, List.setIfInBounds_toArray, List.set_cons_zero, List.set_cons_succ]
    refine wpAnyH_take (i := 2) (oi := { dst := some 7, op := Op.fieldAddr 29 (Operand.tmp 6) 0, type := 0, pos := "l04_text.go:197", after := #[{ on := 1, ground := Ground.data }], guard := none }) (v := ?_) rfl (by kernel_rfl) (by kernel_rfl) (by kernel_rfl) (fun _ _ _ h => h) (Or.inl ⟨by rfl, ?_⟩) (by assumption) ?_
    rotate_left
    · (intro wv hSw; (try dsimp only at hSw); go_simp; try with_reducible rfl)
    try simp only [Act.put, List.setIfInBounds_toArray, List.set_cons_zero, List.set_cons_succ]
    refine wpAnyH_take (i := 3) (oi := { dst := some 8, op := Op.load 27 (Operand.tmp 7), type := 27, pos := "l04_text.go:197", after := #[{ on := 2, ground := Ground.data }], guard := none }) (v := ?_) rfl (by kernel_rfl) (by kernel_rfl) (by kernel_rfl) (fun _ _ _ h => h) (Or.inl ⟨by rfl, ?_⟩) (by assumption) ?_
    rotate_left
    · (intro wv hSw; (try dsimp only at hSw); go_simp; try with_reducible rfl)
    try simp only [Act.put, List.setIfInBounds_toArray, List.set_cons_zero, List.set_cons_succ]
    refine wpAnyH_take (i := 4) (oi := { dst := some 9, op := Op.move (Operand.tmp 1), type := 55, pos := "l04_text.go:197", after := #[], guard := none }) (v := ?_) rfl (by kernel_rfl) (by kernel_rfl) (by kernel_rfl) (fun _ _ _ h => h) (Or.inl ⟨by rfl, ?_⟩) (by assumption) ?_
    rotate_left
    · (intro wv hSw; (try dsimp only at hSw); go_simp; try with_reducible rfl)
    try simp only [Act.put, List.setIfInBounds_toArray, List.set_cons_zero, List.set_cons_succ]
    refine wpAnyH_take (i := 5) (oi := { dst := some 10, op := Op.nilCheck (Operand.tmp 9), type := 0, pos := "l04_text.go:197", after := #[{ on := 4, ground := Ground.data }], guard := none }) (v := ?_) rfl (by kernel_rfl) (by kernel_rfl) (by kernel_rfl) (fun _ _ _ h => h) (Or.inl ⟨by rfl, ?_⟩) (by assumption) ?_
    rotate_left
    · (intro wv hSw; (try dsimp only at hSw); go_simp; try with_reducible rfl)
    try simp only [Act.put, List.setIfInBounds_toArray, List.set_cons_zero, List.set_cons_succ]
    refine wpAnyH_take (i := 6) (oi := { dst := some 11, op := Op.fieldAddr 29 (Operand.tmp 10) 0, type := 0, pos := "l04_text.go:197", after := #[{ on := 5, ground := Ground.data }], guard := none }) (v := ?_) rfl (by kernel_rfl) (by kernel_rfl) (by kernel_rfl) (fun _ _ _ h => h) (Or.inl ⟨by rfl, ?_⟩) (by assumption) ?_
    rotate_left
    · (intro wv hSw; (try dsimp only at hSw); go_simp; try with_reducible rfl)
    try simp only [Act.put, List.setIfInBounds_toArray, List.set_cons_zero, List.set_cons_succ]
    refine wpAnyH_take (i := 7) (oi := { dst := some 12, op := Op.load 27 (Operand.tmp 11), type := 27, pos := "l04_text.go:197", after := #[{ on := 6, ground := Ground.data }], guard := none }) (v := ?_) rfl (by kernel_rfl) (by kernel_rfl) (by kernel_rfl) (fun _ _ _ h => h) (Or.inl ⟨by rfl, ?_⟩) (by assumption) ?_
    rotate_left
    · (intro wv hSw; (try dsimp only at hSw); go_simp; try with_reducible rfl)
    try simp only [Act.put, List.setIfInBounds_toArray, List.set_cons_zero, List.set_cons_succ]
    refine wpAnyH_ready (rs := [8]) (by kernel_rfl) (by simp) ?_
    refine AllReadyH.cons (o := { dst := some 13, op := Op.call { callee := Callee.value (Operand.func 56), args := #[Operand.tmp 8, Operand.tmp 12], argTypes := #[27, 27] }, type := 4, pos := "l04_text.go:197", after := #[{ on := 3, ground := Ground.data }, { on := 7, ground := Ground.data }], guard := none }) rfl (fun K hK => ?_) AllReadyH.nil
    go_simp
    go_at_call 56; with_reducible refine (S1.out _ ?_).mono ?_; exact (Below.refl _ _).drew; rintro e v5 ⟨rfl, b5', q5⟩
    try go_wp2_with fail
    refine hK.out _ _ ?_ (fun hHeld => ?_)
    · exact q5
    clear hK K
    try simp only [Act.put, List.setIfInBounds_toArray, List.set_cons_zero, List.set_cons_succ]
    refine wpAnyH_take (i := 9) (oi := { dst := some 14, op := Op.move (Operand.tmp 13), type := 4, pos := "l04_text.go:197", after := #[{ on := 8, ground := Ground.data }, { on := 8, ground := Ground.chain }], guard := none }) (v := ?_) rfl (by kernel_rfl) (by kernel_rfl) (by kernel_rfl) (fun _ _ _ h => h) (Or.inl ⟨by rfl, ?_⟩) (by assumption) ?_
    rotate_left
    · (intro wv hSw; (try dsimp only at hSw); go_simp; try with_reducible rfl)
    try simp only [Act.put, List.setIfInBounds_toArray, List.set_cons_zero, List.set_cons_succ]
    refine wpAnyH_take (i := 10) (oi := { dst := some 15, op := Op.move (Operand.tmp 0), type := 55, pos := "l04_text.go:197", after := #[{ on := 9, ground := Ground.guard }], guard := some (9, true) }) (v := ?_) rfl (by kernel_rfl) (by kernel_rfl) (by kernel_rfl) (fun _ _ _ h => h) (Or.inl ⟨by rfl, ?_⟩) (by assumption) ?_
    rotate_left
    · (intro wv hSw; (try dsimp only at hSw); go_simp; try with_reducible rfl)
    try simp only [Act.put, List.setIfInBounds_toArray, List.set_cons_zero, List.set_cons_succ]
    refine wpAnyH_take (i := 11) (oi := { dst := some 16, op := Op.nilCheck (Operand.tmp 15), type := 0, pos := "l04_text.go:197", after := #[{ on := 10, ground := Ground.data }, { on := 9, ground := Ground.guard }], guard := some (9, true) }) (v := ?_) rfl (by kernel_rfl) (by kernel_rfl) (by kernel_rfl) (fun _ _ _ h => h) (Or.inl ⟨by rfl, ?_⟩) (by assumption) ?_
    rotate_left
    · (intro wv hSw; (try dsimp only at hSw); go_simp; try with_reducible rfl)
    try simp only [Act.put, List.setIfInBounds_toArray, List.set_cons_zero, List.set_cons_succ]
    refine wpAnyH_take (i := 12) (oi := { dst := some 17, op := Op.fieldAddr 29 (Operand.tmp 16) 1, type := 0, pos := "l04_text.go:197", after := #[{ on := 11, ground := Ground.data }, { on := 9, ground := Ground.guard }], guard := some (9, true) }) (v := ?_) rfl (by kernel_rfl) (by kernel_rfl) (by kernel_rfl) (fun _ _ _ h => h) (Or.inl ⟨by rfl, ?_⟩) (by assumption) ?_
    rotate_left
    · (intro wv hSw; (try dsimp only at hSw); go_simp; try with_reducible rfl)
    try simp only [Act.put, List.setIfInBounds_toArray, List.set_cons_zero, List.set_cons_succ]
    refine wpAnyH_take (i := 13) (oi := { dst := some 18, op := Op.load 27 (Operand.tmp 17), type := 27, pos := "l04_text.go:197", after := #[{ on := 12, ground := Ground.data }, { on := 9, ground := Ground.guard }], guard := some (9, true) }) (v := ?_) rfl (by kernel_rfl) (by kernel_rfl) (by kernel_rfl) (fun _ _ _ h => h) (Or.inl ⟨by rfl, ?_⟩) (by assumption) ?_
    rotate_left
    · (intro wv hSw; (try dsimp only at hSw); go_simp; try with_reducible rfl)
    try simp only [Act.put, List.setIfInBounds_toArray, List.set_cons_zero, List.set_cons_succ]
    refine wpAnyH_take (i := 14) (oi := { dst := some 19, op := Op.move (Operand.tmp 1), type := 55, pos := "l04_text.go:197", after := #[{ on := 9, ground := Ground.guard }], guard := some (9, true) }) (v := ?_) rfl (by kernel_rfl) (by kernel_rfl) (by kernel_rfl) (fun _ _ _ h => h) (Or.inl ⟨by rfl, ?_⟩) (by assumption) ?_
    rotate_left
    · (intro wv hSw; (try dsimp only at hSw); go_simp; try with_reducible rfl)
    try simp only [Act.put, List.setIfInBounds_toArray, List.set_cons_zero, List.set_cons_succ]
    refine wpAnyH_take (i := 15) (oi := { dst := some 20, op := Op.nilCheck (Operand.tmp 19), type := 0, pos := "l04_text.go:197", after := #[{ on := 14, ground := Ground.data }, { on := 9, ground := Ground.guard }], guard := some (9, true) }) (v := ?_) rfl (by kernel_rfl) (by kernel_rfl) (by kernel_rfl) (fun _ _ _ h => h) (Or.inl ⟨by rfl, ?_⟩) (by assumption) ?_
    rotate_left
    · (intro wv hSw; (try dsimp only at hSw); go_simp; try with_reducible rfl)
    try simp only [Act.put, List.setIfInBounds_toArray, List.set_cons_zero, List.set_cons_succ]
    refine wpAnyH_take (i := 16) (oi := { dst := some 21, op := Op.fieldAddr 29 (Operand.tmp 20) 1, type := 0, pos := "l04_text.go:197", after := #[{ on := 15, ground := Ground.data }, { on := 9, ground := Ground.guard }], guard := some (9, true) }) (v := ?_) rfl (by kernel_rfl) (by kernel_rfl) (by kernel_rfl) (fun _ _ _ h => h) (Or.inl ⟨by rfl, ?_⟩) (by assumption) ?_
    rotate_left
    · (intro wv hSw; (try dsimp only at hSw); go_simp; try with_reducible rfl)
    try simp only [Act.put, List.setIfInBounds_toArray, List.set_cons_zero, List.set_cons_succ]
    refine wpAnyH_take (i := 17) (oi := { dst := some 22, op := Op.load 27 (Operand.tmp 21), type := 27, pos := "l04_text.go:197", after := #[{ on := 16, ground := Ground.data }, { on := 9, ground := Ground.guard }], guard := some (9, true) }) (v := ?_) rfl (by kernel_rfl) (by kernel_rfl) (by kernel_rfl) (fun _ _ _ h => h) (Or.inl ⟨by rfl, ?_⟩) (by assumption) ?_
    rotate_left
    · (intro wv hSw; (try dsimp only at hSw); go_simp; try with_reducible rfl)
    try simp only [Act.put, List.setIfInBounds_toArray, List.set_cons_zero, List.set_cons_succ]
    refine wpAnyH_ready (rs := [18]) (by kernel_rfl) (by simp) ?_
    refine AllReadyH.cons (o := { dst := some 23, op := Op.call { callee := Callee.value (Operand.func 56), args := #[Operand.tmp 18, Operand.tmp 22], argTypes := #[27, 27] }, type := 4, pos := "l04_text.go:197", after := #[{ on := 13, ground := Ground.data }, { on := 17, ground := Ground.data }, { on := 9, ground := Ground.chain }, { on := 9, ground := Ground.guard }], guard := some (9, true) }) rfl (fun K hK => ?_) AllReadyH.nil
    go_simp
    go_at_call 56; with_reducible refine (S2.out _ b5').mono ?_; rintro e v6 ⟨rfl, b6', q6⟩
    try go_wp2_with fail
    refine hK.out _ _ ?_ (fun hHeld => ?_)
    · exact q6
    clear hK K
    try simp only [Act.put, List.setIfInBounds_toArray, List.set_cons_zero, List.set_cons_succ]
    refine wpAnyH_take (i := 19) (oi := { dst := some 24, op := Op.pick (Operand.tmp 14) (Operand.tmp 23) (Operand.const (Value.bool false)), type := 4, pos := "l04_text.go:197", after := #[{ on := 9, ground := Ground.data }, { on := 18, ground := Ground.data }], guard := none }) (v := ?_) rfl (by kernel_rfl) (by kernel_rfl) (by kernel_rfl) (fun _ _ _ h => h) (Or.inl ⟨by rfl, ?_⟩) (by assumption) ?_
    rotate_left
    · (intro wv hSw; (try dsimp only at hSw); go_simp; try with_reducible rfl)
    try simp only [Act.put, List.setIfInBounds_toArray, List.set_cons_zero, List.set_cons_succ]
    refine wpAnyH_take (i := 20) (oi := { dst := some 4, op := Op.assign (Operand.tmp 24), type := 4, pos := "l04_text.go:197", after := #[{ on := 19, ground := Ground.data }, { on := 18, ground := Ground.chain }, { on := 0, ground := Ground.phase }, { on := 1, ground := Ground.phase }, { on := 2, ground := Ground.phase }, { on := 3, ground := Ground.phase }, { on := 4, ground := Ground.phase }, { on := 5, ground := Ground.phase }, { on := 6, ground := Ground.phase }, { on := 7, ground := Ground.phase }, { on := 8, ground := Ground.phase }, { on := 9, ground := Ground.phase }, { on := 10, ground := Ground.phase }, { on := 11, ground := Ground.phase }, { on := 12, ground := Ground.phase }, { on := 13, ground := Ground.phase }, { on := 14, ground := Ground.phase }, { on := 15, ground := Ground.phase }, { on := 16, ground := Ground.phase }, { on := 17, ground := Ground.phase }, { on := 18, ground := Ground.phase }, { on := 19, ground := Ground.phase }], guard := none }) (v := ?_) rfl (by kernel_rfl) (by kernel_rfl) (by kernel_rfl) (fun _ _ _ h => h) (Or.inl ⟨by rfl, ?_⟩) (by assumption) ?_
    rotate_left
    · (intro wv hSw; (try dsimp only at hSw); go_simp; try with_reducible rfl)
    try simp only [Act.put, List.setIfInBounds_toArray, List.set_cons_zero, List.set_cons_succ]
    refine wpAnyH_done (by kernel_rfl) ?_ _
    go_wp2
    go_ret
    exact ⟨by rw [HR.out]; rfl, b6'⟩

set_option maxRecDepth 20000 in
set_option maxHeartbeats 800000 in
theorem specSameE_len (p p' : Option Addr) (n k c c' : Nat) (D E : EqL) (w : World) (h : n ≠ k) :
    Calls Try.prog 12 #[.slice p n c, .slice p' k c'] w fun e w' => e = .returned (.bool (sameE n k D E)) ∧ Below w.heap.size w w' := by
  have HR := hidden (sameE_len (D := D) (E := E) h)
  have h1 : ((n : Int) != (k : Int)) = true := by simp; omega
  go_enter Try.func12, Try.ntmps12
  go_wp2
  go_ret
  exact ⟨by rw [HR.out]; rfl, Below.refl _ _⟩

set_option maxRecDepth 20000 in
set_option maxHeartbeats 1600000 in
theorem specSameE_row (b off b' off' n c c' : Nat) (D E : EqL) (w : World) (h : Eqs w b off n D) (h' : Eqs w b' off' n E) (hk : KeptE n D) :
    Calls Try.prog 12 #[.slice (some ⟨b, off, none⟩) n c, .slice (some ⟨b', off', none⟩) n c'] w fun e w' => e = .returned (.bool (sameE n n D E)) ∧ Below w.heap.size w w' := by
  have hn := hk.most
  have H := hidden h
  have H' := hidden h'
  have HK := hidden hk
  clear h h' hk
  go_enter Try.func12, Try.ntmps12
  go_wp2
  go_loopw [5] (fun i wr => ∃ k : Nat, k ≤ n ∧ i = .int .i64 k ∧ Hid (∀ i, i < k → eqAt D E i = true) ∧ Hid (Below w.heap.size w wr)) (fun i _ => n - (intOf i).toNat)
  case atStart => exact ⟨0, Nat.zero_le _, rfl, hidden (fun i hi => by omega), hidden (Below.refl _ _)⟩
  case round =>
    obtain ⟨k, hk, rfl, HE, HB⟩ := hrel
    by_cases hlt : k < n
    · obtain ⟨g1, o1, c1, g2, o2, c2, e1, e2, i1, i2⟩ := (H.out.keep HB.out).row k hlt
      obtain ⟨g3, o3, c3, g4, o4, c4, e3, e4, i3, i4⟩ := (H'.out.keep HB.out).row k hlt
      have S := hidden (l4Same_any b (off + k * 2) g1 o1 g2 o2 (D.m1 k) c1 (D.m2 k) c2 b' (off' + k * 2) g3 o3 g4 o4 (E.m1 k) c3 (E.m2 k) c4 (D.L1 k) (D.L2 k) (E.L1 k) (E.L2 k) wr.drew e1 e2 e3 e4 (i1.keep (Below.refl _ _).drew) (i2.keep (Below.refl _ _).drew) (i3.keep (Below.refl _ _).drew) (i4.keep (Below.refl _ _).drew) (HK.out.m1 k hlt) (HK.out.m2 k hlt))
      replace S := hidden (show Calls Try.prog 33 #[.pointer (some ⟨b, off + k * 2, none⟩), .pointer (some ⟨b', off' + k * 2, none⟩)] wr.drew fun e w' => e = .returned (.bool (eqAt D E k)) ∧ Below wr.drew.heap.size wr.drew w' from S.out)
      clear i1 i2 i3 i4
      generalize hq : eqAt D E k = ib at S
      cases ib
      · have HR := hidden (sameE_no hlt hq)
        clear hq
        go_wp2_with fail
        go_region_with (first | (go_at_call 33; with_reducible refine S.out.mono ?_; rintro e w5 ⟨rfl, hb5⟩))
        all_goals go_wp2
        all_goals go_ret
        all_goals exact ⟨by rw [HR.out]; rfl, keepB HB.out ((Below.refl _ _).drew.trans hb5)⟩
      · have HQ := hidden hq
        clear hq
        go_wp2_with fail
        go_cut [24] (fun t wc => t = .bool false ∧ Below wr.heap.size wr wc)
        case first =>
          go_region_with (first | (go_at_call 33; with_reducible refine S.out.mono ?_; rintro e w5 ⟨rfl, hb5⟩))
          all_goals (go_wp2_with fail; go_meet)
          all_goals exact ⟨rfl, (Below.refl _ _).drew.trans hb5⟩
        case rest =>
          rename World => w5
          obtain ⟨rfl, bc⟩ := hcut
          have B1 := hidden (keepB HB.out bc)
          clear bc e1 e2 e3 e4
          go_wp2
          go_roundw
          case rel => exact ⟨k + 1, by omega, by go_num, hidden (fun i hi => by
            by_cases e : i = k
            · rw [e]; exact HQ.out
            · exact HE.out i (by omega)), B1⟩
          case measure => simp [intOf]; omega
    · have HR := hidden (sameE_yes (n := n) (fun i hi => HE.out i (by omega)))
      go_wp2
      go_ret
      exact ⟨by rw [HR.out]; rfl, HB.out⟩

theorem specSameE_any (b off b' off' n k c c' : Nat) (D E : EqL) (w : World) (h : Eqs w b off n D) (h' : Eqs w b' off' k E) (hk : KeptE n D) :
    Calls Try.prog 12 #[.slice (some ⟨b, off, none⟩) n c, .slice (some ⟨b', off', none⟩) k c'] w fun e w' => e = .returned (.bool (sameE n k D E)) ∧ Below w.heap.size w w' := by
  by_cases e : n = k
  · subst e; exact specSameE_row b off b' off' n c c' D E w h h' hk
  · exact specSameE_len _ _ n k c c' D E w e

set_option maxRecDepth 20000 in
set_option maxHeartbeats 800000 in
theorem equalFunc_len (p p' : Option Addr) (n k c c' : Nat) (D E : EqL) (w : World) (h : n ≠ k) :
    Calls Try.prog 31 #[.slice p n c, .slice p' k c', .func (.func 32) #[] #[]] w fun e w' => e = .returned (.bool (sameE n k D E)) ∧ Below w.heap.size w w' := by
  have HR := hidden (sameE_len (D := D) (E := E) h)
  have h1 : ((n : Int) != (k : Int)) = true := by simp; omega
  go_enter Try.func31, Try.ntmps31
  go_wp2
  go_ret
  exact ⟨by rw [HR.out]; rfl, Below.refl _ _⟩

set_option maxRecDepth 20000 in
set_option maxHeartbeats 1600000 in
theorem equalFunc_row (b off b' off' n c c' : Nat) (D E : EqL) (w : World) (h : Eqs w b off n D) (h' : Eqs w b' off' n E) (hk : KeptE n D) :
    Calls Try.prog 31 #[.slice (some ⟨b, off, none⟩) n c, .slice (some ⟨b', off', none⟩) n c', .func (.func 32) #[] #[]] w fun e w' => e = .returned (.bool (sameE n n D E)) ∧ Below w.heap.size w w' := by
  have hn := hk.most
  have H := hidden h
  have H' := hidden h'
  have HK := hidden hk
  clear h h' hk
  go_enter Try.func31, Try.ntmps31
  go_wp2
  go_loopw [17] (fun i wr => ∃ k : Nat, k ≤ n ∧ i = .int .i64 k ∧ Hid (∀ i, i < k → eqAt D E i = true) ∧ Hid (Below w.heap.size w wr)) (fun i _ => n - (intOf i).toNat)
  case atStart => exact ⟨0, Nat.zero_le _, rfl, hidden (fun i hi => by omega), hidden (Below.refl _ _)⟩
  case round =>
    obtain ⟨k, hk, rfl, HE, HB⟩ := hrel
    by_cases hlt : k < n
    · obtain ⟨g1, o1, c1, g2, o2, c2, e1, e2, i1, i2⟩ := (H.out.keep HB.out).row k hlt
      obtain ⟨g3, o3, c3, g4, o4, c4, e3, e4, i3, i4⟩ := (H'.out.keep HB.out).row k hlt
      have I1 := hidden i1
      have I2 := hidden i2
      have I3 := hidden i3
      have I4 := hidden i4
      have hb0 := H.out.blk (by omega)
      have hb1 := H'.out.blk (by omega)
      have hsz := HB.out.size
      have e3' := keepCell e3 (.cells #[.slice (some ⟨g1, o1, none⟩) (D.m1 k) c1, .slice (some ⟨g2, o2, none⟩) (D.m2 k) c2] 29)
      have e4' := keepCell e4 (.cells #[.slice (some ⟨g1, o1, none⟩) (D.m1 k) c1, .slice (some ⟨g2, o2, none⟩) (D.m2 k) c2] 29)
      have X1 := hidden ((Two.new wr (.slice (some ⟨g1, o1, none⟩) (D.m1 k) c1) (.slice (some ⟨g2, o2, none⟩) (D.m2 k) c2) 29).keep (alloc_below _ (.cells #[.slice (some ⟨g3, o3, none⟩) (E.m1 k) c3, .slice (some ⟨g4, o4, none⟩) (E.m2 k) c4] 29)))
      have X2 := hidden (Two.new (wr.alloc (.cells #[.slice (some ⟨g1, o1, none⟩) (D.m1 k) c1, .slice (some ⟨g2, o2, none⟩) (D.m2 k) c2] 29)) (.slice (some ⟨g3, o3, none⟩) (E.m1 k) c3) (.slice (some ⟨g4, o4, none⟩) (E.m2 k) c4) 29)
      simp only [World.size_alloc] at X2
      have BA := hidden (keepB (alloc_below wr (.cells #[.slice (some ⟨g1, o1, none⟩) (D.m1 k) c1, .slice (some ⟨g2, o2, none⟩) (D.m2 k) c2] 29)) (alloc_below _ (.cells #[.slice (some ⟨g3, o3, none⟩) (E.m1 k) c3, .slice (some ⟨g4, o4, none⟩) (E.m2 k) c4] 29)))
      have x1 := X1.out.c0
      have x2 := X1.out.c1
      have x3 := X2.out.c0
      have x4 := X2.out.c1
      clear i1 i2 i3 i4
      go_wp2_with fail
      with_reducible refine (sameSides_any _ _ _ _ _ _ _ _ _ _ _ _ _ _ _ _ (D.L1 k) (D.L2 k) (E.L1 k) (E.L2 k) _ (I1.out.keep BA.out) (I2.out.keep BA.out) (I3.out.keep BA.out) (I4.out.keep BA.out) (HK.out.m1 k hlt) (HK.out.m2 k hlt)).mono ?_
      rintro e w1 ⟨rfl, hb⟩
      have B1 := hidden (keepB HB.out (keepB BA.out hb))
      clear hb e1 e2 e3 e4 e3' e4' x1 x2 x3 x4 X1 X2 I1 I2 I3 I4 BA
      rw [show eqB (D.m1 k) (D.L1 k) (D.m2 k) (D.L2 k) (E.m1 k) (E.L1 k) (E.m2 k) (E.L2 k) = eqAt D E k from rfl]
      generalize hq : eqAt D E k = ib
      cases ib
      · have HR := hidden (sameE_no hlt hq)
        clear hq
        go_wp2
        go_ret
        exact ⟨by rw [HR.out]; rfl, B1.out⟩
      · have HQ := hidden hq
        clear hq
        go_wp2
        go_roundw
        case rel => exact ⟨k + 1, by omega, by go_num, hidden (fun i hi => by
          by_cases e : i = k
          · rw [e]; exact HQ.out
          · exact HE.out i (by omega)), B1⟩
        case measure => simp [intOf]; omega
    · have HR := hidden (sameE_yes (n := n) (fun i hi => HE.out i (by omega)))
      go_wp2
      go_ret
      exact ⟨by rw [HR.out]; rfl, HB.out⟩

theorem equalFunc_any (b off b' off' n k c c' : Nat) (D E : EqL) (w : World) (h : Eqs w b off n D) (h' : Eqs w b' off' k E) (hk : KeptE n D) :
    Calls Try.prog 31 #[.slice (some ⟨b, off, none⟩) n c, .slice (some ⟨b', off', none⟩) k c', .func (.func 32) #[] #[]] w fun e w' => e = .returned (.bool (sameE n k D E)) ∧ Below w.heap.size w w' := by
  by_cases e : n = k
  · subst e; exact equalFunc_row b off b' off' n c c' D E w h h' hk
  · exact equalFunc_len _ _ n k c c' D E w e

set_option maxRecDepth 20000 in
set_option maxHeartbeats 400000 in
theorem implSameE_any (b off b' off' n k c c' : Nat) (D E : EqL) (w : World) (h : Eqs w b off n D) (h' : Eqs w b' off' k E) (hk : KeptE n D) :
    Calls Try.prog 11 #[.slice (some ⟨b, off, none⟩) n c, .slice (some ⟨b', off', none⟩) k c'] w fun e w' => e = .returned (.bool (sameE n k D E)) ∧ Below w.heap.size w w' := by
  go_enter Try.func11, Try.ntmps11
  go_wp2_with fail
  with_reducible refine (equalFunc_any _ _ _ _ _ _ _ _ D E _ h h' hk).mono ?_
  rintro e w1 ⟨rfl, hb⟩
  have B := hidden hb
  clear hb
  go_wp2
  go_ret
  exact ⟨rfl, B.out⟩

end Go.Proofs.Ytbgemmhkfbfooaa
