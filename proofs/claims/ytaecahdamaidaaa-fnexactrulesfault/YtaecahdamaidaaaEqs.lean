/- Contracts: lists of equations: how great they are, their copies and their comparison. -/
import Derived.Test.YtaecahdamaidaaaEqn
import Derived.Test.YtaecahdamaidaaaSameT
namespace Go.Proofs.Ytaecahdamaidaaa
open Go.RowKit

/-- The equations of a list: how long the sides are, and their nodes. -/
structure EqL where
  m1 : Nat → Nat
  L1 : Nat → Nat → Int
  m2 : Nat → Nat
  L2 : Nat → Nat → Int

/-- Equations that came in, in a row. -/
structure RowE (w : World) (b off n : Nat) (D : EqL) : Prop where
  blk : 0 < n → b < w.heap.size
  row : ∀ i, i < n → ∃ p1 c1 p2 c2, w.cell? ⟨b, off + i * 2, none⟩ = some (.slice p1 (D.m1 i) c1) ∧ w.cell? ⟨b, off + i * 2 + 1, none⟩ = some (.slice p2 (D.m2 i) c2) ∧ SrcI w p1 (D.m1 i) (D.L1 i) ∧ SrcI w p2 (D.m2 i) (D.L2 i) ∧ D.m1 i ≤ maxLen ∧ D.m2 i ≤ maxLen

theorem RowE.keep {w w' : World} {b off n : Nat} {D : EqL} (h : RowE w b off n D) (hb : Below w.heap.size w w') : RowE w' b off n D :=
  ⟨fun h0 => Nat.lt_of_lt_of_le (h.blk h0) hb.size, fun i hi => by
    obtain ⟨p1, c1, p2, c2, h1, h2, h3, h4, h5⟩ := h.row i hi
    have hk := h.blk (by omega)
    exact ⟨p1, c1, p2, c2, by rw [(bcell hb).1 _ _ hk]; exact h1, by rw [(bcell hb).1 _ _ hk]; exact h2, h3.keep hb, h4.keep hb, h5⟩⟩

/-- What came in: no equation, or a row of them. -/
def SrcE (w : World) (p : Option Addr) (n : Nat) (D : EqL) : Prop :=
  n ≤ maxLen ∧ (n = 0 ∨ ∃ b off, p = some ⟨b, off, none⟩ ∧ RowE w b off n D)

theorem SrcE.keep {w w' : World} {p : Option Addr} {n : Nat} {D : EqL} (h : SrcE w p n D) (hb : Below w.heap.size w w') : SrcE w' p n D :=
  ⟨h.1, h.2.imp id fun ⟨b, off, hp, hs⟩ => ⟨b, off, hp, hs.keep hb⟩⟩

/-- Copies of equations, in a row. -/
structure Eqs (w : World) (b off n : Nat) (D : EqL) : Prop where
  blk : 0 < n → b < w.heap.size
  row : ∀ i, i < n → ∃ g1 o1 c1 g2 o2 c2, w.cell? ⟨b, off + i * 2, none⟩ = some (.slice (some ⟨g1, o1, none⟩) (D.m1 i) c1) ∧ w.cell? ⟨b, off + i * 2 + 1, none⟩ = some (.slice (some ⟨g2, o2, none⟩) (D.m2 i) c2) ∧ Ints w g1 o1 (D.m1 i) (D.L1 i) ∧ Ints w g2 o2 (D.m2 i) (D.L2 i)

theorem Eqs.keep {w w' : World} {b off n : Nat} {D : EqL} (h : Eqs w b off n D) (hb : Below w.heap.size w w') : Eqs w' b off n D :=
  ⟨fun h0 => Nat.lt_of_lt_of_le (h.blk h0) hb.size, fun i hi => by
    obtain ⟨g1, o1, c1, g2, o2, c2, h1, h2, h3, h4⟩ := h.row i hi
    have hk := h.blk (by omega)
    exact ⟨g1, o1, c1, g2, o2, c2, by rw [(bcell hb).1 _ _ hk]; exact h1, by rw [(bcell hb).1 _ _ hk]; exact h2, h3.keep hb, h4.keep hb⟩⟩

/-- What a law copies. -/
structure KeptE (n : Nat) (D : EqL) : Prop where
  most : n ≤ 1048576
  m1 : ∀ i, i < n → D.m1 i ≤ 1048576
  m2 : ∀ i, i < n → D.m2 i ≤ 1048576

set_option maxRecDepth 20000 in
set_option maxHeartbeats 400000 in
theorem szEquationS_many (p : Option Addr) (n c : Nat) (left : Int) (w : World) (hn : n ≤ maxLen) (h0 : 0 ≤ left) (h1 : left ≤ 1048576) (h : left < n) :
    Calls Try.prog 21 #[.slice p n c, .int .i64 left] w fun e w' => e = .returned (.int .i64 (-1)) ∧ Below w.heap.size w w' := by
  unfold maxLen at hn
  go_enter Try.func21, Try.ntmps21
  go_wp2
  go_ret
  exact ⟨rfl, Below.refl _ _⟩

set_option maxRecDepth 20000 in
set_option maxHeartbeats 800000 in
theorem szEquationS_any (b off n c : Nat) (D : EqL) (left : Int) (w : World) (h : RowE w b off n D) (h0 : 0 ≤ left) (h1 : left ≤ 1048576) (hn : ¬ left < n) :
    Calls Try.prog 21 #[.slice (some ⟨b, off, none⟩) n c, .int .i64 left] w fun e w' => (∃ r, e = .returned (.int .i64 r) ∧ (r = -1 ∨ (0 ≤ r ∧ r ≤ left ∧ KeptE n D))) ∧ Below w.heap.size w w' := by
  have HR := hidden h
  clear h
  go_enter Try.func21, Try.ntmps21
  go_wp2
  go_loopw [1, 5] (fun l i wr => ∃ (k : Nat) (r : Int), k ≤ n ∧ i = .int .i64 k ∧ l = .int .i64 r ∧ 0 ≤ r ∧ r ≤ left ∧ Hid (∀ i, i < k → D.m1 i ≤ 1048576 ∧ D.m2 i ≤ 1048576) ∧ Hid (Below w.heap.size w wr)) (fun _ i _ => n - (intOf i).toNat)
  case atStart => exact ⟨0, _, Nat.zero_le _, rfl, rfl, by omega, by omega, hidden (fun i hi => by omega), hidden (Below.refl _ _)⟩
  case round =>
    obtain ⟨k, r, hk, rfl, rfl, hr0, hr1, HZ, HB⟩ := hrel
    by_cases hlt : k < n
    · obtain ⟨p1, c1, p2, c2, e1, e2, e3, e4, e5, e6⟩ := (HR.out.keep HB.out).row k hlt
      have E5 := hidden e5
      have E6 := hidden e6
      clear e3 e4 e5 e6
      go_wp2_with fail
      with_reducible refine (szEquation_any _ _ _ _ _ _ _ _ E5.out E6.out hr0 (by omega)).mono ?_
      rintro e w1 ⟨⟨r1, rfl, hr⟩, hb1⟩
      have B1 := hidden (keepB HB.out hb1)
      clear hb1 e1 e2
      rcases hr with rfl | ⟨q0, q1, q2, q3⟩
      · go_wp2
        go_ret
        exact ⟨⟨_, rfl, Or.inl rfl⟩, B1.out⟩
      · have Q := hidden (And.intro q2 q3)
        clear q2 q3
        go_wp2
        go_roundw
        case rel => exact ⟨k + 1, r1, by omega, by go_num, rfl, q0, by omega, hidden (fun i hi => by
          by_cases e : i = k
          · rw [e]; exact Q.out
          · exact HZ.out i (by omega)), B1⟩
        case measure => simp [intOf]; omega
    · go_wp2
      go_ret
      exact ⟨⟨_, rfl, Or.inr ⟨hr0, hr1, by omega, fun i hi => (HZ.out i (by omega)).1, fun i hi => (HZ.out i (by omega)).2⟩⟩, HB.out⟩

set_option maxRecDepth 20000 in
set_option maxHeartbeats 400000 in
theorem szEquationS_none (p : Option Addr) (c : Nat) (left : Int) (w : World) (h0 : 0 ≤ left) (h1 : left ≤ 1048576) :
    Calls Try.prog 21 #[.slice p 0 c, .int .i64 left] w fun e w' => e = .returned (.int .i64 left) ∧ Below w.heap.size w w' := by
  go_enter Try.func21, Try.ntmps21
  go_wp2
  refine wp_loop_rounds 1 ?_
  rw [rounds_succ]
  go_wp2
  go_ret
  exact ⟨by simp, Below.refl _ _⟩

theorem szEquationS_src (p : Option Addr) (n c : Nat) (D : EqL) (left : Int) (w : World) (h : SrcE w p n D) (h0 : 0 ≤ left) (h1 : left ≤ 1048576) :
    Calls Try.prog 21 #[.slice p n c, .int .i64 left] w fun e w' => (∃ r, e = .returned (.int .i64 r) ∧ (r = -1 ∨ (0 ≤ r ∧ r ≤ left ∧ KeptE n D))) ∧ Below w.heap.size w w' := by
  by_cases hn : left < n
  · refine (szEquationS_many p n c left w h.1 h0 h1 hn).mono ?_
    rintro e w' ⟨rfl, hb⟩
    exact ⟨⟨_, rfl, Or.inl rfl⟩, hb⟩
  · rcases h.2 with rfl | ⟨b, off, rfl, hs⟩
    · refine (szEquationS_none p c left w h0 h1).mono ?_
      rintro e w' ⟨rfl, hb⟩
      exact ⟨⟨_, rfl, Or.inr ⟨h0, Int.le_refl _, by omega, fun i hi => by omega, fun i hi => by omega⟩⟩, hb⟩
    · exact szEquationS_any b off n c D left w hs h0 h1 hn

theorem Ints.other {w : World} {b off n : Nat} {L : Nat → Int} (h : Ints w b off n L) (a : Addr) (v : Value) (hne : b ≠ a.block) : Ints (w.setCell a v) b off n L :=
  ⟨fun h0 => by simpa using h.blk h0, fun i hi => by rw [World.cell?_setCell_other _ _ _ _ (by intro e; exact hne (by rw [e]))]; exact h.cell i hi⟩

/-- A row of copies in memory of its own, of which the first k are known. -/
def OwnE (w : World) (B g n : Nat) (D : EqL) (k : Nat) : Prop :=
  ∃ xs, w.ownsRow B 79 2 (.slice (some ⟨g, 0, none⟩) n n) n xs ∧ ∀ i, i < k → ∃ g1 g2, xs[i * 2]? = some (.slice (some ⟨g1, 0, none⟩) (D.m1 i) (D.m1 i)) ∧ xs[i * 2 + 1]? = some (.slice (some ⟨g2, 0, none⟩) (D.m2 i) (D.m2 i)) ∧ g < g1 ∧ g < g2 ∧ Ints w g1 0 (D.m1 i) (D.L1 i) ∧ Ints w g2 0 (D.m2 i) (D.L2 i)

theorem OwnE.lt {w : World} {B g n : Nat} {D : EqL} {k : Nat} (h : OwnE w B g n D k) : g < w.heap.size := by
  obtain ⟨xs, ho, _⟩ := h; exact (ho.lt g rfl).2

theorem OwnE.keep {w w' : World} {B g n : Nat} {D : EqL} {k : Nat} (h : OwnE w B g n D k) (hb : Below w.heap.size w w') : OwnE w' B g n D k := by
  have hl := h.lt
  obtain ⟨xs, ho, hx⟩ := h
  refine ⟨xs, ownsRow_later ho hb hl, fun i hi => ?_⟩
  obtain ⟨g1, g2, a1, a2, a3, a4, a5, a6⟩ := hx i hi
  exact ⟨g1, g2, a1, a2, a3, a4, a5.keep hb, a6.keep hb⟩

theorem OwnE.eqs {w : World} {B g n : Nat} {D : EqL} (h : OwnE w B g n D n) : Eqs w g 0 n D := by
  have hl := h.lt
  obtain ⟨xs, ho, hx⟩ := h
  refine ⟨fun _ => hl, fun i hi => ?_⟩
  obtain ⟨g1, g2, a1, a2, _, _, a5, a6⟩ := hx i hi
  exact ⟨g1, 0, _, g2, 0, _, by rw [Nat.zero_add, ho.cellAt _ (by omega)]; exact a1, by rw [Nat.zero_add, ho.cellAt _ (by omega)]; exact a2, a5, a6⟩

theorem OwnE.put {w : World} {B g n : Nat} {D : EqL} {k : Nat} (h : OwnE w B g n D k) (hk : k < n) {g1 g2 : Nat} (l1 : g < g1) (l2 : g < g2) (i1 : Ints w g1 0 (D.m1 k) (D.L1 k)) (i2 : Ints w g2 0 (D.m2 k) (D.L2 k)) :
    (∃ u0, w.cell? ⟨g, 0 + k * 2, none⟩ = some u0) ∧ (∃ u1, (w.setCell ⟨g, 0 + k * 2, none⟩ (.slice (some ⟨g1, 0, none⟩) (D.m1 k) (D.m1 k))).cell? ⟨g, 0 + k * 2 + 1, none⟩ = some u1) ∧
    w.frozen? ⟨g, 0 + k * 2, none⟩ = false ∧ (w.setCell ⟨g, 0 + k * 2, none⟩ (.slice (some ⟨g1, 0, none⟩) (D.m1 k) (D.m1 k))).frozen? ⟨g, 0 + k * 2 + 1, none⟩ = false ∧
    OwnE ((w.setCell ⟨g, 0 + k * 2, none⟩ (.slice (some ⟨g1, 0, none⟩) (D.m1 k) (D.m1 k))).setCell ⟨g, 0 + k * 2 + 1, none⟩ (.slice (some ⟨g2, 0, none⟩) (D.m2 k) (D.m2 k))) B g n D (k + 1) ∧
    w.grownBy ((w.setCell ⟨g, 0 + k * 2, none⟩ (.slice (some ⟨g1, 0, none⟩) (D.m1 k) (D.m1 k))).setCell ⟨g, 0 + k * 2 + 1, none⟩ (.slice (some ⟨g2, 0, none⟩) (D.m2 k) (D.m2 k))) (some g) := by
  obtain ⟨xs, ho, hx⟩ := h
  rw [Nat.zero_add]
  obtain ⟨o1, e1⟩ := ho.stored (k * 2) (.slice (some ⟨g1, 0, none⟩) (D.m1 k) (D.m1 k))
  obtain ⟨o2, e2⟩ := o1.stored (k * 2 + 1) (.slice (some ⟨g2, 0, none⟩) (D.m2 k) (D.m2 k))
  have hl : xs.length = n * 2 := ho.1
  refine ⟨⟨_, (ho.cellAt (k * 2) (by omega)).trans (List.getElem?_eq_getElem (by omega))⟩, ⟨_, (o1.cellAt (k * 2 + 1) (by omega)).trans (List.getElem?_eq_getElem (by simp; omega))⟩,
    ho.frozenAt _, o1.frozenAt _, ⟨_, o2, fun i hi => ?_⟩, ⟨e2.os.trans e1.os, e2.tape.trans e1.tape, e2.output.trans e1.output, Nat.le_trans e1.size e2.size, fun j hj hr => (e2.block j (Nat.lt_of_lt_of_le hj e1.size) hr).trans (e1.block j hj hr)⟩⟩
  by_cases e : i = k
  · subst e
    refine ⟨g1, g2, ?_, ?_, l1, l2, (i1.other _ _ (by simp; omega)).other _ _ (by simp; omega), (i2.other _ _ (by simp; omega)).other _ _ (by simp; omega)⟩
    · rw [List.getElem?_set_ne (by omega), List.getElem?_set_self (by omega)]
    · rw [List.getElem?_set_self (by simp; omega)]
  · obtain ⟨h1, h2, a1, a2, a3, a4, a5, a6⟩ := hx i (by omega)
    refine ⟨h1, h2, ?_, ?_, a3, a4, (a5.other _ _ (by simp; omega)).other _ _ (by simp; omega), (a6.other _ _ (by simp; omega)).other _ _ (by simp; omega)⟩
    · rw [List.getElem?_set_ne (by omega), List.getElem?_set_ne (by omega)]; exact a1
    · rw [List.getElem?_set_ne (by omega), List.getElem?_set_ne (by omega)]; exact a2

set_option maxRecDepth 20000 in
theorem makeEqs (w : World) (n : Nat) (hn : n ≤ 1048576) : ∃ w', (Instr.makeSlice 48 (.int .i64 (n : Int)) (.int .i64 (n : Int))).run Try.prog w = .ok (.slice (some ⟨w.heap.size, 0, none⟩) n n) w' ∧
      w'.ownsRow w.heap.size 79 2 (.slice (some ⟨w.heap.size, 0, none⟩) n n) n (madeCells (Value.agg #[.slice none 0 0, .slice none 0 0]).cells (n * 2)).toList ∧ w.grownBy w' none :=
  run_make_full (P := Try.prog) w w.heap.size 48 79 _ (.agg #[.slice none 0 0, .slice none 0 0]) 2 Try.underlying48 rfl rfl rfl .i64 .i64 n (by show 48 * n ≤ _; omega) (by unfold maxLen; omega) (Nat.le_refl _)

set_option maxRecDepth 20000 in
set_option maxHeartbeats 800000 in
theorem toEquationS_any (b off n c : Nat) (D : EqL) (w : World) (h : RowE w b off n D) (hk : KeptE n D) :
    Calls Try.prog 23 #[.slice (some ⟨b, off, none⟩) n c] w fun e w' => e = .returned (.slice (some ⟨w.heap.size, 0, none⟩) n n) ∧ OwnE w' w.heap.size w.heap.size n D n ∧ Below w.heap.size w w' := by
  have hn := hk.most
  obtain ⟨w1, hmk, how, hgr⟩ := makeEqs w n hn
  have HO := hidden how
  have HG := hidden hgr
  have HR := hidden h
  have HK := hidden hk
  clear how hgr h hk
  go_enter Try.func23, Try.ntmps23
  go_wp2
  go_loopw [4] (fun i wr => ∃ k : Nat, k ≤ n ∧ i = .int .i64 k ∧ Hid (OwnE wr w.heap.size w.heap.size n D k) ∧ Hid (Below w.heap.size w wr)) (fun i _ => n - (intOf i).toNat)
  case atStart =>
    exact ⟨0, Nat.zero_le _, rfl, hidden ⟨_, HO.out, fun i hi => by omega⟩, hidden ((Below.refl _ _).grown HG.out (Nat.le_refl _) (fun k hk => by cases hk))⟩
  case round =>
    obtain ⟨k, hk, rfl, HW, HB⟩ := hrel
    by_cases hlt : k < n
    · obtain ⟨p1, c1, p2, c2, e1, e2, e3, e4, e5, e6⟩ := (HR.out.keep HB.out).row k hlt
      have E3 := hidden e3
      have E4 := hidden e4
      clear e3 e4 e5 e6 hmk
      go_wp2_with fail
      with_reducible refine (toEquation_src _ _ _ (D.L1 k) _ _ _ (D.L2 k) _ E3.out E4.out (HK.out.m1 k hlt) (HK.out.m2 k hlt)).mono ?_
      rintro e w2 ⟨g1, g2, rfl, hg1, hg2, i1, i2, hb⟩
      have hl := HW.out.lt
      have b2 := keepB HB.out hb
      have o2 := HW.out.keep hb
      obtain ⟨⟨u0, q0⟩, ⟨u1, q1⟩, f0, f1, o3, g3⟩ := o2.put hlt (g1 := g1) (g2 := g2) (by omega) (by omega) i1.ints i2.ints
      have b3 := b2.grown g3 b2.size (fun j hj => by cases hj; exact Nat.le_refl _)
      have H3 := hidden (And.intro o3 b3)
      clear o3 g3 b3 o2 b2 hb HW HB e1 e2 i1 i2 hg1 hg2 hl
      rw [Nat.zero_add] at q0 q1 f0 f1 H3
      go_wp2
      go_roundw
      case rel => exact ⟨k + 1, by omega, by go_num, hidden H3.out.1, hidden H3.out.2⟩
      case measure => simp [intOf]; omega
    · go_wp2
      go_ret
      have e : k = n := by omega
      subst e
      exact ⟨rfl, HW.out, HB.out⟩

set_option maxRecDepth 20000 in
set_option maxHeartbeats 400000 in
theorem toEquationS_none (p : Option Addr) (c : Nat) (D : EqL) (w : World) :
    Calls Try.prog 23 #[.slice p 0 c] w fun e w' => e = .returned (.slice (some ⟨w.heap.size, 0, none⟩) 0 0) ∧ OwnE w' w.heap.size w.heap.size 0 D 0 ∧ Below w.heap.size w w' := by
  obtain ⟨w1, hmk, how, hgr⟩ := makeEqs w 0 (by omega)
  rw [show ((0 : Nat) : Int) = 0 from rfl] at hmk
  have HO := hidden how
  have HG := hidden hgr
  clear how hgr
  go_enter Try.func23, Try.ntmps23
  go_wp2
  refine wp_loop_rounds 1 ?_
  rw [rounds_succ]
  go_wp2
  go_ret
  exact ⟨rfl, ⟨_, HO.out, fun i hi => by omega⟩, (Below.refl _ _).grown HG.out (Nat.le_refl _) (fun k hk => by cases hk)⟩

theorem toEqs_new (p : Option Addr) (n c : Nat) (D : EqL) (w : World) (h : SrcE w p n D) (hk : KeptE n D) :
    Calls Try.prog 23 #[.slice p n c] w fun e w' => ∃ g, e = .returned (.slice (some ⟨g, 0, none⟩) n n) ∧ w.heap.size ≤ g ∧ OwnE w' w.heap.size g n D n ∧ Below w.heap.size w w' := by
  rcases h.2 with rfl | ⟨b, off, rfl, hs⟩
  · refine (toEquationS_none p c D w).mono ?_
    rintro e w' ⟨rfl, ho, hb⟩
    exact ⟨_, rfl, Nat.le_refl _, ho, hb⟩
  · refine (toEquationS_any b off n c D w hs hk).mono ?_
    rintro e w' ⟨rfl, ho, hb⟩
    exact ⟨_, rfl, Nat.le_refl _, ho, hb⟩

end Go.Proofs.Ytaecahdamaidaaa
