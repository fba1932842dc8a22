/- Contracts: lists of equations in memory of their own, how great they are, and their marks. -/
import Derived.Test.YtflhfhmhdhokoaaGreatMB
import Derived.Test.YtflhfhmhdhokoaaGreatME
namespace Go.Proofs.YtflhfhmhdhokoaaGreat
open Go.RowKit

/-- The sides of equations, one behind the other. -/
def fl2 (D : EqL) : LsL := ⟨fun e => if e % 2 = 0 then D.m1 (e / 2) else D.m2 (e / 2), fun e => if e % 2 = 0 then D.L1 (e / 2) else D.L2 (e / 2)⟩

theorem fl2_m0 (D : EqL) (k : Nat) : (fl2 D).m (k * 2) = D.m1 k := by simp [fl2]
theorem fl2_m1 (D : EqL) (k : Nat) : (fl2 D).m (k * 2 + 1) = D.m2 k := by
  have h1 : (k * 2 + 1) % 2 = 1 := by omega
  have h2 : (k * 2 + 1) / 2 = k := by omega
  simp [fl2, h1, h2]
theorem fl2_L0 (D : EqL) (k : Nat) : (fl2 D).L (k * 2) = D.L1 k := by simp [fl2]
theorem fl2_L1 (D : EqL) (k : Nat) : (fl2 D).L (k * 2 + 1) = D.L2 k := by
  have h1 : (k * 2 + 1) % 2 = 1 := by omega
  have h2 : (k * 2 + 1) / 2 = k := by omega
  simp [fl2, h1, h2]

/-- A row of equations in memory of its own, of which the first k sides are known, in blocks below U. -/
def OwnF (w : World) (B g n : Nat) (F : LsL) (k U : Nat) : Prop :=
  ∃ (xs : List Value) (G : Nat → Nat), w.ownsRow B 65 2 (.slice (some ⟨g, 0, none⟩) n n) n xs ∧ (∀ e, e < k → xs[e]? = some (.slice (some ⟨G e, 0, none⟩) (F.m e) (F.m e)) ∧ B ≤ G e ∧ G e < U ∧ G e ≠ g ∧ OwnI w B (G e) (F.m e) (F.m e) (F.L e) (F.m e)) ∧ ∀ i j, i < j → j < k → G i < G j

theorem OwnF.lt {w : World} {B g n : Nat} {F : LsL} {k U : Nat} (h : OwnF w B g n F k U) : g < w.heap.size := by
  obtain ⟨xs, G, ho, _⟩ := h; exact (ho.lt g rfl).2

theorem OwnF.keep {w w' : World} {B g n : Nat} {F : LsL} {k U : Nat} (h : OwnF w B g n F k U) (hb : Below w.heap.size w w') : OwnF w' B g n F k U := by
  have hl := h.lt
  obtain ⟨xs, G, ho, hx, hm⟩ := h
  refine ⟨xs, G, ownsRow_later ho hb hl, fun e he => ?_, hm⟩
  obtain ⟨a1, a2, a3, a4, a5⟩ := hx e he
  exact ⟨a1, a2, a3, a4, a5.keep hb⟩

theorem OwnF.up {w : World} {B g n : Nat} {F : LsL} {k U U' : Nat} (h : OwnF w B g n F k U) (hU : U ≤ U') : OwnF w B g n F k U' := by
  obtain ⟨xs, G, ho, hx, hm⟩ := h
  refine ⟨xs, G, ho, fun e he => ?_, hm⟩
  obtain ⟨a1, a2, a3, a4, a5⟩ := hx e he
  exact ⟨a1, a2, by omega, a4, a5⟩

theorem OwnF.put {w : World} {B g n : Nat} {F : LsL} {k U : Nat} (h : OwnF w B g n F k U) (hk : k < n * 2) {g1 m1 : Nat} {L1 : Nat → Int} (hm1 : F.m k = m1) (hL1 : F.L k = L1) (hU : U ≤ g1) (hB : B ≤ g1) (hne : g1 ≠ g) {B' : Nat} (i1 : OwnI w B' g1 m1 m1 L1 m1) :
    (∃ u0, w.cell? ⟨g, k, none⟩ = some u0) ∧ w.frozen? ⟨g, k, none⟩ = false ∧
    OwnF (w.setCell ⟨g, k, none⟩ (.slice (some ⟨g1, 0, none⟩) m1 m1)) B g n F (k + 1) (g1 + 1) ∧
    w.grownBy (w.setCell ⟨g, k, none⟩ (.slice (some ⟨g1, 0, none⟩) m1 m1)) (some g) := by
  subst hm1 hL1
  obtain ⟨xs, G, ho, hx, hm⟩ := h
  obtain ⟨o1, e1⟩ := ho.stored k (.slice (some ⟨g1, 0, none⟩) (F.m k) (F.m k))
  have hlen : xs.length = n * 2 := ho.1
  refine ⟨⟨_, (ho.cellAt k (by omega)).trans (List.getElem?_eq_getElem (by omega))⟩, ho.frozenAt _, ⟨_, fun i => if i = k then g1 else G i, o1, fun e he => ?_, fun i j hij hj => ?_⟩, e1⟩
  · by_cases ee : e = k
    · subst ee
      simp only [if_true]
      exact ⟨by rw [List.getElem?_set_self (by omega)], hB, by omega, hne, (i1.base hB).other _ _ (by simpa using hne)⟩
    · obtain ⟨a1, a2, a3, a4, a5⟩ := hx e (by omega)
      simp only [ee, if_false]
      exact ⟨by rw [List.getElem?_set_ne (by omega)]; exact a1, a2, by omega, a4, a5.other _ _ (by simpa using a4)⟩
  · have hne' : i ≠ k := by omega
    obtain ⟨_, _, a3, _, _⟩ := hx i (by omega)
    simp only [hne', if_false]
    by_cases ee : j = k
    · simp only [ee, if_true]; omega
    · simp only [ee, if_false]; exact hm i j hij (by omega)

/-- Equations in memory of their own, between two numbers of blocks. -/
def OwnFR (w : World) (lo hi g n : Nat) (F : LsL) : Prop :=
  lo ≤ g ∧ g < hi ∧ hi ≤ w.heap.size ∧ ∃ (xs : List Value) (G : Nat → Nat), w.ownsRow lo 65 2 (.slice (some ⟨g, 0, none⟩) n n) n xs ∧ (∀ e, e < n * 2 → xs[e]? = some (.slice (some ⟨G e, 0, none⟩) (F.m e) (F.m e)) ∧ lo ≤ G e ∧ G e < hi ∧ G e ≠ g ∧ OwnI w lo (G e) (F.m e) (F.m e) (F.L e) (F.m e)) ∧ ∀ i j, i < j → j < n * 2 → G i < G j

theorem OwnF.between {w : World} {B g n : Nat} {F : LsL} {U : Nat} (h : OwnF w B g n F (n * 2) U) : OwnFR w B w.heap.size g n F := by
  have hl := h.lt
  obtain ⟨xs, G, ho, hx, hm⟩ := h
  refine ⟨(ho.lt g rfl).1, hl, Nat.le_refl _, xs, G, ho, fun i hi => ?_, hm⟩
  obtain ⟨a1, a2, a3, a4, a5⟩ := hx i hi
  exact ⟨a1, a2, a5.lt, a4, a5⟩

theorem OwnFR.keep {w w' : World} {lo hi g n : Nat} {F : LsL} (h : OwnFR w lo hi g n F) (hb : Below w.heap.size w w') : OwnFR w' lo hi g n F := by
  obtain ⟨h1, h2, h3, xs, G, ho, hx, hm⟩ := h
  refine ⟨h1, h2, Nat.le_trans h3 hb.size, xs, G, ownsRow_later ho hb (by omega), fun i hi => ?_, hm⟩
  obtain ⟨a1, a3, a4, a5, a6⟩ := hx i hi
  exact ⟨a1, a3, a4, a5, a6.keep hb⟩

theorem OwnFR.top {w : World} {lo hi g n : Nat} {F : LsL} (h : OwnFR w lo hi g n F) : hi ≤ w.heap.size := h.2.2.1

theorem OwnFR.rng {w w' : World} {lo hi lo' hi' g n : Nat} {F : LsL} (h : OwnFR w lo hi g n F) (k : Rng lo' hi' w w') (hx : hi ≤ lo' ∨ hi' ≤ lo) : OwnFR w' lo hi g n F := by
  obtain ⟨h1, h2, h3, xs, G, ho, hz, hm⟩ := h
  refine ⟨h1, h2, Nat.le_trans h3 k.size, xs, G, ownsRow_rng ho k (by omega), fun i hi => ?_, hm⟩
  obtain ⟨a1, a3, a4, a5, a6⟩ := hz i hi
  exact ⟨a1, a3, a4, a5, a6.rng k (by omega)⟩

theorem OwnFR.grown {w w' : World} {lo hi g n g' : Nat} {F : LsL} (h : OwnFR w lo hi g n F) (k : w.grownBy w' (some g')) (hx : g' < lo ∨ hi ≤ g') : OwnFR w' lo hi g n F := h.rng (grown_rng k) (by omega)

theorem OwnFR.one {w : World} {lo hi g n : Nat} {F : LsL} (h : OwnFR w lo hi g n F) {k : Nat} (hk : k < n * 2) :
    ∃ G, w.cell? ⟨g, k, none⟩ = some (.slice (some ⟨G, 0, none⟩) (F.m k) (F.m k)) ∧ OwnI w lo G (F.m k) (F.m k) (F.L k) (F.m k) ∧ lo ≤ G ∧ G < hi ∧
      ∀ (w' : World) (L' : Nat → Int), w.grownBy w' (some G) → OwnI w' lo G (F.m k) (F.m k) L' (F.m k) → OwnFR w' lo hi g n ⟨F.m, fun i => if i = k then L' else F.L i⟩ := by
  obtain ⟨h1, h2, h3, xs, G, ho, hx, hm⟩ := h
  obtain ⟨a1, a3, a4, a5, a6⟩ := hx k hk
  refine ⟨G k, by rw [ho.cellAt _ (by omega)]; exact a1, a6, a3, a4, fun w' L' hg ho' => ⟨h1, h2, Nat.le_trans h3 hg.size, xs, G, ho.kept hg (Or.inr (by simp [Value.ownBlock]; omega)), fun i hi => ?_, hm⟩⟩
  by_cases e : i = k
  · subst e
    simp only [if_true]
    exact ⟨a1, a3, a4, a5, ho'⟩
  · obtain ⟨b1, b3, b4, b5, b6⟩ := hx i hi
    simp only [e, if_false]
    refine ⟨b1, b3, b4, b5, b6.grown hg ?_⟩
    rcases Nat.lt_or_gt_of_ne e with hl | hl
    · have := hm i k hl hk; omega
    · have := hm k i hl hi; omega

theorem OwnFR.eqs {w : World} {lo hi g n : Nat} {D : EqL} (h : OwnFR w lo hi g n (fl2 D)) : Eqs w g 0 n D := by
  obtain ⟨h1, h2, h3, xs, G, ho, hx, _⟩ := h
  refine ⟨fun _ => by omega, fun i hi => ?_⟩
  obtain ⟨a1, _, _, _, a6⟩ := hx (i * 2) (by omega)
  obtain ⟨b1, _, _, _, b6⟩ := hx (i * 2 + 1) (by omega)
  rw [fl2_m0, fl2_L0] at a6
  rw [fl2_m1, fl2_L1] at b6
  rw [fl2_m0] at a1
  rw [fl2_m1] at b1
  exact ⟨G (i * 2), 0, _, G (i * 2 + 1), 0, _, by rw [Nat.zero_add, ho.cellAt _ (by omega)]; exact a1, by rw [Nat.zero_add, ho.cellAt _ (by omega)]; exact b1, a6.ints, b6.ints⟩

set_option maxRecDepth 20000 in
set_option maxHeartbeats 1600000 in
theorem toEqsR_any (b off n c : Nat) (D : EqL) (w : World) (h : RowE w b off n D) (hk : KeptE n D) :
    Calls Tryz.prog 10 #[.slice (some ⟨b, off, none⟩) n c] w fun e w' => e = .returned (.slice (some ⟨w.heap.size, 0, none⟩) n n) ∧ OwnFR w' w.heap.size w'.heap.size w.heap.size n (fl2 D) ∧ Below w.heap.size w w' := by
  have hn := hk.most
  obtain ⟨w1, hmk, how, hgr⟩ := makeEqs w n hn
  have HO := hidden how
  have HG := hidden hgr
  have HR := hidden h
  have HK := hidden hk
  clear how hgr h hk
  go_enter Tryz.func10, Tryz.ntmps10
  go_wp2
  go_loopw [4] (fun i wr => ∃ k : Nat, k ≤ n ∧ i = .int .i64 k ∧ Hid (OwnF wr w.heap.size w.heap.size n (fl2 D) (k * 2) wr.heap.size) ∧ Hid (Below w.heap.size w wr)) (fun i _ => n - (intOf i).toNat)
  case atStart =>
    exact ⟨0, Nat.zero_le _, rfl, hidden ⟨_, fun _ => 0, HO.out, fun i hi => by omega, fun i j _ hj => by omega⟩, hidden ((Below.refl _ _).grown HG.out (Nat.le_refl _) (fun k hk => by cases hk))⟩
  case round =>
    obtain ⟨k, hk, rfl, HW, HB⟩ := hrel
    by_cases hlt : k < n
    · obtain ⟨p1, c1, p2, c2, e1, e2, e3, e4, e5, e6⟩ := (HR.out.keep HB.out).row k hlt
      have E3 := hidden e3
      have E4 := hidden e4
      clear e3 e4 e5 e6 hmk
      go_wp2_with fail
      with_reducible refine (toEquation_src _ _ _ (D.L1 k) _ _ _ (D.L2 k) _ E3.out E4.out (HK.out.m1 k hlt) (HK.out.m2 k hlt)).mono ?_
      rintro e w2 ⟨g1, g2, rfl, hg1, hg2, i1, i2, hb⟩
      have hl := HW.out.lt
      have b2 := keepB HB.out hb
      have hbs := HB.out.size
      obtain ⟨⟨u0, q0⟩, f0, o3, g3⟩ := (HW.out.keep hb).put (by omega) (fl2_m0 D k) (fl2_L0 D k) hg1 (by omega) (by omega) i1
      obtain ⟨⟨u1, q1⟩, f1, o4, g4⟩ := o3.put (by omega) (fl2_m1 D k) (fl2_L1 D k) hg2 (by omega) (by omega) (i2.other ⟨w.heap.size, k * 2, none⟩ (.slice (some ⟨g1, 0, none⟩) (D.m1 k) (D.m1 k)) (by simp; omega))
      have b3 := (b2.grown g3 b2.size (fun j hj => by cases hj; exact Nat.le_refl _))
      have b4 := b3.grown g4 b3.size (fun j hj => by cases hj; exact Nat.le_refl _)
      have i2l := (i2.other ⟨w.heap.size, k * 2, none⟩ (.slice (some ⟨g1, 0, none⟩) (D.m1 k) (D.m1 k)) (by simp; omega)).lt
      have H3 := hidden (And.intro (o4.up (U' := ((w2.setCell ⟨w.heap.size, k * 2, none⟩ (.slice (some ⟨g1, 0, none⟩) (D.m1 k) (D.m1 k))).setCell ⟨w.heap.size, k * 2 + 1, none⟩ (.slice (some ⟨g2, 0, none⟩) (D.m2 k) (D.m2 k))).heap.size) (by have := g4.size; omega)) b4)
      clear o3 o4 g3 g4 b3 b4 b2 hb HW HB e1 e2 i1 i2 hg1 hg2 hl hbs i2l
      go_wp2
      go_roundw
      case rel => exact ⟨k + 1, by omega, by go_num, hidden (by have := H3.out.1; rw [show k * 2 + 1 + 1 = (k + 1) * 2 by omega] at this; exact this), hidden H3.out.2⟩
      case measure => simp [intOf]; omega
    · go_wp2
      go_ret
      have e : k = n := by omega
      subst e
      exact ⟨rfl, HW.out.between, HB.out⟩

end Go.Proofs.YtflhfhmhdhokoaaGreat
