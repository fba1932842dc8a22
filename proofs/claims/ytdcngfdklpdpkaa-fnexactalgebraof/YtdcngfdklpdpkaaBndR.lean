/- Contracts: a binding as an answer, in memory of its own: its comparison, its marks, and that they are held. -/
import Derived.Test.YtdcngfdklpdpkaaBndM
namespace Go.Proofs.Ytdcngfdklpdpkaa
open Go.RowKit

/-- Lists in memory of their own, between two numbers of blocks, none of them in block no. -/
def OwnMX (w : World) (lo hi no g n c : Nat) (D : LsL) : Prop :=
  lo ≤ g ∧ g < hi ∧ hi ≤ w.heap.size ∧ g ≠ no ∧ ∃ (xs : List Value) (G : Nat → Nat), w.ownsRow lo 47 1 (.slice (some ⟨g, 0, none⟩) n c) n xs ∧ (∀ i, i < n → ∃ d, xs[i]? = some (.slice (some ⟨G i, 0, none⟩) (D.m i) d) ∧ D.m i ≤ d ∧ lo ≤ G i ∧ G i < hi ∧ G i ≠ g ∧ G i ≠ no ∧ OwnI w lo (G i) (D.m i) d (D.L i) (D.m i)) ∧ ∀ i j, i < j → j < n → G i < G j

theorem OwnMX.keep {w w' : World} {lo hi no g n c : Nat} {D : LsL} (h : OwnMX w lo hi no g n c D) (hb : Below w.heap.size w w') : OwnMX w' lo hi no g n c D := by
  obtain ⟨h1, h2, h3, h4, xs, G, ho, hx, hm⟩ := h
  refine ⟨h1, h2, Nat.le_trans h3 hb.size, h4, xs, G, ownsRow_later ho hb (by omega), fun i hi => ?_, hm⟩
  obtain ⟨d, a1, a2, a3, a4, a5, a6, a7⟩ := hx i hi
  exact ⟨d, a1, a2, a3, a4, a5, a6, a7.keep hb⟩

theorem OwnMX.rng {w w' : World} {lo hi no lo' hi' g n c : Nat} {D : LsL} (h : OwnMX w lo hi no g n c D) (k : Rng lo' hi' w w') (hx : hi ≤ lo' ∨ hi' ≤ lo) : OwnMX w' lo hi no g n c D := by
  obtain ⟨h1, h2, h3, h4, xs, G, ho, hz, hm⟩ := h
  refine ⟨h1, h2, Nat.le_trans h3 k.size, h4, xs, G, ownsRow_rng ho k (by omega), fun i hi => ?_, hm⟩
  obtain ⟨d, a1, a2, a3, a4, a5, a6, a7⟩ := hz i hi
  exact ⟨d, a1, a2, a3, a4, a5, a6, a7.rng k (by omega)⟩

/-- What is written into block no leaves it as it was. -/
theorem OwnMX.far {w w' : World} {lo hi no g n c : Nat} {D : LsL} (h : OwnMX w lo hi no g n c D) (k : w.grownBy w' (some no)) : OwnMX w' lo hi no g n c D := by
  obtain ⟨h1, h2, h3, h4, xs, G, ho, hz, hm⟩ := h
  refine ⟨h1, h2, Nat.le_trans h3 k.size, h4, xs, G, ho.kept k (Or.inr (by simp [Value.ownBlock]; omega)), fun i hi => ?_, hm⟩
  obtain ⟨d, a1, a2, a3, a4, a5, a6, a7⟩ := hz i hi
  exact ⟨d, a1, a2, a3, a4, a5, a6, a7.grown k a6⟩

theorem OwnMX.mats {w : World} {lo hi no g n c : Nat} {D : LsL} (h : OwnMX w lo hi no g n c D) : Mats w g 0 n D := by
  obtain ⟨h1, h2, h3, h4, xs, G, ho, hx, _⟩ := h
  refine ⟨fun _ => by omega, fun i hi => ?_⟩
  obtain ⟨d, a1, a2, _, _, _, _, a6⟩ := hx i hi
  exact ⟨G i, 0, d, by rw [Nat.zero_add, ho.cellAt _ (by omega)]; exact a1, a6.ints, a2⟩

theorem OwnMX.one {w : World} {lo hi no g n c : Nat} {D : LsL} (h : OwnMX w lo hi no g n c D) {k : Nat} (hk : k < n) :
    ∃ G d, w.cell? ⟨g, k, none⟩ = some (.slice (some ⟨G, 0, none⟩) (D.m k) d) ∧ OwnI w lo G (D.m k) d (D.L k) (D.m k) ∧ lo ≤ G ∧ G < hi ∧ G ≠ no ∧
      ∀ (w' : World) (L' : Nat → Int), w.grownBy w' (some G) → OwnI w' lo G (D.m k) d L' (D.m k) → OwnMX w' lo hi no g n c ⟨D.m, fun i => if i = k then L' else D.L i⟩ := by
  obtain ⟨h1, h2, h3, h4, xs, G, ho, hx, hm⟩ := h
  obtain ⟨d, a1, a2, a3, a4, a5, a6, a7⟩ := hx k hk
  refine ⟨G k, d, by rw [ho.cellAt _ (by omega)]; exact a1, a7, a3, a4, a6, fun w' L' hg ho' => ⟨h1, h2, Nat.le_trans h3 hg.size, h4, xs, G, ho.kept hg (Or.inr (by simp [Value.ownBlock]; omega)), fun i hi => ?_, hm⟩⟩
  by_cases e : i = k
  · subst e
    simp only [if_true]
    exact ⟨d, a1, a2, a3, a4, a5, a6, ho'⟩
  · obtain ⟨d', b1, b2, b3, b4, b5, b6, b7⟩ := hx i hi
    simp only [e, if_false]
    refine ⟨d', b1, b2, b3, b4, b5, b6, b7.grown hg ?_⟩
    rcases Nat.lt_or_gt_of_ne e with hl | hl
    · have := hm i k hl hk; omega
    · have := hm k i hl hi; omega

/-- What has turned lies between two numbers of blocks, and not in block no. -/
structure RngX (lo hi no : Nat) (w w' : World) : Prop where
  rng : Rng lo hi w w'
  far : no < w.heap.size → w'.heap[no]? = w.heap[no]?

theorem RngX.refl (lo hi no : Nat) (w : World) : RngX lo hi no w w := ⟨Rng.refl _ _ _, fun _ => rfl⟩
theorem RngX.trans {lo hi no : Nat} {a b c : World} (h : RngX lo hi no a b) (k : RngX lo hi no b c) : RngX lo hi no a c :=
  ⟨h.rng.trans k.rng, fun hn => (k.far (Nat.lt_of_lt_of_le hn h.rng.size)).trans (h.far hn)⟩

theorem OwnI.farX {w w' : World} {B g n c lo hi : Nat} {L : Nat → Int} {j : Nat} (h : OwnI w B g n c L j) (k : RngX lo hi g w w') : OwnI w' B g n c L j := by
  obtain ⟨xs, ho, hz⟩ := h
  refine ⟨xs, ⟨ho.1, ho.2.imp id ?_⟩, hz⟩
  rintro ⟨g', cap, cur, h1, h2, h3, h4⟩
  have e' : g' = g := by simp at h1; exact h1.1.symm
  subst e'
  exact ⟨g', cap, cur, h1, h2, by rw [k.far (Array.getElem?_eq_some_iff.1 h3).1]; exact h3, h4⟩

set_option maxRecDepth 20000 in
set_option maxHeartbeats 800000 in
theorem markSSX_any (lo hi no g n c : Nat) (z : Int) (D : LsL) (w : World) (h : OwnMX w lo hi no g n c D) (hk : KeptM n D) (h0 : 0 ≤ z) (ht : z + sumM D n ≤ 1099511627776) :
    Calls Try.prog 84 #[.slice (some ⟨g, 0, none⟩) n c, .int .i64 z] w fun e w' => e = .returned (.int .i64 (z + sumM D n)) ∧ OwnMX w' lo hi no g n c (mkD z.toNat D n) ∧ RngX lo hi no w w' := by
  have hn := hk.most
  have H := hidden h
  have HK := hidden hk
  have HT := hidden ht
  generalize hS : z + (sumM D n : Int) = S
  have HS := hidden hS
  clear h hk ht hS
  go_enter Try.func84, Try.ntmps84
  go_wp2
  go_loopw [1, 5] (fun a i wr => ∃ (k : Nat) (y : Int), k ≤ n ∧ i = .int .i64 k ∧ a = .int .i64 y ∧ Hid (y = z + sumM D k) ∧ Hid (OwnMX wr lo hi no g n c (mkD z.toNat D k) ∧ RngX lo hi no w wr)) (fun _ i _ => n - (intOf i).toNat)
  case atStart => exact ⟨0, z, Nat.zero_le _, rfl, rfl, hidden (by simp [sumM]), hidden ⟨by rw [mkD_zero]; exact H.out, RngX.refl _ _ _ _⟩⟩
  case round =>
    obtain ⟨k, y, hk, rfl, rfl, HY, HI⟩ := hrel
    by_cases hlt : k < n
    · obtain ⟨G, d, c1, ho, hl, hh, hno, hput⟩ := HI.out.1.one hlt
      replace c1 : wr.cell? ⟨g, k, none⟩ = some (.slice (some ⟨G, 0, none⟩) (D.m k) d) := c1
      have O := hidden ho
      have P := hidden hput
      have LL := hidden (And.intro hl (And.intro hh hno))
      have HA := hidden (show 0 ≤ y ∧ y ≤ 1099511627776 by have := sumM_le D (Nat.le_of_lt hlt); have := HY.out; have := HT.out; omega)
      have HM := hidden (HK.out.m k hlt)
      clear ho hput hl hh hno
      go_wp2_with fail
      with_reducible refine (markInt64S_z lo G (D.m k) d y _ _ O.out HM.out HA.out.1 HA.out.2).mono ?_
      rintro e w2 ⟨rfl, ho, hg⟩
      have e1 : y.toNat = z.toNat + sumM D k := by have := HY.out; omega
      rw [e1] at ho
      have HW := hidden (And.intro (P.out w2 _ hg ho) (HI.out.2.trans ⟨Rng.of hg LL.out.1 LL.out.2.1, fun hn => hg.block no hn (by intro e; simp at e; exact LL.out.2.2 e.symm)⟩))
      rw [mkD_step] at HW
      have HY2 := hidden (show y + (D.m k : Int) = z + sumM D (k + 1) by have := HY.out; simp only [sumM]; omega)
      clear ho hg c1 HI O P LL HA HM e1
      generalize y + (D.m k : Int) = y2 at *
      go_wp2
      go_roundw
      case rel => exact ⟨k + 1, y2, by omega, by go_num, rfl, HY2, HW⟩
      case measure => simp [intOf]; omega
    · obtain rfl : n = k := by omega
      have HE := hidden (HY.out.trans HS.out)
      go_wp2
      go_ret
      exact ⟨by rw [← HE.out]; rfl, HI.out.1, HI.out.2⟩

set_option maxRecDepth 20000 in
set_option maxHeartbeats 800000 in
theorem heldSSX_any (lo hi no g n c z : Nat) (D : LsL) (w : World) (h : OwnMX w lo hi no g n c (mkD z D n)) (hk : KeptM n D) (ht : z + sumM D n ≤ 1099511627776) :
    Calls Try.prog 85 #[.slice (some ⟨g, 0, none⟩) n c, .int .i64 (z : Int)] w fun e w' => e = .returned (.int .i64 ((z : Int) + sumM D n)) ∧ Below w.heap.size w w' := by
  have hn := hk.most
  have H := hidden h
  have HK := hidden hk
  have HT := hidden ht
  generalize hS : (z : Int) + (sumM D n : Int) = S
  have HS := hidden hS
  clear h hk ht hS
  go_enter Try.func85, Try.ntmps85
  go_wp2
  go_loopw [1, 5] (fun a i wr => ∃ (k y : Nat), k ≤ n ∧ i = .int .i64 k ∧ a = .int .i64 (y : Int) ∧ Hid (y = z + sumM D k) ∧ Hid (Below w.heap.size w wr)) (fun _ i _ => n - (intOf i).toNat)
  case atStart => exact ⟨0, z, Nat.zero_le _, rfl, rfl, hidden (by simp [sumM]), hidden (Below.refl _ _)⟩
  case round =>
    obtain ⟨k, y, hk, rfl, rfl, HY, HB⟩ := hrel
    by_cases hlt : k < n
    · obtain ⟨G, d, c1, ho, _, _, _, _⟩ := (H.out.keep HB.out).one hlt
      replace c1 : wr.cell? ⟨g, k, none⟩ = some (.slice (some ⟨G, 0, none⟩) (D.m k) d) := c1
      have O := hidden (show Ints wr G 0 (D.m k) (mkI y) by
        have h1 := ho.ints
        have e : (mkD z D n).L k = mkI y := by simp only [mkD, if_pos hlt]; rw [HY.out]
        rw [e] at h1
        exact h1)
      have HA := hidden (show y ≤ 1099511627776 by have := sumM_le D (Nat.le_of_lt hlt); have := HY.out; have := HT.out; omega)
      have HM := hidden (HK.out.m k hlt)
      clear ho
      go_wp2_with fail
      with_reducible refine (heldInt64S_any G (D.m k) d y _ O.out HM.out HA.out).mono ?_
      rintro e w2 ⟨rfl, hb⟩
      have B1 := hidden (keepB HB.out hb)
      have HY2 := hidden (show y + D.m k = z + sumM D (k + 1) by have := HY.out; simp only [sumM]; omega)
      clear hb c1 O HA HM HB HY
      generalize y + D.m k = y2 at *
      go_wp2
      go_roundw
      case rel => exact ⟨k + 1, y2, by omega, by go_num, rfl, HY2, B1⟩
      case measure => simp [intOf]; omega
    · obtain rfl : n = k := by omega
      have HE := hidden (show (y : Int) = S by have := HY.out; have := HS.out; omega)
      go_wp2
      go_ret
      exact ⟨by rw [← HE.out]; rfl, HB.out⟩

/-- A binding as an answer, in memory of its own. -/
structure OwnBx (w : World) (lo hi g1 m d1 : Nat) (V : Nat → Int) (g2 t d2 : Nat) (D : LsL) : Prop where
  base : lo ≤ g1
  up : g1 < hi
  top : hi ≤ w.heap.size
  vars : OwnI w lo g1 m d1 V m
  terms : OwnMX w lo hi g1 g2 t d2 D

theorem OwnBx.keep {w w' : World} {lo hi g1 m d1 : Nat} {V : Nat → Int} {g2 t d2 : Nat} {D : LsL} (h : OwnBx w lo hi g1 m d1 V g2 t d2 D) (hb : Below w.heap.size w w') : OwnBx w' lo hi g1 m d1 V g2 t d2 D :=
  ⟨h.base, h.up, Nat.le_trans h.top hb.size, h.vars.keep hb, h.terms.keep hb⟩
theorem OwnBx.rng {w w' : World} {lo hi g1 m d1 lo' hi' : Nat} {V : Nat → Int} {g2 t d2 : Nat} {D : LsL} (h : OwnBx w lo hi g1 m d1 V g2 t d2 D) (k : Rng lo' hi' w w') (hx : hi ≤ lo' ∨ hi' ≤ lo) : OwnBx w' lo hi g1 m d1 V g2 t d2 D :=
  ⟨h.base, h.up, Nat.le_trans h.top k.size, h.vars.rng k (by have := h.base; have := h.up; omega), h.terms.rng k hx⟩
theorem OwnBx.grown {w w' : World} {lo hi g1 m d1 g : Nat} {V : Nat → Int} {g2 t d2 : Nat} {D : LsL} (h : OwnBx w lo hi g1 m d1 V g2 t d2 D) (k : w.grownBy w' (some g)) (hx : g < lo ∨ hi ≤ g) : OwnBx w' lo hi g1 m d1 V g2 t d2 D :=
  h.rng (grown_rng k) (by omega)

end Go.Proofs.Ytdcngfdklpdpkaa
