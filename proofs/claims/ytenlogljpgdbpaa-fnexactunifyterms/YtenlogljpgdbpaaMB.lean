/- Several texts as one: BndM, BndR, BndQ, BndO. -/
import Derived.Test.YtenlogljpgdbpaaBnd
import Derived.Test.YtenlogljpgdbpaaCat
/- Contracts: bindings in memory of their own, and their marks: what is marked lies between two numbers of blocks. -/
namespace Go.Proofs.Ytenlogljpgdbpaa
open Go.RowKit

/-- Nothing but blocks from lo to hi has turned. -/
structure Rng (lo hi : Nat) (w w' : World) : Prop where
  os : w'.os = w.os
  tape : w'.tape = w.tape
  output : w'.output = w.output
  size : w.heap.size ≤ w'.heap.size
  block : ∀ k, k < w.heap.size → (k < lo ∨ hi ≤ k) → w'.heap[k]? = w.heap[k]?

theorem Rng.refl (lo hi : Nat) (w : World) : Rng lo hi w w := ⟨rfl, rfl, rfl, Nat.le_refl _, fun _ _ _ => rfl⟩
theorem Rng.trans {lo hi : Nat} {a b c : World} (h : Rng lo hi a b) (k : Rng lo hi b c) : Rng lo hi a c :=
  ⟨k.os.trans h.os, k.tape.trans h.tape, k.output.trans h.output, Nat.le_trans h.size k.size, fun j hj hx => (k.block j (Nat.lt_of_lt_of_le hj h.size) hx).trans (h.block j hj hx)⟩
theorem Rng.of {lo hi g : Nat} {a b : World} (h : a.grownBy b (some g)) (h1 : lo ≤ g) (h2 : g < hi) : Rng lo hi a b :=
  ⟨h.os, h.tape, h.output, h.size, fun j hj hx => h.block j hj (by intro e; simp at e; omega)⟩
theorem Rng.by {lo hi : Nat} {a b : World} (h : Below a.heap.size a b) : Rng lo hi a b :=
  ⟨h.os, h.tape, h.output, h.size, fun j hj _ => h.block j hj⟩
theorem Rng.below {lo hi : Nat} {w a b : World} (h : Below w.heap.size w a) (k : Rng lo hi a b) (hl : w.heap.size ≤ lo) : Below w.heap.size w b :=
  ⟨k.os.trans h.os, k.tape.trans h.tape, k.output.trans h.output, Nat.le_trans h.size k.size, fun j hj => (k.block j (Nat.lt_of_lt_of_le hj h.size) (Or.inl (by omega))).trans (h.block j hj)⟩

theorem cell_of_blk {w w' : World} {b o : Nat} (h : w'.heap[b]? = w.heap[b]?) : w'.cell? ⟨b, o, none⟩ = w.cell? ⟨b, o, none⟩ := by
  unfold World.cell?; simp only [h]

theorem One.rng {w w' : World} {b lo hi : Nat} {v : Value} (h : One w b v) (k : Rng lo hi w w') (hx : b < lo ∨ hi ≤ b) : One w' b v :=
  ⟨Nat.lt_of_lt_of_le h.blk k.size, by rw [cell_of_blk (k.block b h.blk hx)]; exact h.c0⟩
theorem Two.rng {w w' : World} {b lo hi : Nat} {x y : Value} (h : Two w b x y) (k : Rng lo hi w w') (hx : b < lo ∨ hi ≤ b) : Two w' b x y :=
  ⟨Nat.lt_of_lt_of_le h.blk k.size, by rw [cell_of_blk (k.block b h.blk hx)]; exact h.c0, by rw [cell_of_blk (k.block b h.blk hx)]; exact h.c1⟩
theorem ownsRow_rng {w w' : World} {B e size g n c lo hi : Nat} {xs : List Value} (h : w.ownsRow B e size (.slice (some ⟨g, 0, none⟩) n c) n xs) (k : Rng lo hi w w') (hx : g < lo ∨ hi ≤ g) : w'.ownsRow B e size (.slice (some ⟨g, 0, none⟩) n c) n xs := by
  refine ⟨h.1, h.2.imp id ?_⟩
  rintro ⟨g', cap, cur, h1, h2, h3, h4⟩
  have e' : g' = g := by simp at h1; exact h1.1.symm
  subst e'
  exact ⟨g', cap, cur, h1, h2, by rw [k.block g' (Array.getElem?_eq_some_iff.1 h3).1 hx]; exact h3, h4⟩
theorem OwnI.rng {w w' : World} {B g n c lo hi : Nat} {L : Nat → Int} {j : Nat} (h : OwnI w B g n c L j) (k : Rng lo hi w w') (hx : g < lo ∨ hi ≤ g) : OwnI w' B g n c L j := by
  obtain ⟨xs, ho, hz⟩ := h; exact ⟨xs, ownsRow_rng ho k hx, hz⟩

/-- How many numbers the first k lists have. -/
def sumM (D : LsL) : Nat → Nat
  | 0 => 0
  | k + 1 => sumM D k + D.m k

/-- Lists in memory of their own, between two numbers of blocks. -/
def OwnMR (w : World) (lo hi g n c : Nat) (D : LsL) : Prop :=
  lo ≤ g ∧ g < hi ∧ hi ≤ w.heap.size ∧ ∃ (xs : List Value) (G : Nat → Nat), w.ownsRow lo 25 1 (.slice (some ⟨g, 0, none⟩) n c) n xs ∧ (∀ i, i < n → ∃ d, xs[i]? = some (.slice (some ⟨G i, 0, none⟩) (D.m i) d) ∧ D.m i ≤ d ∧ lo ≤ G i ∧ G i < hi ∧ G i ≠ g ∧ OwnI w lo (G i) (D.m i) d (D.L i) (D.m i)) ∧ ∀ i j, i < j → j < n → G i < G j

theorem OwnM.between {w : World} {B g n c : Nat} {D : LsL} (h : OwnM w B g n c D n) : OwnMR w B w.heap.size g n c D := by
  have hl := h.lt
  obtain ⟨xs, G, ho, hx, hm⟩ := h
  refine ⟨(ho.lt g rfl).1, hl, Nat.le_refl _, xs, G, ho, fun i hi => ?_, hm⟩
  obtain ⟨d, a1, a2, a3, a4, a5⟩ := hx i hi
  exact ⟨d, a1, a2, a3, a5.lt, a4, a5⟩

theorem OwnMR.keep {w w' : World} {lo hi g n c : Nat} {D : LsL} (h : OwnMR w lo hi g n c D) (hb : Below w.heap.size w w') : OwnMR w' lo hi g n c D := by
  obtain ⟨h1, h2, h3, xs, G, ho, hx, hm⟩ := h
  refine ⟨h1, h2, Nat.le_trans h3 hb.size, xs, G, ownsRow_later ho hb (by omega), fun i hi => ?_, hm⟩
  obtain ⟨d, a1, a2, a3, a4, a5, a6⟩ := hx i hi
  exact ⟨d, a1, a2, a3, a4, a5, a6.keep hb⟩

theorem OwnMR.rng {w w' : World} {lo hi lo' hi' g n c : Nat} {D : LsL} (h : OwnMR w lo hi g n c D) (k : Rng lo' hi' w w') (hx : hi ≤ lo' ∨ hi' ≤ lo) : OwnMR w' lo hi g n c D := by
  obtain ⟨h1, h2, h3, xs, G, ho, hz, hm⟩ := h
  refine ⟨h1, h2, Nat.le_trans h3 k.size, xs, G, ownsRow_rng ho k (by omega), fun i hi => ?_, hm⟩
  obtain ⟨d, a1, a2, a3, a4, a5, a6⟩ := hz i hi
  exact ⟨d, a1, a2, a3, a4, a5, a6.rng k (by omega)⟩

theorem grown_rng {w w' : World} {g : Nat} (h : w.grownBy w' (some g)) : Rng g (g + 1) w w' := Rng.of h (Nat.le_refl _) (by omega)

theorem OwnMR.mats {w : World} {lo hi g n c : Nat} {D : LsL} (h : OwnMR w lo hi g n c D) : Mats w g 0 n D := by
  obtain ⟨h1, h2, h3, xs, G, ho, hx, _⟩ := h
  refine ⟨fun _ => by omega, fun i hi => ?_⟩
  obtain ⟨d, a1, a2, _, _, _, a6⟩ := hx i hi
  exact ⟨G i, 0, d, by rw [Nat.zero_add, ho.cellAt _ (by omega)]; exact a1, a6.ints, a2⟩

theorem OwnMR.one {w : World} {lo hi g n c : Nat} {D : LsL} (h : OwnMR w lo hi g n c D) {k : Nat} (hk : k < n) :
    ∃ G d, w.cell? ⟨g, k, none⟩ = some (.slice (some ⟨G, 0, none⟩) (D.m k) d) ∧ OwnI w lo G (D.m k) d (D.L k) (D.m k) ∧ lo ≤ G ∧ G < hi ∧
      ∀ (w' : World) (L' : Nat → Int), w.grownBy w' (some G) → OwnI w' lo G (D.m k) d L' (D.m k) → OwnMR w' lo hi g n c ⟨D.m, fun i => if i = k then L' else D.L i⟩ := by
  obtain ⟨h1, h2, h3, xs, G, ho, hx, hm⟩ := h
  obtain ⟨d, a1, a2, a3, a4, a5, a6⟩ := hx k hk
  refine ⟨G k, d, by rw [ho.cellAt _ (by omega)]; exact a1, a6, a3, a4, fun w' L' hg ho' => ⟨h1, h2, Nat.le_trans h3 hg.size, xs, G, ho.kept hg (Or.inr (by simp [Value.ownBlock]; omega)), fun i hi => ?_, hm⟩⟩
  by_cases e : i = k
  · subst e
    simp only [if_true]
    exact ⟨d, a1, a2, a3, a4, a5, ho'⟩
  · obtain ⟨d', b1, b2, b3, b4, b5, b6⟩ := hx i hi
    simp only [e, if_false]
    refine ⟨d', b1, b2, b3, b4, b5, b6.grown hg ?_⟩
    rcases Nat.lt_or_gt_of_ne e with hl | hl
    · have := hm i k hl hk; omega
    · have := hm k i hl hi; omega

/-- The lists, the first k of them marked from z on. -/
def mkD (z : Nat) (D : LsL) (k : Nat) : LsL := ⟨D.m, fun i => if i < k then mkI (z + sumM D i) else D.L i⟩

theorem mkD_step (z : Nat) (D : LsL) (k : Nat) : (⟨(mkD z D k).m, fun i => if i = k then mkI (z + sumM D k) else (mkD z D k).L i⟩ : LsL) = mkD z D (k + 1) := by
  simp only [mkD]
  congr 1
  funext i
  by_cases e : i = k
  · subst e; rw [if_pos rfl, if_pos (by omega)]
  · rw [if_neg e]
    by_cases h : i < k
    · rw [if_pos h, if_pos (by omega)]
    · rw [if_neg h, if_neg (by omega)]

theorem mkD_zero (z : Nat) (D : LsL) : mkD z D 0 = D := by simp [mkD]

theorem sumM_le (D : LsL) : ∀ {k n : Nat}, k ≤ n → sumM D k ≤ sumM D n := by
  intro k n h
  induction h with
  | refl => exact Nat.le_refl _
  | step _ ih => exact Nat.le_trans ih (Nat.le_add_right _ _)

set_option maxRecDepth 20000 in
set_option maxHeartbeats 800000 in
theorem markInt64SS_any (lo hi g n c : Nat) (z : Int) (D : LsL) (w : World) (h : OwnMR w lo hi g n c D) (hk : KeptM n D) (h0 : 0 ≤ z) (ht : z + sumM D n ≤ 1099511627776) :
    Calls Try.prog 53 #[.slice (some ⟨g, 0, none⟩) n c, .int .i64 z] w fun e w' => e = .returned (.int .i64 (z + sumM D n)) ∧ OwnMR w' lo hi g n c (mkD z.toNat D n) ∧ Rng lo hi w w' := by
  have hn := hk.most
  have H := hidden h
  have HK := hidden hk
  have HT := hidden ht
  generalize hS : z + (sumM D n : Int) = S
  have HS := hidden hS
  clear h hk ht hS
  go_enter Try.func53, Try.ntmps53
  go_wp2
  go_loopw [1, 5] (fun a i wr => ∃ (k : Nat) (y : Int), k ≤ n ∧ i = .int .i64 k ∧ a = .int .i64 y ∧ Hid (y = z + sumM D k) ∧ Hid (OwnMR wr lo hi g n c (mkD z.toNat D k) ∧ Rng lo hi w wr)) (fun _ i _ => n - (intOf i).toNat)
  case atStart => exact ⟨0, z, Nat.zero_le _, rfl, rfl, hidden (by simp [sumM]), hidden ⟨by rw [mkD_zero]; exact H.out, Rng.refl _ _ _⟩⟩
  case round =>
    obtain ⟨k, y, hk, rfl, rfl, HY, HI⟩ := hrel
    by_cases hlt : k < n
    · obtain ⟨G, d, c1, ho, hl, hh, hput⟩ := HI.out.1.one hlt
      replace c1 : wr.cell? ⟨g, k, none⟩ = some (.slice (some ⟨G, 0, none⟩) (D.m k) d) := c1
      have O := hidden ho
      have P := hidden hput
      have LL := hidden (And.intro hl hh)
      have HA := hidden (show 0 ≤ y ∧ y ≤ 1099511627776 by have := sumM_le D (Nat.le_of_lt hlt); have := HY.out; have := HT.out; omega)
      have HM := hidden (HK.out.m k hlt)
      clear ho hput hl hh
      go_wp2_with fail
      with_reducible refine (markInt64S_z lo G (D.m k) d y _ _ O.out HM.out HA.out.1 HA.out.2).mono ?_
      rintro e w2 ⟨rfl, ho, hg⟩
      have e1 : y.toNat = z.toNat + sumM D k := by have := HY.out; omega
      rw [e1] at ho
      have HW := hidden (And.intro (P.out w2 _ hg ho) (HI.out.2.trans (Rng.of hg LL.out.1 LL.out.2)))
      rw [mkD_step] at HW
      have HY2 := hidden (show y + (D.m k : Int) = z + sumM D (k + 1) by have := HY.out; simp only [sumM]; omega)
      clear ho hg c1 HI O P LL HA HM e1
      generalize y + (D.m k : Int) = y2 at *
      go_wp2
      go_roundw
      case rel => exact ⟨k + 1, y2, by omega, by go_num, rfl, HY2, HW⟩
      case measure => simp [intOf]; omega
    · obtain rfl : n = k := by omega
      have HE := hidden (HY.out.trans HS.out)
      go_wp2
      go_ret
      exact ⟨by rw [← HE.out]; rfl, HI.out.1, HI.out.2⟩

/-- A binding in memory of its own. -/
structure OwnBd (w : World) (lo hi g1 m : Nat) (V : Nat → Int) (g2 t : Nat) (D : LsL) : Prop where
  base : lo ≤ g1
  up : g1 + 1 ≤ hi
  top : hi ≤ w.heap.size
  vars : OwnI w lo g1 m m V m
  terms : OwnMR w (g1 + 1) hi g2 t t D

theorem OwnBd.keep {w w' : World} {lo hi g1 m : Nat} {V : Nat → Int} {g2 t : Nat} {D : LsL} (h : OwnBd w lo hi g1 m V g2 t D) (hb : Below w.heap.size w w') : OwnBd w' lo hi g1 m V g2 t D :=
  ⟨h.base, h.up, Nat.le_trans h.top hb.size, h.vars.keep hb, h.terms.keep hb⟩
theorem OwnBd.rng {w w' : World} {lo hi g1 m lo' hi' : Nat} {V : Nat → Int} {g2 t : Nat} {D : LsL} (h : OwnBd w lo hi g1 m V g2 t D) (k : Rng lo' hi' w w') (hx : hi ≤ lo' ∨ hi' ≤ lo) : OwnBd w' lo hi g1 m V g2 t D :=
  ⟨h.base, h.up, Nat.le_trans h.top k.size, h.vars.rng k (by have := h.base; have := h.up; omega), h.terms.rng k (by have := h.base; omega)⟩
theorem OwnBd.grown {w w' : World} {lo hi g1 m g : Nat} {V : Nat → Int} {g2 t : Nat} {D : LsL} (h : OwnBd w lo hi g1 m V g2 t D) (k : w.grownBy w' (some g)) (hx : g < lo ∨ hi ≤ g) : OwnBd w' lo hi g1 m V g2 t D :=
  h.rng (grown_rng k) (by omega)

theorem toBinding_own (p1 : Option Addr) (m1 c1 : Nat) (L1 : Nat → Int) (p2 : Option Addr) (m2 c2 : Nat) (D2 : LsL) (w : World) (h1 : SrcI w p1 m1 L1) (h2 : SrcM w p2 m2 D2) (hm1 : m1 ≤ 1048576) (hm2 : KeptM m2 D2) :
    Calls Try.prog 22 #[.agg #[.slice p1 m1 c1, .slice p2 m2 c2]] w fun e w' => ∃ g1 g2, e = .returned (.agg #[.slice (some ⟨g1, 0, none⟩) m1 m1, .slice (some ⟨g2, 0, none⟩) m2 m2]) ∧ OwnBd w' w.heap.size w'.heap.size g1 m1 L1 g2 m2 D2 ∧ Below w.heap.size w w' := by
  refine (toBinding_src p1 m1 c1 L1 p2 m2 c2 D2 w h1 h2 hm1 hm2).mono ?_
  rintro e w' ⟨g1, g2, rfl, hg, hl, hs1, hs2, hb⟩
  exact ⟨g1, g2, rfl, ⟨hg, hs1.lt, Nat.le_refl _, hs1, hs2.between⟩, hb⟩

set_option maxRecDepth 20000 in
set_option maxHeartbeats 800000 in
theorem markBinding_any (lo hi g1 m g2 t : Nat) (z : Int) (V : Nat → Int) (D : LsL) (w : World) (h : OwnBd w lo hi g1 m V g2 t D) (hm : m ≤ 1048576) (hk : KeptM t D) (h0 : 0 ≤ z) (ht : z + m + sumM D t ≤ 1099511627776) :
    Calls Try.prog 25 #[.agg #[.slice (some ⟨g1, 0, none⟩) m m, .slice (some ⟨g2, 0, none⟩) t t], .int .i64 z] w fun e w' => e = .returned (.int .i64 (z + m + sumM D t)) ∧ OwnBd w' lo hi g1 m (mkI z.toNat) g2 t (mkD (z.toNat + m) D t) ∧ Rng lo hi w w' := by
  have X := hidden (Two.new w (.slice (some ⟨g1, 0, none⟩) m m) (.slice (some ⟨g2, 0, none⟩) t t) 29)
  have hb := alloc_below w (.cells #[.slice (some ⟨g1, 0, none⟩) m m, .slice (some ⟨g2, 0, none⟩) t t] 29)
  have H := hidden (h.keep hb)
  have HB := hidden hb
  have HW := hidden h.top
  have HK := hidden hk
  have HL := hidden h.up
  have x0 := X.out.c0
  clear h hb hk
  go_enter Try.func25, Try.ntmps25
  go_wp2_with fail
  with_reducible refine (markInt64S_z lo g1 m m z V _ H.out.vars hm h0 (by omega)).mono ?_
  rintro e w2 ⟨rfl, ho, hg⟩
  have R1 := hidden (show Rng lo hi w w2 from (Rng.by HB.out).trans (Rng.of hg H.out.base (by have := H.out.up; omega)))
  have T1 := hidden (H.out.terms.rng (grown_rng hg) (Or.inr (Nat.le_refl _)))
  have V1 := hidden ho
  have x1 := (X.out.grown hg (by have := HL.out; have := HW.out; omega)).c1
  clear x0 hg ho
  go_wp2_with fail
  with_reducible refine (markInt64SS_any (g1 + 1) hi g2 t t (z + m) D _ T1.out HK.out (by omega) ht).mono ?_
  rintro e w3 ⟨rfl, ho, hr⟩
  rw [show (z + (m : Int)).toNat = z.toNat + m by omega] at ho
  have V2 := hidden (V1.out.rng hr (Or.inl (by omega)))
  have R2 := hidden hr
  have O2 := hidden ho
  clear x1 hr ho
  go_wp2
  go_ret
  have hbase := H.out.base
  refine ⟨rfl, ⟨H.out.base, H.out.up, O2.out.2.2.1, V2.out, O2.out⟩, R1.out.trans ⟨R2.out.os, R2.out.tape, R2.out.output, R2.out.size, fun k hk hx => R2.out.block k hk (by omega)⟩⟩

end Go.Proofs.Ytenlogljpgdbpaa

/- Contracts: a binding as an answer, in memory of its own: its comparison, its marks, and that they are held. -/
namespace Go.Proofs.Ytenlogljpgdbpaa
open Go.RowKit

/-- Lists in memory of their own, between two numbers of blocks, none of them in block no. -/
def OwnMX (w : World) (lo hi no g n c : Nat) (D : LsL) : Prop :=
  lo ≤ g ∧ g < hi ∧ hi ≤ w.heap.size ∧ g ≠ no ∧ ∃ (xs : List Value) (G : Nat → Nat), w.ownsRow lo 25 1 (.slice (some ⟨g, 0, none⟩) n c) n xs ∧ (∀ i, i < n → ∃ d, xs[i]? = some (.slice (some ⟨G i, 0, none⟩) (D.m i) d) ∧ D.m i ≤ d ∧ lo ≤ G i ∧ G i < hi ∧ G i ≠ g ∧ G i ≠ no ∧ OwnI w lo (G i) (D.m i) d (D.L i) (D.m i)) ∧ ∀ i j, i < j → j < n → G i < G j

theorem OwnMX.keep {w w' : World} {lo hi no g n c : Nat} {D : LsL} (h : OwnMX w lo hi no g n c D) (hb : Below w.heap.size w w') : OwnMX w' lo hi no g n c D := by
  obtain ⟨h1, h2, h3, h4, xs, G, ho, hx, hm⟩ := h
  refine ⟨h1, h2, Nat.le_trans h3 hb.size, h4, xs, G, ownsRow_later ho hb (by omega), fun i hi => ?_, hm⟩
  obtain ⟨d, a1, a2, a3, a4, a5, a6, a7⟩ := hx i hi
  exact ⟨d, a1, a2, a3, a4, a5, a6, a7.keep hb⟩

theorem OwnMX.rng {w w' : World} {lo hi no lo' hi' g n c : Nat} {D : LsL} (h : OwnMX w lo hi no g n c D) (k : Rng lo' hi' w w') (hx : hi ≤ lo' ∨ hi' ≤ lo) : OwnMX w' lo hi no g n c D := by
  obtain ⟨h1, h2, h3, h4, xs, G, ho, hz, hm⟩ := h
  refine ⟨h1, h2, Nat.le_trans h3 k.size, h4, xs, G, ownsRow_rng ho k (by omega), fun i hi => ?_, hm⟩
  obtain ⟨d, a1, a2, a3, a4, a5, a6, a7⟩ := hz i hi
  exact ⟨d, a1, a2, a3, a4, a5, a6, a7.rng k (by omega)⟩

/-- What is written into block no leaves it as it was. -/
theorem OwnMX.far {w w' : World} {lo hi no g n c : Nat} {D : LsL} (h : OwnMX w lo hi no g n c D) (k : w.grownBy w' (some no)) : OwnMX w' lo hi no g n c D := by
  obtain ⟨h1, h2, h3, h4, xs, G, ho, hz, hm⟩ := h
  refine ⟨h1, h2, Nat.le_trans h3 k.size, h4, xs, G, ho.kept k (Or.inr (by simp [Value.ownBlock]; omega)), fun i hi => ?_, hm⟩
  obtain ⟨d, a1, a2, a3, a4, a5, a6, a7⟩ := hz i hi
  exact ⟨d, a1, a2, a3, a4, a5, a6, a7.grown k a6⟩

theorem OwnMX.mats {w : World} {lo hi no g n c : Nat} {D : LsL} (h : OwnMX w lo hi no g n c D) : Mats w g 0 n D := by
  obtain ⟨h1, h2, h3, h4, xs, G, ho, hx, _⟩ := h
  refine ⟨fun _ => by omega, fun i hi => ?_⟩
  obtain ⟨d, a1, a2, _, _, _, _, a6⟩ := hx i hi
  exact ⟨G i, 0, d, by rw [Nat.zero_add, ho.cellAt _ (by omega)]; exact a1, a6.ints, a2⟩

theorem OwnMX.one {w : World} {lo hi no g n c : Nat} {D : LsL} (h : OwnMX w lo hi no g n c D) {k : Nat} (hk : k < n) :
    ∃ G d, w.cell? ⟨g, k, none⟩ = some (.slice (some ⟨G, 0, none⟩) (D.m k) d) ∧ OwnI w lo G (D.m k) d (D.L k) (D.m k) ∧ lo ≤ G ∧ G < hi ∧ G ≠ no ∧
      ∀ (w' : World) (L' : Nat → Int), w.grownBy w' (some G) → OwnI w' lo G (D.m k) d L' (D.m k) → OwnMX w' lo hi no g n c ⟨D.m, fun i => if i = k then L' else D.L i⟩ := by
  obtain ⟨h1, h2, h3, h4, xs, G, ho, hx, hm⟩ := h
  obtain ⟨d, a1, a2, a3, a4, a5, a6, a7⟩ := hx k hk
  refine ⟨G k, d, by rw [ho.cellAt _ (by omega)]; exact a1, a7, a3, a4, a6, fun w' L' hg ho' => ⟨h1, h2, Nat.le_trans h3 hg.size, h4, xs, G, ho.kept hg (Or.inr (by simp [Value.ownBlock]; omega)), fun i hi => ?_, hm⟩⟩
  by_cases e : i = k
  · subst e
    simp only [if_true]
    exact ⟨d, a1, a2, a3, a4, a5, a6, ho'⟩
  · obtain ⟨d', b1, b2, b3, b4, b5, b6, b7⟩ := hx i hi
    simp only [e, if_false]
    refine ⟨d', b1, b2, b3, b4, b5, b6, b7.grown hg ?_⟩
    rcases Nat.lt_or_gt_of_ne e with hl | hl
    · have := hm i k hl hk; omega
    · have := hm k i hl hi; omega

/-- What has turned lies between two numbers of blocks, and not in block no. -/
structure RngX (lo hi no : Nat) (w w' : World) : Prop where
  rng : Rng lo hi w w'
  far : no < w.heap.size → w'.heap[no]? = w.heap[no]?

theorem RngX.refl (lo hi no : Nat) (w : World) : RngX lo hi no w w := ⟨Rng.refl _ _ _, fun _ => rfl⟩
theorem RngX.trans {lo hi no : Nat} {a b c : World} (h : RngX lo hi no a b) (k : RngX lo hi no b c) : RngX lo hi no a c :=
  ⟨h.rng.trans k.rng, fun hn => (k.far (Nat.lt_of_lt_of_le hn h.rng.size)).trans (h.far hn)⟩

theorem OwnI.farX {w w' : World} {B g n c lo hi : Nat} {L : Nat → Int} {j : Nat} (h : OwnI w B g n c L j) (k : RngX lo hi g w w') : OwnI w' B g n c L j := by
  obtain ⟨xs, ho, hz⟩ := h
  refine ⟨xs, ⟨ho.1, ho.2.imp id ?_⟩, hz⟩
  rintro ⟨g', cap, cur, h1, h2, h3, h4⟩
  have e' : g' = g := by simp at h1; exact h1.1.symm
  subst e'
  exact ⟨g', cap, cur, h1, h2, by rw [k.far (Array.getElem?_eq_some_iff.1 h3).1]; exact h3, h4⟩

set_option maxRecDepth 20000 in
set_option maxHeartbeats 800000 in
theorem markSSX_any (lo hi no g n c : Nat) (z : Int) (D : LsL) (w : World) (h : OwnMX w lo hi no g n c D) (hk : KeptM n D) (h0 : 0 ≤ z) (ht : z + sumM D n ≤ 1099511627776) :
    Calls Try.prog 53 #[.slice (some ⟨g, 0, none⟩) n c, .int .i64 z] w fun e w' => e = .returned (.int .i64 (z + sumM D n)) ∧ OwnMX w' lo hi no g n c (mkD z.toNat D n) ∧ RngX lo hi no w w' := by
  have hn := hk.most
  have H := hidden h
  have HK := hidden hk
  have HT := hidden ht
  generalize hS : z + (sumM D n : Int) = S
  have HS := hidden hS
  clear h hk ht hS
  go_enter Try.func53, Try.ntmps53
  go_wp2
  go_loopw [1, 5] (fun a i wr => ∃ (k : Nat) (y : Int), k ≤ n ∧ i = .int .i64 k ∧ a = .int .i64 y ∧ Hid (y = z + sumM D k) ∧ Hid (OwnMX wr lo hi no g n c (mkD z.toNat D k) ∧ RngX lo hi no w wr)) (fun _ i _ => n - (intOf i).toNat)
  case atStart => exact ⟨0, z, Nat.zero_le _, rfl, rfl, hidden (by simp [sumM]), hidden ⟨by rw [mkD_zero]; exact H.out, RngX.refl _ _ _ _⟩⟩
  case round =>
    obtain ⟨k, y, hk, rfl, rfl, HY, HI⟩ := hrel
    by_cases hlt : k < n
    · obtain ⟨G, d, c1, ho, hl, hh, hno, hput⟩ := HI.out.1.one hlt
      replace c1 : wr.cell? ⟨g, k, none⟩ = some (.slice (some ⟨G, 0, none⟩) (D.m k) d) := c1
      have O := hidden ho
      have P := hidden hput
      have LL := hidden (And.intro hl (And.intro hh hno))
      have HA := hidden (show 0 ≤ y ∧ y ≤ 1099511627776 by have := sumM_le D (Nat.le_of_lt hlt); have := HY.out; have := HT.out; omega)
      have HM := hidden (HK.out.m k hlt)
      clear ho hput hl hh hno
      go_wp2_with fail
      with_reducible refine (markInt64S_z lo G (D.m k) d y _ _ O.out HM.out HA.out.1 HA.out.2).mono ?_
      rintro e w2 ⟨rfl, ho, hg⟩
      have e1 : y.toNat = z.toNat + sumM D k := by have := HY.out; omega
      rw [e1] at ho
      have HW := hidden (And.intro (P.out w2 _ hg ho) (HI.out.2.trans ⟨Rng.of hg LL.out.1 LL.out.2.1, fun hn => hg.block no hn (by intro e; simp at e; exact LL.out.2.2 e.symm)⟩))
      rw [mkD_step] at HW
      have HY2 := hidden (show y + (D.m k : Int) = z + sumM D (k + 1) by have := HY.out; simp only [sumM]; omega)
      clear ho hg c1 HI O P LL HA HM e1
      generalize y + (D.m k : Int) = y2 at *
      go_wp2
      go_roundw
      case rel => exact ⟨k + 1, y2, by omega, by go_num, rfl, HY2, HW⟩
      case measure => simp [intOf]; omega
    · obtain rfl : n = k := by omega
      have HE := hidden (HY.out.trans HS.out)
      go_wp2
      go_ret
      exact ⟨by rw [← HE.out]; rfl, HI.out.1, HI.out.2⟩

set_option maxRecDepth 20000 in
set_option maxHeartbeats 800000 in
theorem heldSSX_any (lo hi no g n c z : Nat) (D : LsL) (w : World) (h : OwnMX w lo hi no g n c (mkD z D n)) (hk : KeptM n D) (ht : z + sumM D n ≤ 1099511627776) :
    Calls Try.prog 70 #[.slice (some ⟨g, 0, none⟩) n c, .int .i64 (z : Int)] w fun e w' => e = .returned (.int .i64 ((z : Int) + sumM D n)) ∧ Below w.heap.size w w' := by
  have hn := hk.most
  have H := hidden h
  have HK := hidden hk
  have HT := hidden ht
  generalize hS : (z : Int) + (sumM D n : Int) = S
  have HS := hidden hS
  clear h hk ht hS
  go_enter Try.func70, Try.ntmps70
  go_wp2
  go_loopw [1, 5] (fun a i wr => ∃ (k y : Nat), k ≤ n ∧ i = .int .i64 k ∧ a = .int .i64 (y : Int) ∧ Hid (y = z + sumM D k) ∧ Hid (Below w.heap.size w wr)) (fun _ i _ => n - (intOf i).toNat)
  case atStart => exact ⟨0, z, Nat.zero_le _, rfl, rfl, hidden (by simp [sumM]), hidden (Below.refl _ _)⟩
  case round =>
    obtain ⟨k, y, hk, rfl, rfl, HY, HB⟩ := hrel
    by_cases hlt : k < n
    · obtain ⟨G, d, c1, ho, _, _, _, _⟩ := (H.out.keep HB.out).one hlt
      replace c1 : wr.cell? ⟨g, k, none⟩ = some (.slice (some ⟨G, 0, none⟩) (D.m k) d) := c1
      have O := hidden (show Ints wr G 0 (D.m k) (mkI y) by
        have h1 := ho.ints
        have e : (mkD z D n).L k = mkI y := by simp only [mkD, if_pos hlt]; rw [HY.out]
        rw [e] at h1
        exact h1)
      have HA := hidden (show y ≤ 1099511627776 by have := sumM_le D (Nat.le_of_lt hlt); have := HY.out; have := HT.out; omega)
      have HM := hidden (HK.out.m k hlt)
      clear ho
      go_wp2_with fail
      with_reducible refine (heldInt64S_any G (D.m k) d y _ O.out HM.out HA.out).mono ?_
      rintro e w2 ⟨rfl, hb⟩
      have B1 := hidden (keepB HB.out hb)
      have HY2 := hidden (show y + D.m k = z + sumM D (k + 1) by have := HY.out; simp only [sumM]; omega)
      clear hb c1 O HA HM HB HY
      generalize y + D.m k = y2 at *
      go_wp2
      go_roundw
      case rel => exact ⟨k + 1, y2, by omega, by go_num, rfl, HY2, B1⟩
      case measure => simp [intOf]; omega
    · obtain rfl : n = k := by omega
      have HE := hidden (show (y : Int) = S by have := HY.out; have := HS.out; omega)
      go_wp2
      go_ret
      exact ⟨by rw [← HE.out]; rfl, HB.out⟩

/-- A binding as an answer, in memory of its own. -/
structure OwnBx (w : World) (lo hi g1 m d1 : Nat) (V : Nat → Int) (g2 t d2 : Nat) (D : LsL) : Prop where
  base : lo ≤ g1
  up : g1 < hi
  top : hi ≤ w.heap.size
  vars : OwnI w lo g1 m d1 V m
  terms : OwnMX w lo hi g1 g2 t d2 D

theorem OwnBx.keep {w w' : World} {lo hi g1 m d1 : Nat} {V : Nat → Int} {g2 t d2 : Nat} {D : LsL} (h : OwnBx w lo hi g1 m d1 V g2 t d2 D) (hb : Below w.heap.size w w') : OwnBx w' lo hi g1 m d1 V g2 t d2 D :=
  ⟨h.base, h.up, Nat.le_trans h.top hb.size, h.vars.keep hb, h.terms.keep hb⟩
theorem OwnBx.rng {w w' : World} {lo hi g1 m d1 lo' hi' : Nat} {V : Nat → Int} {g2 t d2 : Nat} {D : LsL} (h : OwnBx w lo hi g1 m d1 V g2 t d2 D) (k : Rng lo' hi' w w') (hx : hi ≤ lo' ∨ hi' ≤ lo) : OwnBx w' lo hi g1 m d1 V g2 t d2 D :=
  ⟨h.base, h.up, Nat.le_trans h.top k.size, h.vars.rng k (by have := h.base; have := h.up; omega), h.terms.rng k hx⟩
theorem OwnBx.grown {w w' : World} {lo hi g1 m d1 g : Nat} {V : Nat → Int} {g2 t d2 : Nat} {D : LsL} (h : OwnBx w lo hi g1 m d1 V g2 t d2 D) (k : w.grownBy w' (some g)) (hx : g < lo ∨ hi ≤ g) : OwnBx w' lo hi g1 m d1 V g2 t d2 D :=
  h.rng (grown_rng k) (by omega)

set_option maxRecDepth 20000 in
set_option maxHeartbeats 800000 in
theorem markBx_any (lo hi g1 m d1 g2 t d2 : Nat) (z : Int) (V : Nat → Int) (D : LsL) (w : World) (h : OwnBx w lo hi g1 m d1 V g2 t d2 D) (hm : m ≤ 1048576) (hk : KeptM t D) (h0 : 0 ≤ z) (ht : z + m + sumM D t ≤ 1099511627776) :
    Calls Try.prog 25 #[.agg #[.slice (some ⟨g1, 0, none⟩) m d1, .slice (some ⟨g2, 0, none⟩) t d2], .int .i64 z] w fun e w' => e = .returned (.int .i64 (z + m + sumM D t)) ∧ OwnBx w' lo hi g1 m d1 (mkI z.toNat) g2 t d2 (mkD (z.toNat + m) D t) ∧ Rng lo hi w w' := by
  have X := hidden (Two.new w (.slice (some ⟨g1, 0, none⟩) m d1) (.slice (some ⟨g2, 0, none⟩) t d2) 29)
  have hb := alloc_below w (.cells #[.slice (some ⟨g1, 0, none⟩) m d1, .slice (some ⟨g2, 0, none⟩) t d2] 29)
  have H := hidden (h.keep hb)
  have HB := hidden hb
  have HW := hidden h.top
  have HK := hidden hk
  have HL := hidden h.up
  have x0 := X.out.c0
  clear h hb hk
  go_enter Try.func25, Try.ntmps25
  go_wp2_with fail
  with_reducible refine (markInt64S_z lo g1 m d1 z V _ H.out.vars hm h0 (by omega)).mono ?_
  rintro e w2 ⟨rfl, ho, hg⟩
  have R1 := hidden (show Rng lo hi w w2 from (Rng.by HB.out).trans (Rng.of hg H.out.base H.out.up))
  have T1 := hidden (H.out.terms.far hg)
  have V1 := hidden ho
  have x1 := (X.out.grown hg (by have := HL.out; have := HW.out; omega)).c1
  clear x0 hg ho
  go_wp2_with fail
  with_reducible refine (markSSX_any lo hi g1 g2 t d2 (z + m) D _ T1.out HK.out (by omega) ht).mono ?_
  rintro e w3 ⟨rfl, ho, hr⟩
  rw [show (z + (m : Int)).toNat = z.toNat + m by omega] at ho
  have V2 := hidden (V1.out.farX hr)
  have R2 := hidden hr.rng
  have O2 := hidden ho
  clear x1 hr ho
  go_wp2
  go_ret
  exact ⟨rfl, ⟨H.out.base, H.out.up, O2.out.2.2.1, V2.out, O2.out⟩, R1.out.trans R2.out⟩

set_option maxRecDepth 20000 in
set_option maxHeartbeats 800000 in
theorem heldBx_any (lo hi g1 m d1 g2 t d2 z : Nat) (D : LsL) (w : World) (h : OwnBx w lo hi g1 m d1 (mkI z) g2 t d2 (mkD (z + m) D t)) (hm : m ≤ 1048576) (hk : KeptM t D) (ht : z + m + sumM D t ≤ 1099511627776) :
    Calls Try.prog 37 #[.agg #[.slice (some ⟨g1, 0, none⟩) m d1, .slice (some ⟨g2, 0, none⟩) t d2], .int .i64 (z : Int)] w fun e w' => e = .returned (.int .i64 (((z + m : Nat) : Int) + sumM D t)) ∧ Below w.heap.size w w' := by
  have X := hidden (Two.new w (.slice (some ⟨g1, 0, none⟩) m d1) (.slice (some ⟨g2, 0, none⟩) t d2) 29)
  have hb := alloc_below w (.cells #[.slice (some ⟨g1, 0, none⟩) m d1, .slice (some ⟨g2, 0, none⟩) t d2] 29)
  have H := hidden (h.keep hb)
  have B := hidden hb
  have HK := hidden hk
  have x0 := X.out.c0
  generalize hS : ((z + m : Nat) : Int) + (sumM D t : Int) = S
  have HS := hidden hS
  clear h hb hk hS
  go_enter Try.func37, Try.ntmps37
  go_wp2_with fail
  with_reducible refine (heldInt64S_any g1 m d1 z _ H.out.vars.ints hm (by omega)).mono ?_
  rintro e w2 ⟨rfl, hb⟩
  replace H := hidden (H.out.keep hb)
  replace X := hidden (X.out.keep hb)
  replace B := hidden (keepB B.out hb)
  clear hb x0
  have x1 := X.out.c1
  obtain ⟨y, hy⟩ : ∃ y, y = z + m := ⟨_, rfl⟩
  have HY := hidden hy
  rw [← hy] at H HS ⊢
  have ht2 : y + sumM D t ≤ 1099511627776 := by omega
  have SJ := hidden (heldSSX_any lo hi g1 g2 t d2 y D _ H.out.terms HK.out ht2)
  rw [HS.out] at SJ
  have hS0 : ¬ S < 0 := by have := HS.out; omega
  clear hy
  go_wp2_with fail
  with_reducible refine SJ.out.mono ?_
  rintro e w3 ⟨rfl, hb⟩
  replace B := hidden (keepB B.out hb)
  clear hb x1 SJ
  go_wp2
  go_ret
  exact ⟨rfl, B.out⟩

end Go.Proofs.Ytenlogljpgdbpaa

/- Contracts: results that hold a binding: their comparison, marks, and that they are held. -/
namespace Go.Proofs.Ytenlogljpgdbpaa
open Go.RowKit

theorem Three.grown {w w' : World} {b g : Nat} {x y z : Value} (h : Three w b x y z) (hg : w.grownBy w' (some g)) (hne : b ≠ g) : Three w' b x y z :=
  ⟨Nat.lt_of_lt_of_le h.blk hg.size, by rw [cell_of_blk (hg.block b h.blk (by simpa using hne))]; exact h.c0, by rw [cell_of_blk (hg.block b h.blk (by simpa using hne))]; exact h.c1, by rw [cell_of_blk (hg.block b h.blk (by simpa using hne))]; exact h.c2⟩
theorem Three.rng {w w' : World} {b lo hi : Nat} {x y z : Value} (h : Three w b x y z) (k : Rng lo hi w w') (hx : b < lo ∨ hi ≤ b) : Three w' b x y z :=
  ⟨Nat.lt_of_lt_of_le h.blk k.size, by rw [cell_of_blk (k.block b h.blk hx)]; exact h.c0, by rw [cell_of_blk (k.block b h.blk hx)]; exact h.c1, by rw [cell_of_blk (k.block b h.blk hx)]; exact h.c2⟩

set_option maxRecDepth 20000 in
set_option maxHeartbeats 800000 in
theorem eqBdR_eq (z : Int) (b1 b2 m1 c1 m2 c2 b3 b4 c3 c4 : Nat) (L1 : Nat → Int) (D2 : LsL) (w : World) (h1 : Ints w b1 0 m1 L1) (h2 : Mats w b2 0 m2 D2) (h3 : Ints w b3 0 m1 L1) (h4 : Mats w b4 0 m2 D2) (hm1 : m1 ≤ 1048576) (hm2 : KeptM m2 D2) :
    Calls Try.prog 11 #[.agg #[.int .i64 z, .slice (some ⟨b1, 0, none⟩) m1 c1, .slice (some ⟨b2, 0, none⟩) m2 c2], .agg #[.int .i64 z, .slice (some ⟨b3, 0, none⟩) m1 c3, .slice (some ⟨b4, 0, none⟩) m2 c4]] w fun e w' => e = .returned (.bool true) ∧ Below w.heap.size w w' := by
  have X1 := hidden (Three.new w (.int .i64 z) (.slice (some ⟨b1, 0, none⟩) m1 c1) (.slice (some ⟨b2, 0, none⟩) m2 c2) 31)
  have A1 := hidden (alloc_below w (.cells #[.int .i64 z, .slice (some ⟨b1, 0, none⟩) m1 c1, .slice (some ⟨b2, 0, none⟩) m2 c2] 31))
  have X2 := hidden (Three.new (w.alloc (.cells #[.int .i64 z, .slice (some ⟨b1, 0, none⟩) m1 c1, .slice (some ⟨b2, 0, none⟩) m2 c2] 31)) (.int .i64 z) (.slice (some ⟨b3, 0, none⟩) m1 c3) (.slice (some ⟨b4, 0, none⟩) m2 c4) 31)
  have A2 := hidden (alloc_below (w.alloc (.cells #[.int .i64 z, .slice (some ⟨b1, 0, none⟩) m1 c1, .slice (some ⟨b2, 0, none⟩) m2 c2] 31)) (.cells #[.int .i64 z, .slice (some ⟨b3, 0, none⟩) m1 c3, .slice (some ⟨b4, 0, none⟩) m2 c4] 31))
  replace X1 := hidden (X1.out.keep A2.out)
  simp only [World.size_alloc] at X2
  have B := hidden (keepB A1.out A2.out)
  have H1 := hidden (h1.keep B.out)
  have H2 := hidden (h2.keep B.out)
  have H3 := hidden (h3.keep B.out)
  have H4 := hidden (h4.keep B.out)
  clear h1 h2 h3 h4
  have x0 := X1.out.c0
  have x1 := X1.out.c1
  have x2 := X1.out.c2
  have y0 := X2.out.c0
  have y1 := X2.out.c1
  have y2 := X2.out.c2
  go_enter Try.func11, Try.ntmps11
  go_wp2_with fail
  with_reducible refine (eqBinding_eq _ _ _ _ _ _ _ _ _ _ _ _ _ _ L1 D2 _ H1.out H2.out H3.out H4.out hm1 hm2).mono ?_
  rintro e w1 ⟨rfl, hb⟩
  replace B := hidden (keepB B.out hb)
  clear hb x0 x1 x2 y0 y1 y2
  go_wp2
  go_ret
  exact ⟨rfl, B.out⟩

set_option maxRecDepth 20000 in
set_option maxHeartbeats 800000 in
theorem markBdR_any (y : Int) (lo hi g1 m d1 g2 t d2 : Nat) (V : Nat → Int) (D : LsL) (w : World) (h : OwnBx w lo hi g1 m d1 V g2 t d2 D) (hm : m ≤ 1048576) (hk : KeptM t D) (ht : (1 : Int) + m + sumM D t ≤ 1099511627776) :
    Calls Try.prog 16 #[.agg #[.int .i64 y, .slice (some ⟨g1, 0, none⟩) m d1, .slice (some ⟨g2, 0, none⟩) t d2], .int .i64 1] w fun e w' => e = .returned (.int .i64 (1 + m + sumM D t)) ∧ OwnBx w' lo hi g1 m d1 (mkI 1) g2 t d2 (mkD (1 + m) D t) ∧ Rng lo hi w w' := by
  have X := hidden (Three.new w (.int .i64 y) (.slice (some ⟨g1, 0, none⟩) m d1) (.slice (some ⟨g2, 0, none⟩) t d2) 31)
  have hb := alloc_below w (.cells #[.int .i64 y, .slice (some ⟨g1, 0, none⟩) m d1, .slice (some ⟨g2, 0, none⟩) t d2] 31)
  have S := hidden (markBx_any lo hi g1 m d1 g2 t d2 1 V D _ (h.keep hb) hm hk (by omega) ht)
  have HB := hidden hb
  have x1 := X.out.c1
  have x2 := X.out.c2
  clear h hb hk
  go_enter Try.func16, Try.ntmps16
  go_wp2_with fail
  with_reducible refine S.out.mono ?_
  rintro e w2 ⟨rfl, ho, hr⟩
  have HE := hidden (And.intro ho ((Rng.by HB.out).trans hr))
  clear x1 x2 ho hr S
  go_wp2
  go_ret
  exact ⟨rfl, HE.out.1, HE.out.2⟩

set_option maxRecDepth 20000 in
set_option maxHeartbeats 800000 in
theorem heldBdR_any (y : Int) (lo hi g1 m d1 g2 t d2 : Nat) (D : LsL) (w : World) (h : OwnBx w lo hi g1 m d1 (mkI 1) g2 t d2 (mkD (1 + m) D t)) (hm : m ≤ 1048576) (hk : KeptM t D) (ht : 1 + m + sumM D t ≤ 1099511627776) :
    Calls Try.prog 17 #[.agg #[.int .i64 y, .slice (some ⟨g1, 0, none⟩) m d1, .slice (some ⟨g2, 0, none⟩) t d2], .int .i64 1] w fun e w' => e = .returned (.int .i64 (1 + m + sumM D t)) ∧ Below w.heap.size w w' := by
  have X := hidden (Three.new w (.int .i64 y) (.slice (some ⟨g1, 0, none⟩) m d1) (.slice (some ⟨g2, 0, none⟩) t d2) 31)
  have hb := alloc_below w (.cells #[.int .i64 y, .slice (some ⟨g1, 0, none⟩) m d1, .slice (some ⟨g2, 0, none⟩) t d2] 31)
  have S := hidden (heldBx_any lo hi g1 m d1 g2 t d2 1 D _ (h.keep hb) hm hk ht)
  rw [show ((1 + m : Nat) : Int) + (sumM D t : Int) = 1 + m + sumM D t by omega, show ((1 : Nat) : Int) = 1 from rfl] at S
  generalize hz : (1 : Int) + m + sumM D t = z at S ⊢
  have hz0 : ¬ z < 0 := by omega
  have B := hidden hb
  have x1 := X.out.c1
  have x2 := X.out.c2
  clear h hb hk hz
  go_enter Try.func17, Try.ntmps17
  go_wp2_with fail
  with_reducible refine S.out.mono ?_
  rintro e w2 ⟨rfl, hb⟩
  replace B := hidden (keepB B.out hb)
  clear x1 x2 hb S
  go_wp2
  go_ret
  exact ⟨rfl, B.out⟩

end Go.Proofs.Ytenlogljpgdbpaa

/- Contracts: results that hold a binding of nothing: their comparison, marks, and that they are held. -/
namespace Go.Proofs.Ytenlogljpgdbpaa
open Go.RowKit

set_option maxRecDepth 20000 in
set_option maxHeartbeats 400000 in
theorem eqI_nil (w : World) :
    Calls Try.prog 13 #[.slice none 0 0, .slice none 0 0] w fun e w' => e = .returned (.bool true) ∧ Below w.heap.size w w' := by
  go_enter Try.func13, Try.ntmps13
  go_wp2
  refine wp_loop_rounds 1 ?_
  rw [rounds_succ]
  go_wp2
  go_ret
  exact ⟨rfl, Below.refl _ _⟩

set_option maxRecDepth 20000 in
set_option maxHeartbeats 400000 in
theorem eqSS_nil (w : World) :
    Calls Try.prog 52 #[.slice none 0 0, .slice none 0 0] w fun e w' => e = .returned (.bool true) ∧ Below w.heap.size w w' := by
  go_enter Try.func52, Try.ntmps52
  go_wp2
  refine wp_loop_rounds 1 ?_
  rw [rounds_succ]
  go_wp2
  go_ret
  exact ⟨rfl, Below.refl _ _⟩

set_option maxRecDepth 20000 in
set_option maxHeartbeats 400000 in
theorem markI_nil (w : World) :
    Calls Try.prog 15 #[.slice none 0 0, .int .i64 1] w fun e w' => e = .returned (.int .i64 1) ∧ Below w.heap.size w w' := by
  go_enter Try.func15, Try.ntmps15
  go_wp2
  refine wp_loop_rounds 1 ?_
  rw [rounds_succ]
  go_wp2
  go_ret
  exact ⟨rfl, Below.refl _ _⟩

set_option maxRecDepth 20000 in
set_option maxHeartbeats 400000 in
theorem markSS_nil (w : World) :
    Calls Try.prog 53 #[.slice none 0 0, .int .i64 1] w fun e w' => e = .returned (.int .i64 1) ∧ Below w.heap.size w w' := by
  go_enter Try.func53, Try.ntmps53
  go_wp2
  refine wp_loop_rounds 1 ?_
  rw [rounds_succ]
  go_wp2
  go_ret
  exact ⟨rfl, Below.refl _ _⟩

set_option maxRecDepth 20000 in
set_option maxHeartbeats 400000 in
theorem heldI_nil (w : World) :
    Calls Try.prog 69 #[.slice none 0 0, .int .i64 1] w fun e w' => e = .returned (.int .i64 1) ∧ Below w.heap.size w w' := by
  go_enter Try.func69, Try.ntmps69
  go_wp2
  refine wp_loop_rounds 1 ?_
  rw [rounds_succ]
  go_wp2
  go_ret
  exact ⟨rfl, Below.refl _ _⟩

set_option maxRecDepth 20000 in
set_option maxHeartbeats 400000 in
theorem heldSS_nil (w : World) :
    Calls Try.prog 70 #[.slice none 0 0, .int .i64 1] w fun e w' => e = .returned (.int .i64 1) ∧ Below w.heap.size w w' := by
  go_enter Try.func70, Try.ntmps70
  go_wp2
  refine wp_loop_rounds 1 ?_
  rw [rounds_succ]
  go_wp2
  go_ret
  exact ⟨rfl, Below.refl _ _⟩

set_option maxRecDepth 20000 in
set_option maxHeartbeats 800000 in
theorem eqBd_nil (w : World) :
    Calls Try.prog 24 #[.agg #[.slice none 0 0, .slice none 0 0], .agg #[.slice none 0 0, .slice none 0 0]] w fun e w' => e = .returned (.bool true) ∧ Below w.heap.size w w' := by
  have X1 := hidden ((Two.new w (.slice none 0 0) (.slice none 0 0) 29).keep (alloc_below _ (.cells #[.slice none 0 0, .slice none 0 0] 29)))
  have X2 := hidden (Two.new (w.alloc (.cells #[.slice none 0 0, .slice none 0 0] 29)) (.slice none 0 0) (.slice none 0 0) 29)
  simp only [World.size_alloc] at X2
  have B := hidden (keepB (alloc_below w (.cells #[.slice none 0 0, .slice none 0 0] 29)) (alloc_below (w.alloc (.cells #[.slice none 0 0, .slice none 0 0] 29)) (.cells #[.slice none 0 0, .slice none 0 0] 29)))
  have x0 := X1.out.c0
  have y0 := X2.out.c0
  go_enter Try.func24, Try.ntmps24
  go_wp2_with fail
  with_reducible refine (eqI_nil _).mono ?_
  rintro e w1 ⟨rfl, hb⟩
  replace X1 := hidden (X1.out.keep hb)
  replace X2 := hidden (X2.out.keep hb)
  replace B := hidden (keepB B.out hb)
  clear hb x0 y0
  have x1 := X1.out.c1
  have y1 := X2.out.c1
  go_wp2_with fail
  with_reducible refine (eqSS_nil _).mono ?_
  rintro e w2 ⟨rfl, hb⟩
  replace B := hidden (keepB B.out hb)
  clear hb x1 y1
  go_wp2
  go_ret
  exact ⟨rfl, B.out⟩

set_option maxRecDepth 20000 in
set_option maxHeartbeats 800000 in
theorem markBd_nil (w : World) :
    Calls Try.prog 25 #[.agg #[.slice none 0 0, .slice none 0 0], .int .i64 1] w fun e w' => e = .returned (.int .i64 1) ∧ Below w.heap.size w w' := by
  have X1 := hidden (Two.new w (.slice none 0 0) (.slice none 0 0) 29)
  have B := hidden (alloc_below w (.cells #[.slice none 0 0, .slice none 0 0] 29))
  have x0 := X1.out.c0
  go_enter Try.func25, Try.ntmps25
  go_wp2_with fail
  with_reducible refine (markI_nil _).mono ?_
  rintro e w1 ⟨rfl, hb⟩
  replace X1 := hidden (X1.out.keep hb)
  replace B := hidden (keepB B.out hb)
  clear hb x0
  have x1 := X1.out.c1
  go_wp2_with fail
  with_reducible refine (markSS_nil _).mono ?_
  rintro e w2 ⟨rfl, hb⟩
  replace B := hidden (keepB B.out hb)
  clear hb x1
  go_wp2
  go_ret
  exact ⟨rfl, B.out⟩

set_option maxRecDepth 20000 in
set_option maxHeartbeats 800000 in
theorem heldBd_nil (w : World) :
    Calls Try.prog 37 #[.agg #[.slice none 0 0, .slice none 0 0], .int .i64 1] w fun e w' => e = .returned (.int .i64 1) ∧ Below w.heap.size w w' := by
  have X1 := hidden (Two.new w (.slice none 0 0) (.slice none 0 0) 29)
  have B := hidden (alloc_below w (.cells #[.slice none 0 0, .slice none 0 0] 29))
  have x0 := X1.out.c0
  go_enter Try.func37, Try.ntmps37
  go_wp2_with fail
  with_reducible refine (heldI_nil _).mono ?_
  rintro e w1 ⟨rfl, hb⟩
  replace X1 := hidden (X1.out.keep hb)
  replace B := hidden (keepB B.out hb)
  clear hb x0
  have x1 := X1.out.c1
  go_wp2_with fail
  with_reducible refine (heldSS_nil _).mono ?_
  rintro e w2 ⟨rfl, hb⟩
  replace B := hidden (keepB B.out hb)
  clear hb x1
  go_wp2
  go_ret
  exact ⟨rfl, B.out⟩

set_option maxRecDepth 20000 in
set_option maxHeartbeats 800000 in
theorem eqBdR_none (z : Int) (w : World) :
    Calls Try.prog 11 #[.agg #[.int .i64 z, .slice none 0 0, .slice none 0 0], .agg #[.int .i64 z, .slice none 0 0, .slice none 0 0]] w fun e w' => e = .returned (.bool true) ∧ Below w.heap.size w w' := by
  have X1 := hidden ((Three.new w (.int .i64 z) (.slice none 0 0) (.slice none 0 0) 31).keep (alloc_below _ (.cells #[.int .i64 z, .slice none 0 0, .slice none 0 0] 31)))
  have X2 := hidden (Three.new (w.alloc (.cells #[.int .i64 z, .slice none 0 0, .slice none 0 0] 31)) (.int .i64 z) (.slice none 0 0) (.slice none 0 0) 31)
  simp only [World.size_alloc] at X2
  have B := hidden (keepB (alloc_below w (.cells #[.int .i64 z, .slice none 0 0, .slice none 0 0] 31)) (alloc_below (w.alloc (.cells #[.int .i64 z, .slice none 0 0, .slice none 0 0] 31)) (.cells #[.int .i64 z, .slice none 0 0, .slice none 0 0] 31)))
  have x0 := X1.out.c0
  have x1 := X1.out.c1
  have x2 := X1.out.c2
  have y0 := X2.out.c0
  have y1 := X2.out.c1
  have y2 := X2.out.c2
  go_enter Try.func11, Try.ntmps11
  go_wp2_with fail
  with_reducible refine (eqBd_nil _).mono ?_
  rintro e w1 ⟨rfl, hb⟩
  replace B := hidden (keepB B.out hb)
  clear hb x0 x1 x2 y0 y1 y2
  go_wp2
  go_ret
  exact ⟨rfl, B.out⟩

set_option maxRecDepth 20000 in
set_option maxHeartbeats 800000 in
theorem markBdR_none (z : Int) (w : World) :
    Calls Try.prog 16 #[.agg #[.int .i64 z, .slice none 0 0, .slice none 0 0], .int .i64 1] w fun e w' => e = .returned (.int .i64 1) ∧ Below w.heap.size w w' := by
  have X1 := hidden (Three.new w (.int .i64 z) (.slice none 0 0) (.slice none 0 0) 31)
  have B := hidden (alloc_below w (.cells #[.int .i64 z, .slice none 0 0, .slice none 0 0] 31))
  have x1 := X1.out.c1
  have x2 := X1.out.c2
  go_enter Try.func16, Try.ntmps16
  go_wp2_with fail
  with_reducible refine (markBd_nil _).mono ?_
  rintro e w1 ⟨rfl, hb⟩
  replace B := hidden (keepB B.out hb)
  clear hb x1 x2
  go_wp2
  go_ret
  exact ⟨rfl, B.out⟩

set_option maxRecDepth 20000 in
set_option maxHeartbeats 800000 in
theorem heldBdR_none (z : Int) (w : World) :
    Calls Try.prog 17 #[.agg #[.int .i64 z, .slice none 0 0, .slice none 0 0], .int .i64 1] w fun e w' => e = .returned (.int .i64 1) ∧ Below w.heap.size w w' := by
  have X1 := hidden (Three.new w (.int .i64 z) (.slice none 0 0) (.slice none 0 0) 31)
  have B := hidden (alloc_below w (.cells #[.int .i64 z, .slice none 0 0, .slice none 0 0] 31))
  have x1 := X1.out.c1
  have x2 := X1.out.c2
  go_enter Try.func17, Try.ntmps17
  go_wp2_with fail
  with_reducible refine (heldBd_nil _).mono ?_
  rintro e w1 ⟨rfl, hb⟩
  replace B := hidden (keepB B.out hb)
  clear hb x1 x2
  go_wp2
  go_ret
  exact ⟨rfl, B.out⟩

end Go.Proofs.Ytenlogljpgdbpaa
