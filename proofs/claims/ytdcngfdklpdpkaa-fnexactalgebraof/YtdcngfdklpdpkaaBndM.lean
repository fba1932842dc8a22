/- Contracts: bindings in memory of their own, and their marks: what is marked lies between two numbers of blocks. -/
import Derived.Test.YtdcngfdklpdpkaaBnd
namespace Go.Proofs.Ytdcngfdklpdpkaa
open Go.RowKit

/-- Nothing but blocks from lo to hi has turned. -/
structure Rng (lo hi : Nat) (w w' : World) : Prop where
  os : w'.os = w.os
  tape : w'.tape = w.tape
  output : w'.output = w.output
  size : w.heap.size ≤ w'.heap.size
  block : ∀ k, k < w.heap.size → (k < lo ∨ hi ≤ k) → w'.heap[k]? = w.heap[k]?

theorem Rng.refl (lo hi : Nat) (w : World) : Rng lo hi w w := ⟨rfl, rfl, rfl, Nat.le_refl _, fun _ _ _ => rfl⟩
theorem Rng.trans {lo hi : Nat} {a b c : World} (h : Rng lo hi a b) (k : Rng lo hi b c) : Rng lo hi a c :=
  ⟨k.os.trans h.os, k.tape.trans h.tape, k.output.trans h.output, Nat.le_trans h.size k.size, fun j hj hx => (k.block j (Nat.lt_of_lt_of_le hj h.size) hx).trans (h.block j hj hx)⟩
theorem Rng.of {lo hi g : Nat} {a b : World} (h : a.grownBy b (some g)) (h1 : lo ≤ g) (h2 : g < hi) : Rng lo hi a b :=
  ⟨h.os, h.tape, h.output, h.size, fun j hj hx => h.block j hj (by intro e; simp at e; omega)⟩
theorem Rng.by {lo hi : Nat} {a b : World} (h : Below a.heap.size a b) : Rng lo hi a b :=
  ⟨h.os, h.tape, h.output, h.size, fun j hj _ => h.block j hj⟩
theorem Rng.below {lo hi : Nat} {w a b : World} (h : Below w.heap.size w a) (k : Rng lo hi a b) (hl : w.heap.size ≤ lo) : Below w.heap.size w b :=
  ⟨k.os.trans h.os, k.tape.trans h.tape, k.output.trans h.output, Nat.le_trans h.size k.size, fun j hj => (k.block j (Nat.lt_of_lt_of_le hj h.size) (Or.inl (by omega))).trans (h.block j hj)⟩

theorem cell_of_blk {w w' : World} {b o : Nat} (h : w'.heap[b]? = w.heap[b]?) : w'.cell? ⟨b, o, none⟩ = w.cell? ⟨b, o, none⟩ := by
  unfold World.cell?; simp only [h]

theorem One.rng {w w' : World} {b lo hi : Nat} {v : Value} (h : One w b v) (k : Rng lo hi w w') (hx : b < lo ∨ hi ≤ b) : One w' b v :=
  ⟨Nat.lt_of_lt_of_le h.blk k.size, by rw [cell_of_blk (k.block b h.blk hx)]; exact h.c0⟩
theorem Two.rng {w w' : World} {b lo hi : Nat} {x y : Value} (h : Two w b x y) (k : Rng lo hi w w') (hx : b < lo ∨ hi ≤ b) : Two w' b x y :=
  ⟨Nat.lt_of_lt_of_le h.blk k.size, by rw [cell_of_blk (k.block b h.blk hx)]; exact h.c0, by rw [cell_of_blk (k.block b h.blk hx)]; exact h.c1⟩
theorem ownsRow_rng {w w' : World} {B e size g n c lo hi : Nat} {xs : List Value} (h : w.ownsRow B e size (.slice (some ⟨g, 0, none⟩) n c) n xs) (k : Rng lo hi w w') (hx : g < lo ∨ hi ≤ g) : w'.ownsRow B e size (.slice (some ⟨g, 0, none⟩) n c) n xs := by
  refine ⟨h.1, h.2.imp id ?_⟩
  rintro ⟨g', cap, cur, h1, h2, h3, h4⟩
  have e' : g' = g := by simp at h1; exact h1.1.symm
  subst e'
  exact ⟨g', cap, cur, h1, h2, by rw [k.block g' (Array.getElem?_eq_some_iff.1 h3).1 hx]; exact h3, h4⟩
theorem OwnI.rng {w w' : World} {B g n c lo hi : Nat} {L : Nat → Int} {j : Nat} (h : OwnI w B g n c L j) (k : Rng lo hi w w') (hx : g < lo ∨ hi ≤ g) : OwnI w' B g n c L j := by
  obtain ⟨xs, ho, hz⟩ := h; exact ⟨xs, ownsRow_rng ho k hx, hz⟩

/-- How many numbers the first k lists have. -/
def sumM (D : LsL) : Nat → Nat
  | 0 => 0
  | k + 1 => sumM D k + D.m k

/-- Lists in memory of their own, between two numbers of blocks. -/
def OwnMR (w : World) (lo hi g n c : Nat) (D : LsL) : Prop :=
  lo ≤ g ∧ g < hi ∧ hi ≤ w.heap.size ∧ ∃ (xs : List Value) (G : Nat → Nat), w.ownsRow lo 47 1 (.slice (some ⟨g, 0, none⟩) n c) n xs ∧ (∀ i, i < n → ∃ d, xs[i]? = some (.slice (some ⟨G i, 0, none⟩) (D.m i) d) ∧ D.m i ≤ d ∧ lo ≤ G i ∧ G i < hi ∧ G i ≠ g ∧ OwnI w lo (G i) (D.m i) d (D.L i) (D.m i)) ∧ ∀ i j, i < j → j < n → G i < G j

theorem OwnM.between {w : World} {B g n c : Nat} {D : LsL} (h : OwnM w B g n c D n) : OwnMR w B w.heap.size g n c D := by
  have hl := h.lt
  obtain ⟨xs, G, ho, hx, hm⟩ := h
  refine ⟨(ho.lt g rfl).1, hl, Nat.le_refl _, xs, G, ho, fun i hi => ?_, hm⟩
  obtain ⟨d, a1, a2, a3, a4, a5⟩ := hx i hi
  exact ⟨d, a1, a2, a3, a5.lt, a4, a5⟩

theorem OwnMR.keep {w w' : World} {lo hi g n c : Nat} {D : LsL} (h : OwnMR w lo hi g n c D) (hb : Below w.heap.size w w') : OwnMR w' lo hi g n c D := by
  obtain ⟨h1, h2, h3, xs, G, ho, hx, hm⟩ := h
  refine ⟨h1, h2, Nat.le_trans h3 hb.size, xs, G, ownsRow_later ho hb (by omega), fun i hi => ?_, hm⟩
  obtain ⟨d, a1, a2, a3, a4, a5, a6⟩ := hx i hi
  exact ⟨d, a1, a2, a3, a4, a5, a6.keep hb⟩

theorem OwnMR.rng {w w' : World} {lo hi lo' hi' g n c : Nat} {D : LsL} (h : OwnMR w lo hi g n c D) (k : Rng lo' hi' w w') (hx : hi ≤ lo' ∨ hi' ≤ lo) : OwnMR w' lo hi g n c D := by
  obtain ⟨h1, h2, h3, xs, G, ho, hz, hm⟩ := h
  refine ⟨h1, h2, Nat.le_trans h3 k.size, xs, G, ownsRow_rng ho k (by omega), fun i hi => ?_, hm⟩
  obtain ⟨d, a1, a2, a3, a4, a5, a6⟩ := hz i hi
  exact ⟨d, a1, a2, a3, a4, a5, a6.rng k (by omega)⟩

theorem grown_rng {w w' : World} {g : Nat} (h : w.grownBy w' (some g)) : Rng g (g + 1) w w' := Rng.of h (Nat.le_refl _) (by omega)

theorem OwnMR.mats {w : World} {lo hi g n c : Nat} {D : LsL} (h : OwnMR w lo hi g n c D) : Mats w g 0 n D := by
  obtain ⟨h1, h2, h3, xs, G, ho, hx, _⟩ := h
  refine ⟨fun _ => by omega, fun i hi => ?_⟩
  obtain ⟨d, a1, a2, _, _, _, a6⟩ := hx i hi
  exact ⟨G i, 0, d, by rw [Nat.zero_add, ho.cellAt _ (by omega)]; exact a1, a6.ints, a2⟩

theorem OwnMR.one {w : World} {lo hi g n c : Nat} {D : LsL} (h : OwnMR w lo hi g n c D) {k : Nat} (hk : k < n) :
    ∃ G d, w.cell? ⟨g, k, none⟩ = some (.slice (some ⟨G, 0, none⟩) (D.m k) d) ∧ OwnI w lo G (D.m k) d (D.L k) (D.m k) ∧ lo ≤ G ∧ G < hi ∧
      ∀ (w' : World) (L' : Nat → Int), w.grownBy w' (some G) → OwnI w' lo G (D.m k) d L' (D.m k) → OwnMR w' lo hi g n c ⟨D.m, fun i => if i = k then L' else D.L i⟩ := by
  obtain ⟨h1, h2, h3, xs, G, ho, hx, hm⟩ := h
  obtain ⟨d, a1, a2, a3, a4, a5, a6⟩ := hx k hk
  refine ⟨G k, d, by rw [ho.cellAt _ (by omega)]; exact a1, a6, a3, a4, fun w' L' hg ho' => ⟨h1, h2, Nat.le_trans h3 hg.size, xs, G, ho.kept hg (Or.inr (by simp [Value.ownBlock]; omega)), fun i hi => ?_, hm⟩⟩
  by_cases e : i = k
  · subst e
    simp only [if_true]
    exact ⟨d, a1, a2, a3, a4, a5, ho'⟩
  · obtain ⟨d', b1, b2, b3, b4, b5, b6⟩ := hx i hi
    simp only [e, if_false]
    refine ⟨d', b1, b2, b3, b4, b5, b6.grown hg ?_⟩
    rcases Nat.lt_or_gt_of_ne e with hl | hl
    · have := hm i k hl hk; omega
    · have := hm k i hl hi; omega

/-- The lists, the first k of them marked from z on. -/
def mkD (z : Nat) (D : LsL) (k : Nat) : LsL := ⟨D.m, fun i => if i < k then mkI (z + sumM D i) else D.L i⟩

theorem mkD_step (z : Nat) (D : LsL) (k : Nat) : (⟨(mkD z D k).m, fun i => if i = k then mkI (z + sumM D k) else (mkD z D k).L i⟩ : LsL) = mkD z D (k + 1) := by
  simp only [mkD]
  congr 1
  funext i
  by_cases e : i = k
  · subst e; rw [if_pos rfl, if_pos (by omega)]
  · rw [if_neg e]
    by_cases h : i < k
    · rw [if_pos h, if_pos (by omega)]
    · rw [if_neg h, if_neg (by omega)]

theorem mkD_zero (z : Nat) (D : LsL) : mkD z D 0 = D := by simp [mkD]

theorem sumM_le (D : LsL) : ∀ {k n : Nat}, k ≤ n → sumM D k ≤ sumM D n := by
  intro k n h
  induction h with
  | refl => exact Nat.le_refl _
  | step _ ih => exact Nat.le_trans ih (Nat.le_add_right _ _)

set_option maxRecDepth 20000 in
set_option maxHeartbeats 800000 in
theorem markInt64SS_any (lo hi g n c : Nat) (z : Int) (D : LsL) (w : World) (h : OwnMR w lo hi g n c D) (hk : KeptM n D) (h0 : 0 ≤ z) (ht : z + sumM D n ≤ 1099511627776) :
    Calls Try.prog 84 #[.slice (some ⟨g, 0, none⟩) n c, .int .i64 z] w fun e w' => e = .returned (.int .i64 (z + sumM D n)) ∧ OwnMR w' lo hi g n c (mkD z.toNat D n) ∧ Rng lo hi w w' := by
  have hn := hk.most
  have H := hidden h
  have HK := hidden hk
  have HT := hidden ht
  generalize hS : z + (sumM D n : Int) = S
  have HS := hidden hS
  clear h hk ht hS
  go_enter Try.func84, Try.ntmps84
  go_wp2
  go_loopw [1, 5] (fun a i wr => ∃ (k : Nat) (y : Int), k ≤ n ∧ i = .int .i64 k ∧ a = .int .i64 y ∧ Hid (y = z + sumM D k) ∧ Hid (OwnMR wr lo hi g n c (mkD z.toNat D k) ∧ Rng lo hi w wr)) (fun _ i _ => n - (intOf i).toNat)
  case atStart => exact ⟨0, z, Nat.zero_le _, rfl, rfl, hidden (by simp [sumM]), hidden ⟨by rw [mkD_zero]; exact H.out, Rng.refl _ _ _⟩⟩
  case round =>
    obtain ⟨k, y, hk, rfl, rfl, HY, HI⟩ := hrel
    by_cases hlt : k < n
    · obtain ⟨G, d, c1, ho, hl, hh, hput⟩ := HI.out.1.one hlt
      replace c1 : wr.cell? ⟨g, k, none⟩ = some (.slice (some ⟨G, 0, none⟩) (D.m k) d) := c1
      have O := hidden ho
      have P := hidden hput
      have LL := hidden (And.intro hl hh)
      have HA := hidden (show 0 ≤ y ∧ y ≤ 1099511627776 by have := sumM_le D (Nat.le_of_lt hlt); have := HY.out; have := HT.out; omega)
      have HM := hidden (HK.out.m k hlt)
      clear ho hput hl hh
      go_wp2_with fail
      with_reducible refine (markInt64S_z lo G (D.m k) d y _ _ O.out HM.out HA.out.1 HA.out.2).mono ?_
      rintro e w2 ⟨rfl, ho, hg⟩
      have e1 : y.toNat = z.toNat + sumM D k := by have := HY.out; omega
      rw [e1] at ho
      have HW := hidden (And.intro (P.out w2 _ hg ho) (HI.out.2.trans (Rng.of hg LL.out.1 LL.out.2)))
      rw [mkD_step] at HW
      have HY2 := hidden (show y + (D.m k : Int) = z + sumM D (k + 1) by have := HY.out; simp only [sumM]; omega)
      clear ho hg c1 HI O P LL HA HM e1
      generalize y + (D.m k : Int) = y2 at *
      go_wp2
      go_roundw
      case rel => exact ⟨k + 1, y2, by omega, by go_num, rfl, HY2, HW⟩
      case measure => simp [intOf]; omega
    · obtain rfl : n = k := by omega
      have HE := hidden (HY.out.trans HS.out)
      go_wp2
      go_ret
      exact ⟨by rw [← HE.out]; rfl, HI.out.1, HI.out.2⟩

/-- A binding in memory of its own. -/
structure OwnBd (w : World) (lo hi g1 m : Nat) (V : Nat → Int) (g2 t : Nat) (D : LsL) : Prop where
  base : lo ≤ g1
  up : g1 + 1 ≤ hi
  top : hi ≤ w.heap.size
  vars : OwnI w lo g1 m m V m
  terms : OwnMR w (g1 + 1) hi g2 t t D

theorem OwnBd.keep {w w' : World} {lo hi g1 m : Nat} {V : Nat → Int} {g2 t : Nat} {D : LsL} (h : OwnBd w lo hi g1 m V g2 t D) (hb : Below w.heap.size w w') : OwnBd w' lo hi g1 m V g2 t D :=
  ⟨h.base, h.up, Nat.le_trans h.top hb.size, h.vars.keep hb, h.terms.keep hb⟩
theorem OwnBd.rng {w w' : World} {lo hi g1 m lo' hi' : Nat} {V : Nat → Int} {g2 t : Nat} {D : LsL} (h : OwnBd w lo hi g1 m V g2 t D) (k : Rng lo' hi' w w') (hx : hi ≤ lo' ∨ hi' ≤ lo) : OwnBd w' lo hi g1 m V g2 t D :=
  ⟨h.base, h.up, Nat.le_trans h.top k.size, h.vars.rng k (by have := h.base; have := h.up; omega), h.terms.rng k (by have := h.base; omega)⟩
theorem OwnBd.grown {w w' : World} {lo hi g1 m g : Nat} {V : Nat → Int} {g2 t : Nat} {D : LsL} (h : OwnBd w lo hi g1 m V g2 t D) (k : w.grownBy w' (some g)) (hx : g < lo ∨ hi ≤ g) : OwnBd w' lo hi g1 m V g2 t D :=
  h.rng (grown_rng k) (by omega)

end Go.Proofs.Ytdcngfdklpdpkaa
