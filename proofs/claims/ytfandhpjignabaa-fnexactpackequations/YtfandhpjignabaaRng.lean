/- Plain facts: what has turned lies between two numbers of blocks. -/
import Derived.Test.YtfandhpjignabaaMat
namespace Go.Proofs.Ytfandhpjignabaa
open Go.RowKit

/-- Nothing but blocks from lo to hi has turned. -/
structure Rng (lo hi : Nat) (w w' : World) : Prop where
  os : w'.os = w.os
  tape : w'.tape = w.tape
  output : w'.output = w.output
  size : w.heap.size ≤ w'.heap.size
  block : ∀ k, k < w.heap.size → (k < lo ∨ hi ≤ k) → w'.heap[k]? = w.heap[k]?

theorem Rng.refl (lo hi : Nat) (w : World) : Rng lo hi w w := ⟨rfl, rfl, rfl, Nat.le_refl _, fun _ _ _ => rfl⟩
theorem Rng.trans {lo hi : Nat} {a b c : World} (h : Rng lo hi a b) (k : Rng lo hi b c) : Rng lo hi a c :=
  ⟨k.os.trans h.os, k.tape.trans h.tape, k.output.trans h.output, Nat.le_trans h.size k.size, fun j hj hx => (k.block j (Nat.lt_of_lt_of_le hj h.size) hx).trans (h.block j hj hx)⟩
theorem Rng.of {lo hi g : Nat} {a b : World} (h : a.grownBy b (some g)) (h1 : lo ≤ g) (h2 : g < hi) : Rng lo hi a b :=
  ⟨h.os, h.tape, h.output, h.size, fun j hj hx => h.block j hj (by intro e; simp at e; omega)⟩
theorem Rng.by {lo hi : Nat} {a b : World} (h : Below a.heap.size a b) : Rng lo hi a b :=
  ⟨h.os, h.tape, h.output, h.size, fun j hj _ => h.block j hj⟩
theorem Rng.below {lo hi : Nat} {w a b : World} (h : Below w.heap.size w a) (k : Rng lo hi a b) (hl : w.heap.size ≤ lo) : Below w.heap.size w b :=
  ⟨k.os.trans h.os, k.tape.trans h.tape, k.output.trans h.output, Nat.le_trans h.size k.size, fun j hj => (k.block j (Nat.lt_of_lt_of_le hj h.size) (Or.inl (by omega))).trans (h.block j hj)⟩

theorem cell_of_blk {w w' : World} {b o : Nat} (h : w'.heap[b]? = w.heap[b]?) : w'.cell? ⟨b, o, none⟩ = w.cell? ⟨b, o, none⟩ := by
  unfold World.cell?; simp only [h]

theorem One.rng {w w' : World} {b lo hi : Nat} {v : Value} (h : One w b v) (k : Rng lo hi w w') (hx : b < lo ∨ hi ≤ b) : One w' b v :=
  ⟨Nat.lt_of_lt_of_le h.blk k.size, by rw [cell_of_blk (k.block b h.blk hx)]; exact h.c0⟩
theorem Two.rng {w w' : World} {b lo hi : Nat} {x y : Value} (h : Two w b x y) (k : Rng lo hi w w') (hx : b < lo ∨ hi ≤ b) : Two w' b x y :=
  ⟨Nat.lt_of_lt_of_le h.blk k.size, by rw [cell_of_blk (k.block b h.blk hx)]; exact h.c0, by rw [cell_of_blk (k.block b h.blk hx)]; exact h.c1⟩
theorem ownsRow_rng {w w' : World} {B e size g n c lo hi : Nat} {xs : List Value} (h : w.ownsRow B e size (.slice (some ⟨g, 0, none⟩) n c) n xs) (k : Rng lo hi w w') (hx : g < lo ∨ hi ≤ g) : w'.ownsRow B e size (.slice (some ⟨g, 0, none⟩) n c) n xs := by
  refine ⟨h.1, h.2.imp id ?_⟩
  rintro ⟨g', cap, cur, h1, h2, h3, h4⟩
  have e' : g' = g := by simp at h1; exact h1.1.symm
  subst e'
  exact ⟨g', cap, cur, h1, h2, by rw [k.block g' (Array.getElem?_eq_some_iff.1 h3).1 hx]; exact h3, h4⟩
theorem OwnI.rng {w w' : World} {B g n c lo hi : Nat} {L : Nat → Int} {j : Nat} (h : OwnI w B g n c L j) (k : Rng lo hi w w') (hx : g < lo ∨ hi ≤ g) : OwnI w' B g n c L j := by
  obtain ⟨xs, ho, hz⟩ := h; exact ⟨xs, ownsRow_rng ho k hx, hz⟩

/-- How many numbers the first k lists have. -/
def sumM (D : LsL) : Nat → Nat
  | 0 => 0
  | k + 1 => sumM D k + D.m k

theorem grown_rng {w w' : World} {g : Nat} (h : w.grownBy w' (some g)) : Rng g (g + 1) w w' := Rng.of h (Nat.le_refl _) (by omega)

/-- The lists, the first k of them marked from z on. -/
def mkD (z : Nat) (D : LsL) (k : Nat) : LsL := ⟨D.m, fun i => if i < k then mkI (z + sumM D i) else D.L i⟩

theorem mkD_step (z : Nat) (D : LsL) (k : Nat) : (⟨(mkD z D k).m, fun i => if i = k then mkI (z + sumM D k) else (mkD z D k).L i⟩ : LsL) = mkD z D (k + 1) := by
  simp only [mkD]
  congr 1
  funext i
  by_cases e : i = k
  · subst e; rw [if_pos rfl, if_pos (by omega)]
  · rw [if_neg e]
    by_cases h : i < k
    · rw [if_pos h, if_pos (by omega)]
    · rw [if_neg h, if_neg (by omega)]

theorem mkD_zero (z : Nat) (D : LsL) : mkD z D 0 = D := by simp [mkD]

theorem sumM_le (D : LsL) : ∀ {k n : Nat}, k ≤ n → sumM D k ≤ sumM D n := by
  intro k n h
  induction h with
  | refl => exact Nat.le_refl _
  | step _ ih => exact Nat.le_trans ih (Nat.le_add_right _ _)

end Go.Proofs.Ytfandhpjignabaa
