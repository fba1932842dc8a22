/- Contracts: lists one behind the other: slices.Concat as the program calls it, and the model's l3Replace. -/
import Derived.Test.YtenlogljpgdbpaaSub
import Derived.Lib.AppendZerosOnto
import Derived.Lib.SliceRun
namespace Go.Proofs.Ytenlogljpgdbpaa
open Go.RowKit

theorem OwnI.vals {w : World} {B g n d : Nat} {L : Nat → Int} (h : OwnI w B g n d L n) : w.ownsRow B 2 1 (.slice (some ⟨g, 0, none⟩) n d) n (valsI L n) := by
  obtain ⟨xs, ho, hx⟩ := h
  have hl : xs.length = n * 1 := ho.1
  have e : xs = valsI L n := by
    apply List.ext_getElem?
    intro i
    by_cases hi : i < n
    · rw [hx i hi, valsI_at L n i hi]
    · rw [List.getElem?_eq_none (by omega), List.getElem?_eq_none (by simp [valsI]; omega)]
  rw [← e]; exact ho

theorem row_own {w : World} {B g n d : Nat} {L : Nat → Int} (h : w.ownsRow B 2 1 (.slice (some ⟨g, 0, none⟩) n d) n (valsI L n)) : OwnI w B g n d L n :=
  ⟨_, h, fun i hi => valsI_at L n i hi⟩

/-- The first q of T, all k of M, those of T from e on. -/
def catU (q k e : Nat) (T M : Nat → Int) : Nat → Int := fun i => if i < q then T i else if i < q + k then M (i - q) else T (e + (i - (q + k)))

theorem cat_vals (q k e r : Nat) (T M : Nat → Int) : valsI T q ++ valsI M k ++ valsI (fun i => T (e + i)) r = valsI (catU q k e T M) (q + k + r) := by
  apply List.ext_getElem?
  intro i
  have l1 : (valsI T q).length = q := by simp [valsI]
  have l2 : (valsI M k).length = k := by simp [valsI]
  by_cases h1 : i < q
  · rw [List.append_assoc, List.getElem?_append_left (by omega), valsI_at _ _ _ h1, valsI_at _ _ _ (by omega)]; simp [catU, h1]
  · by_cases h2 : i < q + k
    · rw [List.getElem?_append_left (by rw [List.length_append]; omega), List.getElem?_append_right (by omega), l1, valsI_at _ _ _ (by omega), valsI_at _ _ _ (by omega)]; simp [catU, h1, h2]
    · rw [List.getElem?_append_right (by rw [List.length_append]; omega), List.length_append, l1, l2]
      by_cases h3 : i < q + k + r
      · rw [valsI_at _ _ _ (by omega), valsI_at _ _ _ h3]; simp [catU, h1, h2]
      · rw [List.getElem?_eq_none (by simp [valsI]; omega), List.getElem?_eq_none (by simp [valsI]; omega)]

theorem Ints.src0 {w : World} {b off n : Nat} {L : Nat → Int} (h : Ints w b off n L) : ∀ (j : Nat) (u : Value), (valsI L n)[j]? = some u → w.cell? ((⟨b, off, none⟩ : Addr).add j) = some u := by
  intro j u hj
  have hjn : j < n := by
    have := (List.getElem?_eq_some_iff.1 hj).1
    simpa [valsI] using this
  have e : (⟨b, off, none⟩ : Addr).add j = ⟨b, off + j, none⟩ := by unfold Addr.add; split <;> simp_all
  rw [valsI_at L n j hjn] at hj
  rw [e, ← hj]
  exact h.cell j hjn

/-- A row of three slices of numbers. -/
structure Three (w : World) (b : Nat) (x y z : Value) : Prop where
  blk : b < w.heap.size
  c0 : w.cell? ⟨b, 0, none⟩ = some x
  c1 : w.cell? ⟨b, 1, none⟩ = some y
  c2 : w.cell? ⟨b, 2, none⟩ = some z

theorem Three.new (w : World) (x y z : Value) (t : TypeId) : Three (w.alloc (.cells #[x, y, z] t)) w.heap.size x y z := by
  refine ⟨by simp, ?_, ?_, ?_⟩ <;> simp [go_sem]

theorem Three.keep {w w' : World} {b : Nat} {x y z : Value} (h : Three w b x y z) (hb : Below w.heap.size w w') : Three w' b x y z :=
  ⟨Nat.lt_of_lt_of_le h.blk hb.size, by rw [hb.cell (p := ⟨b, 0, none⟩) h.blk]; exact h.c0, by rw [hb.cell (p := ⟨b, 1, none⟩) h.blk]; exact h.c1, by rw [hb.cell (p := ⟨b, 2, none⟩) h.blk]; exact h.c2⟩

theorem row_open {w w1 : World} {B : Nat} {v' : Value} {xs : List Value} {k : Nat} (h : w1.ownsRow B 2 1 v' k xs) (hnil : ¬ v' = .slice none 0 0) (hb : Below B w w1) : ∃ g d, v' = .slice (some ⟨g, 0, none⟩) k d ∧ B ≤ g ∧ w1.ownsRow B 2 1 (.slice (some ⟨g, 0, none⟩) k d) k xs ∧ Below B w w1 := by
  rcases h.2 with ⟨hv, _⟩ | ⟨g, d, cur, hv, hg, _⟩
  · exact absurd hv hnil
  · subst hv; exact ⟨g, d, rfl, hg, h, hb⟩

end Go.Proofs.Ytenlogljpgdbpaa
