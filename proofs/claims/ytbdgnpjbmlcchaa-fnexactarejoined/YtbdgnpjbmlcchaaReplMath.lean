/- Plain facts: a term in which a part was replaced. -/
import Derived.Test.YtbdgnpjbmlcchaaRepl
namespace Go.Proofs.Ytbdgnpjbmlcchaa
open Go.RowKit

/-- What is passed over looks at what it passes alone. -/
theorem skip_shift (a a' : Nat → Nat) (m m' : Nat) : ∀ (d p p' j r : Nat), m - p ≤ d → skip a m p j = some r → (∀ i, p + i < r → a' (p' + i) = a (p + i)) → p' + (r - p) ≤ m' → skip a' m' p' j = some (p' + (r - p)) := by
  intro d
  induction d with
  | zero =>
    intro p p' j r hd h _ _
    cases j with
    | zero =>
      rw [skip_zero] at h ⊢
      cases h
      simp
    | succ j => rw [skip_end a j (by omega)] at h; cases h
  | succ d ih =>
    intro p p' j r hd h ha hm
    cases j with
    | zero =>
      rw [skip_zero] at h ⊢
      cases h
      simp
    | succ j =>
      by_cases hp : p < m
      · rw [skip_step a j hp] at h
        have hl := (skip_le h).1
        have h0 := ha 0 (by omega)
        rw [Nat.add_zero, Nat.add_zero] at h0
        rw [skip_step a' j (by omega), h0, ih (p + 1) (p' + 1) (j + a p) r (by omega) h (fun i hi => by
          have := ha (i + 1) (by omega)
          rw [show p' + 1 + i = p' + (i + 1) by omega, show p + 1 + i = p + (i + 1) by omega]; exact this) (by omega)]
        congr 1
        omega
      · rw [skip_end a j (by omega)] at h; cases h

theorem awt_same {a a' : Nat → Nat} : ∀ j, (∀ i, i < j → a' i = a i) → awt a' 0 j = awt a 0 j
  | 0, _ => rfl
  | j + 1, h => by
    have h1 := awt_same j (fun i hi => h i (by omega))
    have h2 := h j (by omega)
    simp only [awt, h1, Nat.zero_add, h2]

section
variable {A T M : Nat → Int} {m k q e : Nat}

theorem catU_low {i : Nat} (h : i < q) : catU q k e T M i = T i := by simp [catU, h]
theorem catU_mid {i : Nat} (h : i < k) : catU q k e T M (q + i) = M i := by
  rw [catU, if_neg (by omega), if_pos (by omega), Nat.add_sub_cancel_left]
theorem catU_high (i : Nat) : catU q k e T M (q + k + i) = T (e + i) := by
  rw [catU, if_neg (by omega), if_neg (by omega), Nat.add_sub_cancel_left]

theorem aOf_eq {T T' : Nat → Int} {i j : Nat} (h : T i = T' j) : aOf A T i = aOf A T' j := by simp only [aOf, h]

/-- The part that was put in ends where it should. -/
theorem cat_part (hM : skip (aOf A M) k 0 1 = some k) : skip (aOf A (catU q k e T M)) (q + k + (m - e)) q 1 = some (q + k) := by
  have := skip_shift (aOf A M) (aOf A (catU q k e T M)) k (q + k + (m - e)) k 0 q 1 k (by omega) hM (fun i hi => by
    rw [Nat.zero_add]; exact aOf_eq (catU_mid (by omega))) (by omega)
  simpa using this

/-- The whole is a term again. -/
theorem cat_whole (hT : skip (aOf A T) m 0 1 = some m) (hM : skip (aOf A M) k 0 1 = some k) (hq : q < m) (he : skip (aOf A T) m q 1 = some e) : skip (aOf A (catU q k e T M)) (q + k + (m - e)) 0 1 = some (q + k + (m - e)) := by
  have hmm : manyN (aOf A T) m 0 = m := by rw [manyN_some hT]; rfl
  have hem := (skip_le he).2 (by omega)
  have hpos : ∀ i, i < m → 0 < awt (aOf A T) 0 i := fun i hi => awt_pos (m := m) (Nat.zero_le _) i (Or.inl (by omega))
  have h1 := (awt_skip (aOf A T) (m := m) (p := 0) q (by omega) (fun i hi => hpos i (by omega))).2
  have hs : ∀ i, i ≤ q → awt (aOf A (catU q k e T M)) 0 i = awt (aOf A T) 0 i := fun i hi => awt_same i (fun j hj => aOf_eq (catU_low (by omega)))
  have h2 := (awt_skip (aOf A (catU q k e T M)) (m := q + k + (m - e)) (p := 0) q (by omega) (fun i hi => by rw [hs i (by omega)]; exact hpos i (by omega))).2
  rw [hs q (Nat.le_refl _)] at h2
  have hq0 := hpos q hq
  obtain ⟨t, ht⟩ : ∃ t, (awt (aOf A T) 0 q).toNat = 1 + t := ⟨(awt (aOf A T) 0 q).toNat - 1, by omega⟩
  rw [ht, Nat.zero_add, skip_split, hT, he] at h1
  rw [ht, Nat.zero_add, skip_split, cat_part hM] at h2
  rw [h2]
  have := skip_shift (aOf A T) (aOf A (catU q k e T M)) m (q + k + (m - e)) m e (q + k) t m (by omega) h1.symm (fun i hi => aOf_eq (catU_high i)) (by omega)
  exact this

/-- The old part put back gives the old term. -/
theorem cat_back (hqe : q < e) {i : Nat} : catU q (e - q) (q + k) (catU q k e T M) (fun j => T (q + j)) i = T i := by
  unfold catU
  by_cases h1 : i < q
  · simp [h1]
  · rw [if_neg h1]
    by_cases h2 : i < q + (e - q)
    · rw [if_pos h2]; show T (q + (i - q)) = T i; congr 1; omega
    · rw [if_neg h2, if_neg (by omega), if_neg (by omega)]; congr 1; omega
end

end Go.Proofs.Ytbdgnpjbmlcchaa
