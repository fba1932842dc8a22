/- Plain facts on lists of nodes: where the terms end that begin at a place, how many are awaited, how deep they are. -/
import Derived.Test.YtbdgnpjbmlcchaaInts
namespace Go.Proofs.Ytbdgnpjbmlcchaa
open Go.RowKit

/-- The place behind k terms that begin at p: the node at p has a p arguments; f nodes are left. -/
def skipG (a : Nat → Nat) : Nat → Nat → Nat → Option Nat
  | _, p, 0 => some p
  | 0, _, _ + 1 => none
  | f + 1, p, k + 1 => skipG a f (p + 1) (k + a p)

/-- The place behind k terms that begin at p, of m nodes; none where the nodes end too early. -/
def skip (a : Nat → Nat) (m p k : Nat) : Option Nat := skipG a (m - p) p k

theorem skip_zero (a : Nat → Nat) (m p : Nat) : skip a m p 0 = some p := by
  unfold skip; cases m - p <;> simp [skipG]

theorem skip_end (a : Nat → Nat) {m p : Nat} (k : Nat) (h : m ≤ p) : skip a m p (k + 1) = none := by
  unfold skip; rw [Nat.sub_eq_zero_of_le h]; simp [skipG]

theorem skip_step (a : Nat → Nat) {m p : Nat} (k : Nat) (h : p < m) : skip a m p (k + 1) = skip a m (p + 1) (k + a p) := by
  unfold skip; rw [show m - p = (m - (p + 1)) + 1 by omega]; simp [skipG]

theorem skip_add (a : Nat → Nat) (m : Nat) : ∀ (d p j k : Nat), m - p ≤ d → skip a m p (j + k) = (skip a m p j).bind (fun e => skip a m e k) := by
  intro d
  induction d with
  | zero =>
    intro p j k h
    cases j with
    | zero => rw [skip_zero, Nat.zero_add]; rfl
    | succ j => rw [show j + 1 + k = (j + k) + 1 by omega, skip_end a _ (by omega), skip_end a _ (by omega)]; rfl
  | succ d ih =>
    intro p j k h
    cases j with
    | zero => rw [skip_zero, Nat.zero_add]; rfl
    | succ j =>
      by_cases hp : p < m
      · rw [show j + 1 + k = (j + k) + 1 by omega, skip_step a _ hp, skip_step a _ hp, show j + k + a p = (j + a p) + k by omega]
        exact ih _ _ _ (by omega)
      · rw [show j + 1 + k = (j + k) + 1 by omega, skip_end a _ (by omega), skip_end a _ (by omega)]; rfl

theorem skip_split (a : Nat → Nat) (m p j k : Nat) : skip a m p (j + k) = (skip a m p j).bind (fun e => skip a m e k) := skip_add a m _ p j k (Nat.le_refl _)

theorem skip_le' (a : Nat → Nat) (m : Nat) : ∀ (d p k e : Nat), m - p ≤ d → skip a m p k = some e → p ≤ e ∧ (0 < k → p < e ∧ e ≤ m) := by
  intro d
  induction d with
  | zero =>
    intro p k e h he
    cases k with
    | zero => rw [skip_zero] at he; cases he; exact ⟨Nat.le_refl _, fun h => by omega⟩
    | succ k => rw [skip_end a _ (by omega)] at he; cases he
  | succ d ih =>
    intro p k e h he
    cases k with
    | zero => rw [skip_zero] at he; cases he; exact ⟨Nat.le_refl _, fun h => by omega⟩
    | succ k =>
      by_cases hp : p < m
      · rw [skip_step a _ hp] at he
        have := ih _ _ _ (by omega) he
        by_cases hk : 0 < k + a p
        · have := this.2 hk; exact ⟨by omega, fun _ => ⟨by omega, by omega⟩⟩
        · rw [show k + a p = 0 by omega, skip_zero] at he; cases he; exact ⟨by omega, fun _ => ⟨by omega, by omega⟩⟩
      · rw [skip_end a _ (by omega)] at he; cases he

theorem skip_le {a : Nat → Nat} {m p k e : Nat} (h : skip a m p k = some e) : p ≤ e ∧ (0 < k → p < e ∧ e ≤ m) := skip_le' a m _ p k e (Nat.le_refl _) h

/-- How manyN terms are awaited ahead of the node p + j, one being awaited at p. -/
def awt (a : Nat → Nat) (p : Nat) : Nat → Int
  | 0 => 1
  | j + 1 => awt a p j + a (p + j) - 1

theorem awt_skip (a : Nat → Nat) {m p : Nat} : ∀ j, p + j ≤ m → (∀ i, i < j → 0 < awt a p i) → 0 ≤ awt a p j ∧ skip a m p 1 = skip a m (p + j) (awt a p j).toNat := by
  intro j
  induction j with
  | zero => intro _ _; exact ⟨by simp [awt], rfl⟩
  | succ j ih =>
    intro h hl
    obtain ⟨h0, h1⟩ := ih (by omega) (fun i hi => hl i (by omega))
    have hj := hl j (by omega)
    refine ⟨by simp only [awt]; omega, ?_⟩
    rw [h1, show (awt a p j).toNat = ((awt a p j).toNat - 1) + 1 by omega, skip_step a _ (by omega)]
    congr 1
    simp only [awt]; omega

/-- How manyN nodes a walk from p meets: those of the term there, or all that are left. -/
def manyN (a : Nat → Nat) (m p : Nat) : Nat := match skip a m p 1 with | some e => e - p | none => m - p

theorem manyN_some {a : Nat → Nat} {m p e : Nat} (h : skip a m p 1 = some e) : manyN a m p = e - p := by simp [manyN, h]
theorem manyN_none {a : Nat → Nat} {m p : Nat} (h : skip a m p 1 = none) : manyN a m p = m - p := by simp [manyN, h]

/-- A walk that has not come to an end before node j ends there. -/
theorem manyN_at {a : Nat → Nat} {m p j : Nat} (hj : p + j ≤ m) (h : ∀ i, i < j → 0 < awt a p i) (h0 : awt a p j = 0) : skip a m p 1 = some (p + j) ∧ manyN a m p = j := by
  have h1 := (awt_skip a j hj h).2
  rw [h0] at h1
  have h2 : skip a m p 1 = some (p + j) := h1.trans (skip_zero _ _ _)
  exact ⟨h2, by rw [manyN_some h2]; omega⟩

theorem manyN_over {a : Nat → Nat} {m p j : Nat} (hj : p + j = m) (h : ∀ i, i < j → 0 < awt a p i) (h0 : 0 < awt a p j) : skip a m p 1 = none ∧ manyN a m p = j := by
  have h1 := (awt_skip a (m := m) j (by omega) h).2
  rw [show (awt a p j).toNat = ((awt a p j).toNat - 1) + 1 by omega, skip_end a (m := m) (p := p + j) _ (by omega)] at h1
  exact ⟨h1, by rw [manyN_none h1]; omega⟩

/-- While the walk goes on, something is awaited. -/
theorem awt_pos {a : Nat → Nat} {m p : Nat} (hp : p ≤ m) : ∀ j, j < manyN a m p ∨ (j = manyN a m p ∧ skip a m p 1 = none) → 0 < awt a p j := by
  intro j
  induction j using Nat.strongRecOn with
  | _ j ih =>
    intro hj
    have hm : p + manyN a m p ≤ m := by
      unfold manyN
      cases hs : skip a m p 1 with
      | none => simp; omega
      | some e => have := (skip_le hs).2 (by omega); simp; omega
    have hall : ∀ i, i < j → 0 < awt a p i := fun i hi => ih i hi (by omega)
    have h0 := (awt_skip a j (m := m) (by omega) hall).1
    rcases Int.lt_or_eq_of_le h0 with h | h
    · exact h
    · have := manyN_at (m := m) (by omega) hall h.symm
      rcases hj with hj | ⟨_, hn⟩
      · omega
      · rw [this.1] at hn; cases hn

theorem manyN_le {a : Nat → Nat} {m p : Nat} (hp : p ≤ m) : p + manyN a m p ≤ m := by
  unfold manyN
  cases hs : skip a m p 1 with
  | none => simp; omega
  | some e => have := (skip_le hs).2 (by omega); simp; omega

/-- At the end of the walk nothing is awaited just where it met a term. -/
theorem awt_end {a : Nat → Nat} {m p e : Nat} (hp : p ≤ m) (h : skip a m p 1 = some e) : awt a p (manyN a m p) = 0 := by
  have h1 := (awt_skip a (m := m) (p := p) (manyN a m p) (manyN_le hp) (fun i hi => awt_pos hp i (Or.inl hi)))
  rw [h] at h1
  have h2 := manyN_some h
  have h3 := (skip_le h).2 (by omega)
  rcases Int.lt_or_eq_of_le h1.1 with h4 | h4
  · have h5 := (skip_le h1.2.symm).2 (by omega); omega
  · exact h4.symm

/-- In a right term a term begins at every place. -/
theorem skip_inner {a : Nat → Nat} {m : Nat} (h : skip a m 0 1 = some m) {p : Nat} (hp : p < m) : ∃ e, skip a m p 1 = some e ∧ p < e ∧ e ≤ m := by
  have hm := manyN_some h
  have hl : ∀ i, i ≤ p → 0 < awt a 0 i := fun i hi => awt_pos (m := m) (Nat.zero_le _) i (Or.inl (by omega))
  have h1 := (awt_skip a (m := m) (p := 0) p (by omega) (fun i hi => hl i (by omega))).2
  have hp0 := hl p (Nat.le_refl _)
  rw [h, Nat.zero_add, show (awt a 0 p).toNat = 1 + ((awt a 0 p).toNat - 1) by omega, skip_split] at h1
  cases hs : skip a m p 1 with
  | none => rw [hs] at h1; cases h1
  | some e => exact ⟨e, rfl, (skip_le hs).2 (by omega)⟩

/-- The arguments of a term: the i-th begins where i terms are over. -/
theorem skip_arg {a : Nat → Nat} {m p e k : Nat} (h : skip a m p k = some e) {i : Nat} (hi : i < k) : ∃ q r, skip a m p i = some q ∧ skip a m q 1 = some r ∧ skip a m p (i + 1) = some r := by
  have h1 : skip a m p (i + (1 + (k - i - 1))) = some e := by rw [show i + (1 + (k - i - 1)) = k by omega]; exact h
  rw [skip_split] at h1
  cases hq : skip a m p i with
  | none => rw [hq] at h1; cases h1
  | some q =>
    rw [hq] at h1
    simp only [Option.bind] at h1
    rw [skip_split] at h1
    cases hr : skip a m q 1 with
    | none => rw [hr] at h1; cases h1
    | some r => exact ⟨q, r, rfl, hr, by rw [skip_split, hq]; exact hr⟩

theorem skip_one (a : Nat → Nat) {m p : Nat} (h : p < m) : skip a m p 1 = skip a m (p + 1) (a p) := by
  have := skip_step a 0 h
  simpa using this

/-- The greatest depth of k terms that begin at p. -/
def depN (a : Nat → Nat) (m p k : Nat) : Nat :=
  if _h : p < m then
    match k with
    | 0 => 0
    | k + 1 => max (1 + depN a m (p + 1) (a p)) (depN a m (max (p + 1) ((skip a m p 1).getD m)) k)
  else 0
termination_by m - p
decreasing_by all_goals omega

theorem depN_zero (a : Nat → Nat) (m p : Nat) : depN a m p 0 = 0 := by
  rw [depN]; split <;> rfl

theorem depN_succ {a : Nat → Nat} {m p e : Nat} (k : Nat) (h : skip a m p 1 = some e) : depN a m p (k + 1) = max (1 + depN a m (p + 1) (a p)) (depN a m e k) := by
  have hp : p < m := by
    by_cases hp : p < m
    · exact hp
    · have := skip_end a 0 (m := m) (p := p) (by omega); rw [this] at h; cases h
  have he := (skip_le h).2 (by omega)
  rw [depN, dif_pos hp, h]
  simp only [Option.getD]
  rw [show max (p + 1) e = e by omega]

theorem depN_le (a : Nat → Nat) (m : Nat) : ∀ (d p k : Nat), m - p ≤ d → depN a m p k ≤ m - p := by
  intro d
  induction d with
  | zero => intro p k h; rw [depN.eq_def, dif_neg (by omega)]; omega
  | succ d ih =>
    intro p k h
    rw [depN.eq_def]
    split
    · cases k with
      | zero => exact Nat.zero_le _
      | succ k =>
        simp only
        have h1 := ih (p + 1) (a p) (by omega)
        have h2 := ih (max (p + 1) ((skip a m p 1).getD m)) k (by omega)
        omega
    · omega

end Go.Proofs.Ytbdgnpjbmlcchaa
