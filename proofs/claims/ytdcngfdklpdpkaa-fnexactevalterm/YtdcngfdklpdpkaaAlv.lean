/- Values of terms: plain facts. -/
import Derived.Test.YtdcngfdklpdpkaaAlgI
namespace Go.Proofs.Ytdcngfdklpdpkaa
open Go.RowKit

/-- A right algebra. -/
structure AlgOk (n : Nat) (A : Nat → Int) (z : Int) (D : LsL) : Prop where
  sig : Sound n A
  z1 : 1 ≤ z ∧ z ≤ 3
  tab : ∀ i, i < n → (D.m i : Int) = z ^ (A i).toNat ∧ ∀ j, j < D.m i → 0 ≤ D.L i j ∧ D.L i j < z

theorem afT_zero {z : Int} {A : Nat → Int} {D : LsL} : ∀ {n : Nat}, afT z A D n = 0 → ∀ i, i < n → tabF z (A i).toNat (D.m i) (D.L i) = 0
  | 0, _, i, hi => absurd hi (Nat.not_lt_zero _)
  | n + 1, h, i, hi => by
    simp only [afT] at h
    by_cases h0 : afT z A D n = 0
    · rw [if_neg (by simp [h0])] at h
      by_cases e : i = n
      · rw [e]; exact h
      · exact afT_zero h0 i (by omega)
    · rw [if_pos h0] at h; exact absurd h h0

theorem alg_right {n m : Nat} {N : Nat → ByteArray} {A : Nat → Int} {z : Int} {D : LsL} (h : algF n N A z m D = 0) : m = n ∧ AlgOk n A z D := by
  unfold algF at h
  by_cases hf : faultF n N A ≠ 0
  · rw [if_pos hf] at h; exact absurd h hf
  · rw [if_neg hf] at h
    by_cases hz : 1 ≤ z ∧ z ≤ 3
    · rw [if_neg (by simp [hz])] at h
      by_cases hm : m = n
      · rw [if_neg (by simp [hm])] at h
        refine ⟨hm, fault_sound (by simpa using hf), hz, fun i hi => ?_⟩
        have ht := afT_zero h i hi
        by_cases h1 : (D.m i : Int) = z ^ (A i).toNat
        · refine ⟨h1, fun j hj => ?_⟩
          by_cases ho : outT z (D.m i) (D.L i)
          · rw [tabF_out h1 ho] at ht; cases ht
          · by_cases hb : 0 ≤ D.L i j ∧ D.L i j < z
            · exact hb
            · exact absurd ⟨j, hj, hb⟩ ho
        · rw [tabF_many h1] at ht; cases ht
      · rw [if_pos hm] at h; cases h
    · rw [if_pos hz] at h; cases h

/-- Digits, as a number. -/
def foldV (z : Int) (l : List Int) : Int := l.foldl (fun a v => a * z + v) 0
theorem foldV_snoc (z : Int) (l : List Int) (x : Int) : foldV z (l ++ [x]) = foldV z l * z + x := by simp [foldV]
theorem foldA_bd {z : Int} (hz : 1 ≤ z) : ∀ (l : List Int) (a : Int) (k : Nat), 0 ≤ a → a < z ^ k → (∀ x, x ∈ l → 0 ≤ x ∧ x < z) → 0 ≤ l.foldl (fun a v => a * z + v) a ∧ l.foldl (fun a v => a * z + v) a < z ^ (k + l.length)
  | [], a, k, h0, h1, _ => ⟨h0, h1⟩
  | x :: l, a, k, h0, h1, h => by
    have hx := h x (List.mem_cons_self ..)
    have m0 := Int.mul_nonneg h0 (show (0 : Int) ≤ z by omega)
    have m1 : a * z ≤ (z ^ k - 1) * z := Int.mul_le_mul_of_nonneg_right (by omega) (by omega)
    have e : z ^ (k + 1) = z ^ k * z := Int.pow_succ ..
    rw [Int.sub_mul, Int.one_mul, ← e] at m1
    have ih := foldA_bd hz l (a * z + x) (k + 1) (by omega) (by omega) (fun y hy => h y (List.mem_cons_of_mem _ hy))
    rw [show k + (x :: l).length = k + 1 + l.length by simp only [List.length_cons]; omega]
    exact ih
theorem foldV_bd {z : Int} (hz : 1 ≤ z) (l : List Int) (h : ∀ x, x ∈ l → 0 ≤ x ∧ x < z) : 0 ≤ foldV z l ∧ foldV z l < z ^ l.length := by
  have := foldA_bd hz l 0 0 (by omega) (by simp) h
  rw [Nat.zero_add] at this
  exact this

section
variable (A T : Nat → Int) (z : Int) (D : LsL) (V : Nat → Int) (m : Nat)
/-- The values that are there when the last d nodes are done, the newest first. -/
def evN : Nat → List Int
  | 0 => []
  | d + 1 => if T (m - (d + 1)) < 0 then V (-1 - T (m - (d + 1))).toNat :: evN d else D.L (T (m - (d + 1))).toNat (foldV z ((evN d).take (aOf A T (m - (d + 1))))).toNat :: (evN d).drop (aOf A T (m - (d + 1)))
/-- .. when all nodes from p on are done. -/
def evA (p : Nat) : List Int := evN A T z D V m (m - p)
/-- The value of the term at p. -/
def evV (p : Nat) : Int := (evA A T z D V m p).headD 0
end

section
variable {A T : Nat → Int} {z : Int} {D : LsL} {V : Nat → Int} {m : Nat}
theorem evA_end {p : Nat} (h : m ≤ p) : evA A T z D V m p = [] := by unfold evA; rw [Nat.sub_eq_zero_of_le h]; rfl
theorem evA_var {p : Nat} (hp : p < m) (h : T p < 0) : evA A T z D V m p = V (-1 - T p).toNat :: evA A T z D V m (p + 1) := by
  unfold evA
  rw [show m - p = (m - (p + 1)) + 1 by omega]
  simp only [evN]
  rw [show m - (m - (p + 1) + 1) = p by omega, if_pos h]
theorem evA_sym {p : Nat} (hp : p < m) (h : ¬ T p < 0) : evA A T z D V m p = D.L (T p).toNat (foldV z ((evA A T z D V m (p + 1)).take (aOf A T p))).toNat :: (evA A T z D V m (p + 1)).drop (aOf A T p) := by
  unfold evA
  rw [show m - p = (m - (p + 1)) + 1 by omega]
  simp only [evN]
  rw [show m - (m - (p + 1) + 1) = p by omega, if_neg h]

theorem evA_args {q0 : Nat} (H : ∀ p e, q0 ≤ p → skip (aOf A T) m p 1 = some e → ∃ h, evA A T z D V m p = h :: evA A T z D V m e) : ∀ (k q e : Nat), q0 ≤ q → skip (aOf A T) m q k = some e → ∃ hs, hs.length = k ∧ evA A T z D V m q = hs ++ evA A T z D V m e
  | 0, q, e, _, h => by
    rw [skip_zero] at h
    obtain rfl := Option.some.inj h
    exact ⟨[], rfl, rfl⟩
  | k + 1, q, e, hq, h => by
    rw [Nat.add_comm, skip_split] at h
    cases h1 : skip (aOf A T) m q 1 with
    | none => rw [h1] at h; cases h
    | some r =>
      rw [h1] at h
      obtain ⟨x, hx⟩ := H q r hq h1
      have := (skip_le h1).1
      obtain ⟨hs, e1, e2⟩ := evA_args H k r e (by omega) h
      exact ⟨x :: hs, by simp [e1], by rw [hx, e2]; rfl⟩

theorem evA_tail : ∀ (d p e : Nat), m - p ≤ d → skip (aOf A T) m p 1 = some e → ∃ h, evA A T z D V m p = h :: evA A T z D V m e := by
  intro d
  induction d with
  | zero =>
    intro p e hd h
    rw [skip_end _ _ (by omega)] at h; cases h
  | succ d ih =>
    intro p e hd h
    have hp : p < m := by
      by_cases hp : p < m
      · exact hp
      · rw [skip_end _ _ (by omega)] at h; cases h
    rw [skip_one _ hp] at h
    by_cases hv : T p < 0
    · have ha : aOf A T p = 0 := by unfold aOf; simp; omega
      rw [ha, skip_zero] at h
      obtain rfl := Option.some.inj h
      exact ⟨_, evA_var hp hv⟩
    · obtain ⟨hs, e1, e2⟩ := evA_args (q0 := p + 1) (fun p' e' h1 h2 => ih p' e' (by omega) h2) (aOf A T p) (p + 1) e (Nat.le_refl _) h
      rw [evA_sym hp hv, e2, ← e1, List.drop_left]
      exact ⟨_, rfl⟩

/-- What is there is what terms have told. -/
theorem evA_some {p e : Nat} (h : skip (aOf A T) m p 1 = some e) : evA A T z D V m p = evV A T z D V m p :: evA A T z D V m e := by
  obtain ⟨x, hx⟩ := evA_tail _ p e (Nat.le_refl _) h
  rw [hx]
  unfold evV
  rw [hx]; rfl

/-- The first i arguments' values. -/
theorem evA_take {p : Nat} : ∀ i q, skip (aOf A T) m (p + 1) i = some q → ∃ hs, hs.length = i ∧ evA A T z D V m (p + 1) = hs ++ evA A T z D V m q ∧ (evA A T z D V m (p + 1)).take i = hs := fun i q hq => by
  obtain ⟨hs, e1, e2⟩ := evA_args (q0 := p + 1) (fun p' e' _ h2 => evA_tail _ p' e' (Nat.le_refl _) h2) i (p + 1) q (Nat.le_refl _) hq
  exact ⟨hs, e1, e2, by rw [e2, ← e1, List.take_left]⟩

theorem evN_len : ∀ d, (evN A T z D V m d).length ≤ d
  | 0 => by simp [evN]
  | d + 1 => by
    have ih := evN_len d
    simp only [evN]
    split
    · simp only [List.length_cons]; omega
    · simp only [List.length_cons, List.length_drop]; omega
theorem evA_len (p : Nat) : (evA A T z D V m p).length ≤ m - p := evN_len _

/-- All of them are values. -/
theorem evN_rng {n : Nat} (ho : AlgOk n A z D) (hg : Nods n A m T) (hw : skip (aOf A T) m 0 1 = some m) (hl : ∀ i, i < m → -6 ≤ T i) (hv : ∀ j, j < 6 → 0 ≤ V j ∧ V j < z) : ∀ d, d ≤ m → ∀ x, x ∈ evN A T z D V m d → 0 ≤ x ∧ x < z
  | 0, _, x, hx => by simp [evN] at hx
  | d + 1, hd, x, hx => by
    have ih := evN_rng ho hg hw hl hv d (by omega)
    simp only [evN] at hx
    obtain ⟨p, hp⟩ : ∃ p, p = m - (d + 1) := ⟨_, rfl⟩
    rw [← hp] at hx
    have hpm : p < m := by omega
    split at hx
    · next h0 =>
      rcases List.mem_cons.1 hx with rfl | h
      · have := hl p hpm
        exact hv _ (by omega)
      · exact ih x h
    · next h0 =>
      rcases List.mem_cons.1 hx with rfl | h
      · rcases nodeB_cases (hg.node p hpm) with ⟨j, e, hj⟩ | ⟨h1, h2⟩
        · rw [e]
          simp only [Int.toNat_natCast]
          refine (ho.tab j hj).2 _ ?_
          have hf := foldV_bd ho.z1.1 ((evN A T z D V m d).take (aOf A T p)) (fun y hy => ih y (List.mem_of_mem_take hy))
          have hlen : ((evN A T z D V m d).take (aOf A T p)).length = (A j).toNat := by
            obtain ⟨e1, he1, _, _⟩ := skip_inner hw hpm
            rw [skip_one _ hpm] at he1
            obtain ⟨hs, l1, l2, l3⟩ := evA_take (z := z) (D := D) (V := V) (aOf A T p) e1 he1
            have e2 : evA A T z D V m (p + 1) = evN A T z D V m d := by unfold evA; rw [show m - (p + 1) = d by omega]
            rw [e2] at l3
            rw [l3, l1]
            unfold aOf; rw [e, if_neg (by omega)]; simp
          rw [hlen] at hf
          have := (ho.tab j hj).1
          omega
        · omega
      · exact ih x (List.mem_of_mem_drop h)
end

end Go.Proofs.Ytdcngfdklpdpkaa
