/- Plain facts on the order of bytes: both ways round, three lists, what begins with what; no program in it. -/
import Derived.Test.YtcjpmpbepmjgkaaLists
namespace Go.Proofs.Ytcjpmpbepmjgkaa

theorem ordL_anti : ∀ (a b : List Int), ordL b a = - ordL a b
  | [], [] => by simp [ordL]
  | [], _ :: _ => by simp [ordL]
  | _ :: _, [] => by simp [ordL]
  | a :: p, b :: q => by
    have ih := ordL_anti p q
    simp only [ordL]
    by_cases h1 : a < b
    · rw [if_pos h1, if_neg (by omega), if_pos h1]; rfl
    · by_cases h2 : b < a
      · rw [if_pos h2, if_neg h1, if_pos h2]
      · rw [if_neg h2, if_neg h1, if_neg h1, if_neg h2]; exact ih

theorem ordL_self : ∀ (a : List Int), ordL a a = 0
  | [] => by simp [ordL]
  | a :: p => by simp only [ordL]; rw [if_neg (by omega), if_neg (by omega)]; exact ordL_self p

theorem ordL_zero : ∀ (a b : List Int), ordL a b = 0 → a = b
  | [], [], _ => rfl
  | [], _ :: _, h => by simp [ordL] at h
  | _ :: _, [], h => by simp [ordL] at h
  | a :: p, b :: q, h => by
    simp only [ordL] at h
    by_cases h1 : a < b
    · rw [if_pos h1] at h; omega
    · by_cases h2 : b < a
      · rw [if_neg h1, if_pos h2] at h; omega
      · rw [if_neg h1, if_neg h2] at h
        rw [ordL_zero p q h, show a = b by omega]

theorem ordL_trans : ∀ (a b c : List Int), ordL a b ≤ 0 → ordL b c ≤ 0 → ordL a c ≤ 0
  | [], _, [], _, _ => by simp [ordL]
  | [], _, _ :: _, _, _ => by simp [ordL]
  | _ :: _, [], _, h, _ => by simp [ordL] at h
  | _ :: _, _ :: _, [], _, h => by simp [ordL] at h
  | a :: p, b :: q, c :: r, h1, h2 => by
    simp only [ordL] at h1 h2 ⊢
    have ih := ordL_trans p q r
    by_cases x1 : a < b
    · by_cases x2 : b < c
      · rw [if_pos (by omega)]; omega
      · rw [if_neg x2] at h2
        by_cases x3 : c < b
        · rw [if_pos x3] at h2; omega
        · rw [if_pos (by omega)]; omega
    · rw [if_neg x1] at h1
      by_cases x4 : b < a
      · rw [if_pos x4] at h1; omega
      · rw [if_neg x4] at h1
        by_cases x2 : b < c
        · rw [if_pos (by omega)]; omega
        · rw [if_neg x2] at h2
          by_cases x3 : c < b
          · rw [if_pos x3] at h2; omega
          · rw [if_neg x3] at h2
            rw [if_neg (by omega), if_neg (by omega)]
            exact ih h1 h2

theorem ordL_sum (a b c : List Int) (h : ordL a c = 0) : ordL a b + ordL b c = 0 := by
  have e := ordL_zero a c h
  subst e
  have := ordL_anti a b
  omega

theorem ordL_begins : ∀ (e t : List Int), ordL e (e ++ t) ≤ 0
  | [], [] => by simp [ordL]
  | [], _ :: _ => by simp [ordL]
  | a :: p, t => by
    simp only [List.cons_append, ordL]
    rw [if_neg (by omega), if_neg (by omega)]
    exact ordL_begins p t

theorem begB_ord (c e : List Int) (h : begB c e = true) : ordL e c ≤ 0 := by
  simp only [begB, Bool.and_eq_true, decide_eq_true_eq] at h
  have := ordL_begins e (c.drop e.length)
  rw [show e ++ c.drop e.length = c by conv => rhs; rw [← List.take_append_drop e.length c, h.2]] at this
  exact this

theorem begB_nil (a : List Int) : begB a [] = true := by simp [begB]
theorem begB_append (a b : List Int) : begB (a ++ b) a = true := by simp [begB]
theorem eq_iff_ordL (a b : List Int) : (ordL a b == 0) = decide (a = b) := by
  rw [Bool.eq_iff_iff]
  simp only [beq_iff_eq, decide_eq_true_eq]
  exact ⟨ordL_zero a b, fun h => by rw [h]; exact ordL_self b⟩

end Go.Proofs.Ytcjpmpbepmjgkaa
