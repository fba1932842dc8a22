/- Plain facts: variables in the order in which they stand first, and nodes with their variables numbered anew. -/
import Derived.Test.YtkaoafdemckagaaRank
import Derived.Test.YtkaoafdemckagaaEqnF
namespace Go.Proofs.Ytkaoafdemckagaa
open Go.RowKit

/-- The variables among the first k nodes, each once, in the order in which they stand first. -/
def pv (L : Nat → Int) : Nat → List Int
  | 0 => []
  | k + 1 => if L k < 0 ∧ L k ∉ pv L k then pv L k ++ [L k] else pv L k

theorem pv_length (L : Nat → Int) : ∀ k, (pv L k).length ≤ k
  | 0 => Nat.le_refl _
  | k + 1 => by
    have := pv_length L k
    rw [pv]; split
    · simp; omega
    · omega

theorem pv_pos {L : Nat → Int} {k : Nat} (h : 0 ≤ L k) : pv L (k + 1) = pv L k := by rw [pv, if_neg (by omega)]
theorem pv_old {L : Nat → Int} {k : Nat} (h : L k ∈ pv L k) : pv L (k + 1) = pv L k := by rw [pv, if_neg (by simp [h])]
theorem pv_new {L : Nat → Int} {k : Nat} (h0 : L k < 0) (h : L k ∉ pv L k) : pv L (k + 1) = pv L k ++ [L k] := by rw [pv, if_pos ⟨h0, h⟩]

theorem pv_mem {L : Nat → Int} {k : Nat} (h0 : L k < 0) : L k ∈ pv L (k + 1) := by
  by_cases h : L k ∈ pv L k
  · rw [pv_old h]; exact h
  · rw [pv_new h0 h]; simp

theorem pv_more (L : Nat → Int) : ∀ (d k : Nat), ∃ r, pv L (k + d) = pv L k ++ r
  | 0, k => ⟨[], by simp⟩
  | d + 1, k => by
    obtain ⟨r, hr⟩ := pv_more L d k
    rw [← Nat.add_assoc, pv]
    split
    · exact ⟨r ++ [L (k + d)], by rw [hr, List.append_assoc]⟩
    · exact ⟨r, hr⟩

/-- Where a number stands first in a list. -/
def ixL : List Int → Int → Nat
  | [], _ => 0
  | y :: l, x => if y = x then 0 else ixL l x + 1

theorem ixL_lt {l : List Int} {x : Int} (h : x ∈ l) : ixL l x < l.length := by
  induction l with
  | nil => cases h
  | cons y l ih =>
    rw [ixL]; split
    · simp
    · rename_i hne
      have := ih (by simpa [Ne.symm hne, eq_comm] using h)
      simp; omega

theorem ixL_more {l r : List Int} {x : Int} (h : x ∈ l) : ixL (l ++ r) x = ixL l x := by
  induction l with
  | nil => cases h
  | cons y l ih =>
    rw [List.cons_append, ixL, ixL]; split
    · rfl
    · rename_i hne
      rw [ih (by simpa [Ne.symm hne, eq_comm] using h)]

theorem ixL_end {l : List Int} {x : Int} (h : x ∉ l) : ixL (l ++ [x]) x = l.length := by
  induction l with
  | nil => simp [ixL]
  | cons y l ih =>
    simp only [List.mem_cons, not_or] at h
    rw [List.cons_append, ixL, if_neg (fun e => h.1 e.symm), ih h.2]; simp

theorem ixL_at {l : List Int} {x : Int} (h : x ∈ l) : l.getD (ixL l x) 0 = x := by
  induction l with
  | nil => cases h
  | cons y l ih =>
    rw [ixL]; split
    · rename_i e; simpa using e
    · rename_i hne
      rw [List.getD_cons_succ]
      exact ih (by simpa [Ne.symm hne, eq_comm] using h)

theorem ixL_first {l : List Int} {x : Int} : ∀ {j : Nat}, j < ixL l x → l.getD j 0 ≠ x ∨ l.length ≤ j := by
  induction l with
  | nil => intro j hj; cases hj
  | cons y l ih =>
    intro j hj
    rw [ixL] at hj
    split at hj
    · cases hj
    · rename_i hne
      match j with
      | 0 => exact .inl (by simpa using hne)
      | j + 1 =>
        rcases ih (j := j) (by omega) with h | h
        · exact .inl (by rw [List.getD_cons_succ]; exact h)
        · exact .inr (by simp; omega)

/-- A node with its variable's place in that list as its number. -/
def rn (V : List Int) (x : Int) : Int := if x < 0 then -1 - (ixL V x : Int) else x

theorem rn_pos {V : List Int} {x : Int} (h : 0 ≤ x) : rn V x = x := by rw [rn, if_neg (by omega)]
theorem rn_var {V : List Int} {x : Int} (h : x < 0) : rn V x = -1 - (ixL V x : Int) := by rw [rn, if_pos h]

theorem idx_more {L : Nat → Int} {k m : Nat} (hk : k < m) (h0 : L k < 0) : ixL (pv L m) (L k) = ixL (pv L (k + 1)) (L k) := by
  obtain ⟨r, hr⟩ := pv_more L (m - (k + 1)) (k + 1)
  rw [show k + 1 + (m - (k + 1)) = m by omega] at hr
  rw [hr, ixL_more (pv_mem h0)]

theorem idx_new {L : Nat → Int} {k : Nat} (h0 : L k < 0) (h : L k ∉ pv L k) : ixL (pv L (k + 1)) (L k) = (pv L k).length := by
  rw [pv_new h0 h]; exact ixL_end h

theorem rk_list {V : List Int} {x : Int} (h : x ∈ V) : rkF V.length (fun i => V.getD i 0) x = (ixL V x : Int) := by
  refine rkF_at (ixL_lt h) (ixL_at h) ?_
  intro j hj
  rcases ixL_first hj with e | e
  · exact e
  · have := ixL_lt h; omega

theorem rk_list_none {V : List Int} {x : Int} (h : x ∉ V) : rkF V.length (fun i => V.getD i 0) x = -1 := by
  refine rkF_none fun j hj e => h ?_
  rw [List.getD_eq_getElem?_getD, List.getElem?_eq_getElem hj] at e
  simp at e
  rw [← e]; exact List.getElem_mem _

end Go.Proofs.Ytkaoafdemckagaa
