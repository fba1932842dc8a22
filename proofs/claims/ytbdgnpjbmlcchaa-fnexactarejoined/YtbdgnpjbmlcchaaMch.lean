/- Plain facts: how a pattern is held against the term at a place, node by node. -/
import Derived.Test.YtbdgnpjbmlcchaaCanon
import Derived.Test.YtbdgnpjbmlcchaaReplMath
import Derived.Test.YtbdgnpjbmlcchaaSub
namespace Go.Proofs.Ytbdgnpjbmlcchaa
open Go.RowKit

/-- The nodes from p up to e. -/
def ptL (T : Nat → Int) (p e : Nat) : List Int := (List.range (e - p)).map (fun i => T (p + i))

theorem ptL_len (T : Nat → Int) (p e : Nat) : (ptL T p e).length = e - p := by simp [ptL]
theorem ptL_at {T : Nat → Int} {p e i : Nat} (h : i < e - p) : (ptL T p e).getD i 0 = T (p + i) := by
  simp [ptL, List.getD_eq_getElem?_getD, h]
theorem ptL_ne {T : Nat → Int} {p e : Nat} (h : p < e) : ptL T p e ≠ [] := by
  intro x
  have := ptL_len T p e
  rw [x] at this
  simp at this
  omega

theorem ptL_eq {T T' : Nat → Int} {p e p' e' : Nat} : ptL T p e = ptL T' p' e' ↔ e - p = e' - p' ∧ ∀ i, i < e - p → T (p + i) = T' (p' + i) := by
  constructor
  · intro h
    have h1 : e - p = e' - p' := by have := congrArg List.length h; rwa [ptL_len, ptL_len] at this
    refine ⟨h1, fun i hi => ?_⟩
    have : (ptL T p e).getD i 0 = (ptL T' p' e').getD i 0 := by rw [h]
    rwa [ptL_at hi, ptL_at (show i < e' - p' by omega)] at this
  · rintro ⟨h1, h2⟩
    unfold ptL
    rw [← h1]
    exact List.map_congr_left (fun i hi => h2 i (by simpa using hi))

theorem ptL_upto (T : Nat → Int) (p e : Nat) : ptL T p e = upto (fun i => T (p + i)) (e - p) := by
  apply List.ext_getElem?
  intro i
  simp [ptL, upto]

/-- A node x of the pattern, where the node s.1 of the term stands, and the variables stand for s.2. -/
def mtG (a : Nat → Nat) (m : Nat) (T : Nat → Int) (x : Int) (s : Nat × (Nat → List Int)) : Option (Nat × (Nat → List Int)) :=
  if 0 ≤ x then (if T s.1 = x then some (s.1 + 1, s.2) else none)
  else if s.2 (-1 - x).toNat = [] then some ((skip a m s.1 1).getD m, updM s.2 (-1 - x).toNat (ptL T s.1 ((skip a m s.1 1).getD m)))
  else if s.2 (-1 - x).toNat = ptL T s.1 ((skip a m s.1 1).getD m) then some ((skip a m s.1 1).getD m, s.2) else none

/-- The first k nodes of the pattern P, held against the term T from its node q on. -/
def mtS (a : Nat → Nat) (m : Nat) (T P : Nat → Int) (q : Nat) : Nat → Option (Nat × (Nat → List Int))
  | 0 => some (q, fun _ => [])
  | k + 1 => (mtS a m T P q k).bind (mtG a m T (P k))

section
variable {a : Nat → Nat} {m : Nat} {T P : Nat → Int} {q k p e : Nat} {M : Nat → List Int}

theorem mt_stay (h : mtS a m T P q k = none) : ∀ j, k ≤ j → mtS a m T P q j = none
  | 0, hj => by obtain rfl : k = 0 := by omega
                exact h
  | j + 1, hj => by
    by_cases e : k = j + 1
    · rw [← e]; exact h
    · simp only [mtS, mt_stay h j (by omega), Option.bind]

theorem mt_sym (h : mtS a m T P q k = some (p, M)) (hx : 0 ≤ P k) (ht : T p = P k) : mtS a m T P q (k + 1) = some (p + 1, M) := by
  simp [mtS, h, mtG, hx, ht]
theorem mt_off (h : mtS a m T P q k = some (p, M)) (hx : 0 ≤ P k) (ht : T p ≠ P k) : mtS a m T P q (k + 1) = none := by
  simp [mtS, h, mtG, hx, ht]
theorem mt_new {v : Nat} (h : mtS a m T P q k = some (p, M)) (hx : P k = -1 - (v : Int)) (hv : M v = []) (he : skip a m p 1 = some e) : mtS a m T P q (k + 1) = some (e, updM M v (ptL T p e)) := by
  have e1 : ¬ 0 ≤ P k := by omega
  have e2 : (-1 - P k).toNat = v := by omega
  simp [mtS, h, mtG, e1, e2, hv, he]
theorem mt_old {v : Nat} (h : mtS a m T P q k = some (p, M)) (hx : P k = -1 - (v : Int)) (hv : M v ≠ []) (he : skip a m p 1 = some e) (hs : M v = ptL T p e) : mtS a m T P q (k + 1) = some (e, M) := by
  have e1 : ¬ 0 ≤ P k := by omega
  have e2 : (-1 - P k).toNat = v := by omega
  rw [hs] at hv
  simp [mtS, h, mtG, e1, e2, hs, he, hv]
theorem mt_dif {v : Nat} (h : mtS a m T P q k = some (p, M)) (hx : P k = -1 - (v : Int)) (hv : M v ≠ []) (he : skip a m p 1 = some e) (hs : M v ≠ ptL T p e) : mtS a m T P q (k + 1) = none := by
  have e1 : ¬ 0 ≤ P k := by omega
  have e2 : (-1 - P k).toNat = v := by omega
  simp [mtS, h, mtG, e1, e2, hs, he, hv]
end

/-- What is so between two nodes of a pattern. -/
structure MtI (A T P : Nat → Int) (m q e0 k p : Nat) (M : Nat → List Int) : Prop where
  rest : skip (aOf A T) m p (awt (aOf A P) 0 k).toNat = some e0
  low : q ≤ p
  top : p ≤ e0
  parts : ∀ v, M v = [] ∨ ∃ p' e', q ≤ p' ∧ p' < e' ∧ e' ≤ p ∧ skip (aOf A T) m p' 1 = some e' ∧ M v = ptL T p' e'

section
variable {n : Nat} {A T P : Nat → Int} {m mP q e0 k p e : Nat} {M : Nat → List Int}

theorem pat_pos (hp : Trm n A mP P) (hk : k < mP) : 0 < awt (aOf A P) 0 k := by
  have hm := manyN_some hp.whole
  exact awt_pos (m := mP) (Nat.zero_le _) k (Or.inl (by omega))

theorem pat_end (hp : Trm n A mP P) : awt (aOf A P) 0 mP = 0 := by
  have hm := manyN_some hp.whole
  have := awt_end (Nat.zero_le _) hp.whole
  rwa [hm, Nat.sub_zero] at this

/-- A term begins where the next node of the pattern is asked. -/
theorem MtI.next (h : MtI A T P m q e0 k p M) (hp : Trm n A mP P) (hk : k < mP) : ∃ e, skip (aOf A T) m p 1 = some e ∧ p < e ∧ e ≤ e0 ∧ e ≤ m ∧ skip (aOf A T) m e ((awt (aOf A P) 0 k).toNat - 1) = some e0 := by
  have h0 := pat_pos hp hk
  have h1 := h.rest
  rw [show (awt (aOf A P) 0 k).toNat = 1 + ((awt (aOf A P) 0 k).toNat - 1) by omega, skip_split] at h1
  cases hs : skip (aOf A T) m p 1 with
  | none => rw [hs] at h1; cases h1
  | some e =>
    rw [hs] at h1
    have h2 : skip (aOf A T) m e ((awt (aOf A P) 0 k).toNat - 1) = some e0 := h1
    have h3 := (skip_le hs).2 (by omega)
    have h4 := (skip_le h2).1
    exact ⟨e, rfl, h3.1, h4, h3.2, h2⟩

theorem MtI.start (hq : skip (aOf A T) m q 1 = some e0) : MtI A T P m q e0 0 q (fun _ => []) :=
  ⟨by simpa [awt] using hq, Nat.le_refl _, (skip_le hq).1, fun v => Or.inl rfl⟩

theorem MtI.sym (h : MtI A T P m q e0 k p M) (hp : Trm n A mP P) (hk : k < mP) (ht : T p = P k) : MtI A T P m q e0 (k + 1) (p + 1) M := by
  obtain ⟨e, h1, h2, h3, h4, h5⟩ := h.next hp hk
  have h0 := pat_pos hp hk
  have ea : aOf A T p = aOf A P k := aOf_eq ht
  have h6 := h.rest
  rw [show (awt (aOf A P) 0 k).toNat = ((awt (aOf A P) 0 k).toNat - 1) + 1 by omega, skip_step _ _ (by omega), ea] at h6
  refine ⟨?_, by have := h.low; omega, by omega, fun v => (h.parts v).imp id ?_⟩
  · rw [← h6]; congr 1
    simp only [awt, Nat.zero_add]
    omega
  · rintro ⟨p', e', a1, a2, a3, a4, a5⟩
    exact ⟨p', e', a1, a2, by omega, a4, a5⟩

theorem MtI.var (h : MtI A T P m q e0 k p M) (hp : Trm n A mP P) (hk : k < mP) (hx : P k < 0) (he : skip (aOf A T) m p 1 = some e) : MtI A T P m q e0 (k + 1) e M := by
  obtain ⟨e', h1, h2, h3, h4, h5⟩ := h.next hp hk
  have h0 := pat_pos hp hk
  rw [he] at h1
  cases h1
  have ea : aOf A P k = 0 := aOf_var hx
  refine ⟨?_, by have := h.low; omega, by omega, fun v => (h.parts v).imp id ?_⟩
  · rw [← h5]; congr 1
    simp only [awt, Nat.zero_add, ea]
    omega
  · rintro ⟨p', e', a1, a2, a3, a4, a5⟩
    exact ⟨p', e', a1, a2, by omega, a4, a5⟩

theorem MtI.new (h : MtI A T P m q e0 k p M) (hp : Trm n A mP P) (hk : k < mP) (hx : P k < 0) (he : skip (aOf A T) m p 1 = some e) (v : Nat) : MtI A T P m q e0 (k + 1) e (updM M v (ptL T p e)) := by
  have h1 := h.var hp hk hx he
  obtain ⟨e', h2, h3, _⟩ := h.next hp hk
  rw [he] at h2
  cases h2
  refine ⟨h1.rest, h1.low, h1.top, fun x => ?_⟩
  by_cases ex : x = v
  · subst ex
    exact Or.inr ⟨p, e, h.low, h3, Nat.le_refl _, he, by simp [updM]⟩
  · have := h1.parts x
    simpa [updM, ex] using this

/-- A pattern that fits uses the term up. -/
theorem MtI.fin (h : MtI A T P m q e0 mP p M) (hp : Trm n A mP P) : p = e0 := by
  have h1 := h.rest
  rw [pat_end hp] at h1
  have h2 : skip (aOf A T) m p 0 = some e0 := h1
  rw [skip_zero] at h2
  exact Option.some.inj h2

theorem MtI.len (h : MtI A T P m q e0 k p M) (hm : m ≤ 24) (he : e0 ≤ m) (v : Nat) : (M v).length ≤ 24 := by
  rcases h.parts v with e | ⟨p', e', a1, a2, a3, a4, a5⟩
  · rw [e]; simp
  · have := h.top
    rw [a5, ptL_len]; omega

/-- What variables stand for, if the pattern fits. -/
def mtB (A T P : Nat → Int) (m mP q : Nat) : Option (Nat → List Int) := (mtS (aOf A T) m T P q mP).map (fun s => s.2)

theorem mtB_some {s : Nat × (Nat → List Int)} (h : mtS (aOf A T) m T P q mP = some s) : mtB A T P m mP q = some s.2 := by simp [mtB, h]
theorem mtB_none (h : mtS (aOf A T) m T P q mP = none) : mtB A T P m mP q = none := by simp [mtB, h]

theorem mt_inv (hp : Trm n A mP P) (hq : skip (aOf A T) m q 1 = some e0) : ∀ k p M, k ≤ mP → mtS (aOf A T) m T P q k = some (p, M) → MtI A T P m q e0 k p M
  | 0, p, M, _, h => by
    simp only [mtS, Option.some.injEq, Prod.mk.injEq] at h
    obtain ⟨rfl, rfl⟩ := h
    exact MtI.start hq
  | k + 1, p, M, hk, h => by
    cases hs : mtS (aOf A T) m T P q k with
    | none => simp [mtS, hs] at h
    | some s =>
      obtain ⟨p0, M0⟩ := s
      have I := mt_inv hp hq k p0 M0 (by omega) hs
      obtain ⟨e, h1, h2, h3, h4, h5⟩ := I.next hp (by omega)
      rcases nodeB_cases (hp.nods.node k (by omega)) with ⟨j, ej, hj⟩ | hv
      · by_cases ht : T p0 = P k
        · rw [mt_sym hs (by omega) ht] at h
          simp only [Option.some.injEq, Prod.mk.injEq] at h
          obtain ⟨rfl, rfl⟩ := h
          exact I.sym hp (by omega) ht
        · rw [mt_off hs (by omega) ht] at h; cases h
      · obtain ⟨v, ev⟩ : ∃ v : Nat, P k = -1 - (v : Int) := ⟨(-1 - P k).toNat, by omega⟩
        by_cases hM : M0 v = []
        · rw [mt_new hs ev hM h1] at h
          simp only [Option.some.injEq, Prod.mk.injEq] at h
          obtain ⟨rfl, rfl⟩ := h
          exact I.new hp (by omega) (by omega) h1 v
        · by_cases hsame : M0 v = ptL T p0 e
          · rw [mt_old hs ev hM h1 hsame] at h
            simp only [Option.some.injEq, Prod.mk.injEq] at h
            obtain ⟨rfl, rfl⟩ := h
            exact I.var hp (by omega) (by omega) h1
          · rw [mt_dif hs ev hM h1 hsame] at h; cases h
end

/-- The number of nodes of a part that is looked at alone. -/
theorem awt_shift (a : Nat → Nat) (p : Nat) : ∀ j, awt (fun i => a (p + i)) 0 j = awt a p j
  | 0 => rfl
  | j + 1 => by simp only [awt, awt_shift a p j, Nat.zero_add]

theorem many_part {a : Nat → Nat} {m p e r : Nat} (he : skip a m p 1 = some e) (hr : e ≤ p + r) : manyN (fun i => a (p + i)) r 0 = e - p := by
  have h1 := (skip_le he).2 (by omega)
  have h2 := manyN_some he
  refine (manyN_at (m := r) (p := 0) (j := e - p) (by omega) (fun i hi => ?_) ?_).2
  · rw [awt_shift]; exact awt_pos (m := m) (by omega) i (Or.inl (by omega))
  · rw [awt_shift, ← h2]; exact awt_end (by omega) he

theorem aOf_part (A T : Nat → Int) (p : Nat) : aOf A (fun i => T (p + i)) = fun i => aOf A T (p + i) := by
  funext i; rfl

end Go.Proofs.Ytbdgnpjbmlcchaa
