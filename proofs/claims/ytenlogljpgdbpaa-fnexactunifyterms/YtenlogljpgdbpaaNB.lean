/- Several texts as one: Uni, Unj, SubM, Unk, Unl, Unm, Unn, Unp, Unq, ApO, Unr, Uns, Lun. -/
import Derived.Test.YtenlogljpgdbpaaNA
import Derived.Test.YtenlogljpgdbpaaReplMath
import Derived.Test.YtenlogljpgdbpaaMch
import Derived.Deep.LoopGhost
/- Plain facts for unification: what stands for variables stands in no term that was put in; a machine that unifies, and what it measures. -/
namespace Go.Proofs.Ytenlogljpgdbpaa
open Go.RowKit

/-- A list with what stands for its variables. -/
def apL (M : Nat → List Int) (l : List Int) : List Int := l.flatMap (nodL M)

theorem putL_ap (M : Nat → List Int) (T : Nat → Int) : ∀ k, putL M T k = apL M (upto T k)
  | 0 => by simp [putL, apL, upto]
  | k + 1 => by rw [upto_succ, apL, List.flatMap_append, show putL M T (k + 1) = putL M T k ++ nodL M (T k) from rfl, putL_ap M T k]; simp [apL]

theorem putL_list (M : Nat → List Int) (l : List Int) : putL M (fnL l) l.length = apL M l := by
  rw [putL_ap]; congr 1; exact upto_self l

/-- No variable of these nodes is bound. -/
def FreeL (M : Nat → List Int) (l : List Int) : Prop := ∀ v : Nat, (-1 - (v : Int)) ∈ l → M v = []
/-- No variable that is bound stands in what is bound. -/
def IdemM (M : Nat → List Int) : Prop := ∀ x, FreeL M (M x)

theorem node_cases (x : Int) : 0 ≤ x ∨ ∃ v : Nat, x = -1 - (v : Int) := by
  by_cases h : 0 ≤ x
  · exact Or.inl h
  · exact Or.inr ⟨(-1 - x).toNat, by omega⟩

theorem nodL_free {M : Nat → List Int} {x : Int} (h : ∀ v : Nat, x = -1 - (v : Int) → M v = []) : nodL M x = [x] := by
  rcases node_cases x with h0 | ⟨v, rfl⟩
  · exact nodL_sym h0
  · rw [nodL_var, if_neg (by simp [h v rfl])]

theorem apL_free {M : Nat → List Int} : ∀ {l : List Int}, FreeL M l → apL M l = l
  | [], _ => rfl
  | x :: l, h => by
    have h1 : nodL M x = [x] := nodL_free (fun v e => h v (by rw [← e]; exact List.mem_cons_self ..))
    have h2 := apL_free (M := M) (l := l) (fun v hv => h v (List.mem_cons_of_mem _ hv))
    unfold apL at h2 ⊢
    rw [List.flatMap_cons, h1, h2]; rfl

/-- What was put in is free of all that is bound. -/
theorem apL_isFree {M : Nat → List Int} (hi : IdemM M) (l : List Int) : FreeL M (apL M l) := fun v hv => by
  obtain ⟨x, _, hx⟩ := List.mem_flatMap.1 hv
  rcases node_cases x with h0 | ⟨u, rfl⟩
  · rw [nodL_sym h0] at hx
    simp at hx; omega
  · rw [nodL_var] at hx
    by_cases hu : M u ≠ []
    · rw [if_pos hu] at hx; exact hi u v hx
    · rw [if_neg hu] at hx
      simp at hx
      obtain rfl : v = u := by omega
      simpa using hu

theorem apL_nil {M : Nat → List Int} {l : List Int} : apL M l = [] → l = [] := fun h => by
  cases l with
  | nil => rfl
  | cons x l =>
    exfalso
    unfold apL at h
    rw [List.flatMap_cons] at h
    have h1 : nodL M x = [] := (List.append_eq_nil_iff.1 h).1
    unfold nodL at h1
    split at h1
    · rename_i h2; exact h2.2 h1
    · cases h1

/-- What one variable more makes of what is bound. -/
def bind1 (M : Nat → List Int) (v : Nat) (t : List Int) : Nat → List Int := updM (ovM (fun x => if x = v then t else []) M) v t

theorem bind1_v (M : Nat → List Int) (v : Nat) (t : List Int) : bind1 M v t v = t := by simp [bind1, updM]
theorem bind1_none {M : Nat → List Int} {v x : Nat} {t : List Int} (hx : x ≠ v) (h : M x = []) : bind1 M v t x = [] := by simp [bind1, updM, hx, ovM, h]

theorem bind1_some {M : Nat → List Int} {v x : Nat} {t : List Int} (hx : x ≠ v) : bind1 M v t x = apL (fun x => if x = v then t else []) (M x) := by
  simp only [bind1, updM, hx, if_false, ovM]
  by_cases h : M x = []
  · rw [if_pos h, h]; rfl
  · rw [if_neg h, putL_list]

theorem bind1_idem {M : Nat → List Int} {v : Nat} {t : List Int} (hi : IdemM M) (hv : M v = []) (ht : FreeL M t) (hn : (-1 - (v : Int)) ∉ t) : IdemM (bind1 M v t) := fun x y hy => by
  have key : ∀ y : Nat, M y = [] → y ≠ v → bind1 M v t y = [] := fun y h1 h2 => bind1_none h2 h1
  have inT : ∀ y : Nat, (-1 - (y : Int)) ∈ t → bind1 M v t y = [] := fun y hy => key y (ht y hy) (fun e => hn (by rw [← e]; exact hy))
  by_cases hx : x = v
  · subst hx
    rw [bind1_v] at hy
    exact inT y hy
  · rw [bind1_some hx] at hy
    obtain ⟨z, hz, hz2⟩ := List.mem_flatMap.1 hy
    rcases node_cases z with h0 | ⟨u, rfl⟩
    · rw [nodL_sym h0] at hz2
      simp at hz2; omega
    · rw [nodL_var] at hz2
      by_cases hu : u = v
      · subst hu
        simp only [if_true] at hz2
        by_cases ht0 : t ≠ []
        · rw [if_pos ht0] at hz2; exact inT y hz2
        · rw [if_neg ht0] at hz2
          simp at hz2
          obtain rfl : y = u := by omega
          rw [bind1_v]; simpa using ht0
      · simp only [hu, if_false] at hz2
        simp at hz2
        obtain rfl : y = u := by omega
        exact key y (hi x y hz) hu

end Go.Proofs.Ytenlogljpgdbpaa

/- Plain facts for unification: the arguments of a term, as lists. -/
namespace Go.Proofs.Ytenlogljpgdbpaa
open Go.RowKit

/-- The k-th argument of a term. -/
def argL (A : Nat → Int) (x : List Int) (k : Nat) : List Int :=
  upto (fun i => fnL x (agP (aOf A (fnL x)) x.length k + i)) (agP (aOf A (fnL x)) x.length (k + 1) - agP (aOf A (fnL x)) x.length k)

theorem argL_len (A : Nat → Int) (x : List Int) (k : Nat) : (argL A x k).length = agP (aOf A (fnL x)) x.length (k + 1) - agP (aOf A (fnL x)) x.length k := upto_length _ _

theorem fnL_upto (f : Nat → Int) (m : Nat) (i : Nat) (hi : i < m) : fnL (upto f m) i = f i := upto_getD hi

/-- Where the k-th argument begins and ends. -/
theorem arg_place {n : Nat} {A : Nat → Int} {x : List Int} (hg : Trm n A x.length (fnL x)) {k : Nat} (hk : k < aOf A (fnL x) 0) : ∃ q r, skip (aOf A (fnL x)) x.length 1 k = some q ∧ skip (aOf A (fnL x)) x.length q 1 = some r ∧ skip (aOf A (fnL x)) x.length 1 (k + 1) = some r ∧ 1 ≤ q ∧ q < r ∧ r ≤ x.length ∧ agP (aOf A (fnL x)) x.length k = q ∧ agP (aOf A (fnL x)) x.length (k + 1) = r := by
  have hw := hg.whole
  rw [skip_one _ hg.pos] at hw
  obtain ⟨q, r, h1, h2, h3⟩ := skip_arg hw hk
  have l1 := (skip_le h1).1
  have l2 := (skip_le h2).2 (by omega)
  exact ⟨q, r, h1, h2, h3, l1, l2.1, l2.2, agP_some h1, agP_some h3⟩

/-- All arguments together have all nodes but the first. -/
theorem argL_sum {n : Nat} {A : Nat → Int} {x : List Int} (hg : Trm n A x.length (fnL x)) : ∀ k, k ≤ aOf A (fnL x) 0 → ((List.range k).map (fun i => (argL A x i).length)).sum + 1 = agP (aOf A (fnL x)) x.length k
  | 0, _ => by rw [agP_some (skip_zero _ _ _)]; simp
  | k + 1, hk => by
    have ih := argL_sum hg k (by omega)
    obtain ⟨q, r, _, _, _, _, h5, _, h7, h8⟩ := arg_place hg (k := k) (by omega)
    have hl := argL_len A x k
    rw [h7, h8] at hl
    rw [List.range_succ, List.map_append, List.sum_append, h8]
    rw [h7] at ih
    simp only [List.map_cons, List.map_nil, List.sum_cons, List.sum_nil, hl]
    omega

theorem argL_all {n : Nat} {A : Nat → Int} {x : List Int} (hg : Trm n A x.length (fnL x)) : ((List.range (aOf A (fnL x) 0)).map (fun i => (argL A x i).length)).sum + 1 = x.length := by
  rw [argL_sum hg _ (Nat.le_refl _)]
  have hw := hg.whole
  rw [skip_one _ hg.pos] at hw
  exact agP_some hw

theorem argL_mem {n : Nat} {A : Nat → Int} {x : List Int} (hg : Trm n A x.length (fnL x)) {k : Nat} (hk : k < aOf A (fnL x) 0) {y : Int} (hy : y ∈ argL A x k) : y ∈ x := by
  obtain ⟨q, r, _, _, _, _, h5, h6, h7, h8⟩ := arg_place hg hk
  unfold argL at hy
  rw [h7, h8] at hy
  obtain ⟨i, hi, rfl⟩ := List.mem_map.1 hy
  rw [List.mem_range] at hi
  show x.getD (q + i) 0 ∈ x
  rw [List.getD_eq_getElem?_getD, List.getElem?_eq_getElem (by omega)]
  exact List.getElem_mem _

theorem argL_free {n : Nat} {A : Nat → Int} {M : Nat → List Int} {x : List Int} (hg : Trm n A x.length (fnL x)) (hf : FreeL M x) {k : Nat} (hk : k < aOf A (fnL x) 0) : FreeL M (argL A x k) := fun v hv => hf v (argL_mem hg hk hv)

/-- An argument is a term. -/
theorem argL_trm {n : Nat} {A : Nat → Int} {x : List Int} (hg : Trm n A x.length (fnL x)) {k : Nat} (hk : k < aOf A (fnL x) 0) : Trm n A (argL A x k).length (fnL (argL A x k)) := by
  obtain ⟨q, r, h1, h2, h3, h4, h5, h6, h7, h8⟩ := arg_place hg hk
  have hl : (argL A x k).length = r - q := by rw [argL_len, h7, h8]
  have hn : ∀ i, i < r - q → fnL (argL A x k) i = fnL x (q + i) := fun i hi => by
    unfold argL
    rw [h7, h8]
    exact fnL_upto _ _ _ hi
  rw [hl]
  refine ⟨hg.sig, by omega, ⟨hg.nods.few, hg.nods.ar, by have := hg.nods.most; omega, fun i hi => ?_⟩, ?_⟩
  · rw [hn i hi]; exact hg.nods.node _ (by omega)
  · have := skip_shift (aOf A (fnL x)) (aOf A (fnL (argL A x k))) x.length (r - q) _ q 0 1 r (Nat.le_refl _) h2 (fun i hi => by
      unfold aOf
      rw [Nat.zero_add, hn i (by omega)]) (by omega)
    rw [this, Nat.zero_add]

/-- The pairs that are left to be asked. -/
def argPs (A : Nat → Int) (x y : List Int) : List (List Int × List Int) := (List.range (aOf A (fnL x) 0)).map fun k => (argL A x k, argL A y k)

/-- How many nodes pairs have, with what is bound. -/
def szP (M : Nat → List Int) (s : List (List Int × List Int)) : Nat := (s.map fun p => (apL M p.1).length + (apL M p.2).length).sum

theorem szP_append (M : Nat → List Int) (s t : List (List Int × List Int)) : szP M (s ++ t) = szP M s + szP M t := by
  simp [szP, List.sum_append]

theorem sum_add {f g : Nat → Nat} : ∀ l : List Nat, (l.map (fun i => f i + g i)).sum = (l.map f).sum + (l.map g).sum
  | [] => rfl
  | a :: l => by simp only [List.map_cons, List.sum_cons]; rw [sum_add l]; omega

/-- The arguments of two terms that are free of what is bound have fewer nodes than they. -/
theorem szP_args {n : Nat} {A : Nat → Int} {M : Nat → List Int} {x y : List Int} (hx : Trm n A x.length (fnL x)) (hy : Trm n A y.length (fnL y)) (fx : FreeL M x) (fy : FreeL M y) (he : aOf A (fnL x) 0 = aOf A (fnL y) 0) : szP M (argPs A x y) + 2 = x.length + y.length := by
  have a1 := argL_all hx
  have a2 := argL_all hy
  have e : szP M (argPs A x y) = ((List.range (aOf A (fnL x) 0)).map (fun i => (argL A x i).length + (argL A y i).length)).sum := by
    unfold szP argPs
    rw [List.map_map]
    congr 1
    refine List.map_congr_left fun k hk => ?_
    rw [List.mem_range] at hk
    simp only [Function.comp]
    rw [apL_free (argL_free hx fx hk), apL_free (argL_free hy fy (by rw [← he]; exact hk))]
  rw [e, sum_add]
  rw [← he] at a2
  omega

end Go.Proofs.Ytenlogljpgdbpaa

/- Plain facts: a term in which terms stand for variables is a term. -/
namespace Go.Proofs.Ytenlogljpgdbpaa
open Go.RowKit

/-- How many arguments a node has. -/
def arX (A : Nat → Int) (x : Int) : Nat := if x < 0 then 0 else (A x.toNat).toNat
theorem aOf_arX (A T : Nat → Int) (p : Nat) : aOf A T p = arX A (T p) := rfl

/-- How many terms are awaited behind a list, of k ahead of it. -/
def eat (A : Nat → Int) : List Int → Nat → Option Nat
  | [], k => some k
  | _ :: _, 0 => none
  | x :: l, k + 1 => eat A l (k + arX A x)

theorem eat_append (A : Nat → Int) : ∀ (l l' : List Int) (k : Nat), eat A (l ++ l') k = (eat A l k).bind (eat A l')
  | [], l', k => rfl
  | x :: l, l', 0 => rfl
  | x :: l, l', k + 1 => by simp only [List.cons_append, eat]; exact eat_append A l l' _

theorem eat_more (A : Nat → Int) : ∀ (l : List Int) (k j i : Nat), eat A l k = some j → eat A l (k + i) = some (j + i)
  | [], k, j, i, h => by simp only [eat, Option.some.injEq] at h ⊢; omega
  | x :: l, 0, j, i, h => by simp [eat] at h
  | x :: l, k + 1, j, i, h => by
    simp only [eat] at h
    rw [show k + 1 + i = (k + i) + 1 by omega]
    simp only [eat]
    rw [show k + i + arX A x = k + arX A x + i by omega]
    exact eat_more A l _ j i h

theorem ptL_cons {T : Nat → Int} {p e : Nat} (h : p < e) : ptL T p e = T p :: ptL T (p + 1) e := by
  unfold ptL
  rw [show e - p = (e - (p + 1)) + 1 by omega, List.range_succ_eq_map, List.map_cons, List.map_map]
  rw [Nat.add_zero]
  congr 1
  refine List.map_congr_left fun i _ => ?_
  show T (p + (i + 1)) = T (p + 1 + i)
  congr 1; omega

theorem ptL_none {T : Nat → Int} {p e : Nat} (h : e ≤ p) : ptL T p e = [] := by
  unfold ptL; rw [show e - p = 0 by omega]; rfl

theorem eat_skip {A T : Nat → Int} {m : Nat} : ∀ (d p k e : Nat), e - p ≤ d → skip (aOf A T) m p k = some e → eat A (ptL T p e) k = some 0 := by
  intro d
  induction d with
  | zero =>
    intro p k e hd h
    cases k with
    | zero => rw [skip_zero] at h; cases h; rw [ptL_none (Nat.le_refl _)]; rfl
    | succ k => have := (skip_le h).2 (by omega); omega
  | succ d ih =>
    intro p k e hd h
    cases k with
    | zero => rw [skip_zero] at h; cases h; rw [ptL_none (Nat.le_refl _)]; rfl
    | succ k =>
      have hl := (skip_le h).2 (by omega)
      have h2 := h
      rw [skip_step _ k (by omega)] at h2
      rw [ptL_cons hl.1]
      simp only [eat]
      have := ih (p + 1) (k + aOf A T p) e (by omega) h2
      rwa [aOf_arX] at this

theorem skip_eat {A U : Nat → Int} {K : Nat} : ∀ (d p k : Nat), K - p ≤ d → p ≤ K → eat A (ptL U p K) k = some 0 → skip (aOf A U) K p k = some K := by
  intro d
  induction d with
  | zero =>
    intro p k hd hp h
    obtain rfl : p = K := by omega
    rw [ptL_none (Nat.le_refl _)] at h
    simp only [eat, Option.some.injEq] at h
    subst h
    exact skip_zero _ _ _
  | succ d ih =>
    intro p k hd hp h
    by_cases e : p = K
    · subst e
      rw [ptL_none (Nat.le_refl _)] at h
      simp only [eat, Option.some.injEq] at h
      subst h
      exact skip_zero _ _ _
    · rw [ptL_cons (by omega)] at h
      cases k with
      | zero => simp [eat] at h
      | succ k =>
        simp only [eat] at h
        rw [skip_step _ k (by omega)]
        exact ih (p + 1) _ (by omega) (by omega) (by rw [aOf_arX]; exact h)

/-- What may stand for variables: terms. -/
def TmM (n : Nat) (A : Nat → Int) (M : Nat → List Int) : Prop := ∀ v, M v = [] ∨ (eat A (M v) 1 = some 0 ∧ ∀ x ∈ M v, nodeB x n = true)

section
variable {n : Nat} {A T R : Nat → Int} {m mR : Nat} {M : Nat → List Int}

theorem sub_eat (hr : Trm n A mR R) (hM : TmM n A M) : ∀ k, k ≤ mR → eat A (putL M R k) 1 = some (awt (aOf A R) 0 k).toNat
  | 0, _ => rfl
  | k + 1, hk => by
    have h0 := pat_pos hr (show k < mR by omega)
    simp only [putL]
    rw [eat_append, sub_eat hr hM k (by omega)]
    simp only [Option.bind]
    obtain ⟨j, hj⟩ : ∃ j, (awt (aOf A R) 0 k).toNat = j + 1 := ⟨(awt (aOf A R) 0 k).toNat - 1, by omega⟩
    have ha : (awt (aOf A R) 0 (k + 1)).toNat = j + aOf A R k := by simp only [awt, Nat.zero_add]; omega
    rw [hj, ha]
    rcases nodeB_cases (hr.nods.node k (by omega)) with ⟨i, ei, hi⟩ | hv
    · rw [nodL_sym (by omega)]
      simp only [eat]
      rfl
    · obtain ⟨v, ev⟩ : ∃ v : Nat, R k = -1 - (v : Int) := ⟨(-1 - R k).toNat, by omega⟩
      have hz : aOf A R k = 0 := aOf_var (by omega)
      rw [hz]
      by_cases hm : M v = []
      · rw [ev, nodL_var, if_neg (fun h => h hm), ← ev]
        simp only [eat]
        rw [← aOf_arX, hz]
      · rw [ev, nodL_var, if_pos hm]
        rcases hM v with h1 | ⟨h1, _⟩
        · exact absurd h1 hm
        · have := eat_more A (M v) 1 0 j h1
          rw [Nat.zero_add, Nat.add_comm] at this
          rw [this]; rfl

theorem sub_node (hr : Trm n A mR R) (hM : TmM n A M) : ∀ k, k ≤ mR → ∀ x ∈ putL M R k, nodeB x n = true
  | 0, _, x, hx => by simp [putL] at hx
  | k + 1, hk, x, hx => by
    simp only [putL, List.mem_append] at hx
    rcases hx with hx | hx
    · exact sub_node hr hM k (by omega) x hx
    · have hn := hr.nods.node k (by omega)
      unfold nodL at hx
      split at hx
      · rename_i h
        rcases hM (-1 - R k).toNat with h1 | ⟨_, h1⟩
        · exact absurd h1 h.2
        · exact h1 x hx
      · simp only [List.mem_singleton] at hx
        rw [hx]; exact hn

theorem ptL_list (l : List Int) : ptL (fun i => l.getD i 0) 0 l.length = l := by
  apply List.ext_getElem?
  intro i
  by_cases hi : i < l.length
  · simp [ptL, hi]
  · rw [List.getElem?_eq_none (by rw [ptL_len]; omega), List.getElem?_eq_none (by omega)]

/-- A term in which terms stand for variables. -/
theorem sub_trm (hr : Trm n A mR R) (hM : TmM n A M) (h24 : (putL M R mR).length ≤ 24) (hl : mR ≤ (putL M R mR).length) : Trm n A (putL M R mR).length (fun i => (putL M R mR).getD i 0) := by
  refine ⟨hr.sig, by have := hr.pos; omega, ⟨hr.sig.most, hr.sig.arity, h24, fun i hi => ?_⟩, ?_⟩
  · refine sub_node hr hM mR (Nat.le_refl _) _ ?_
    rw [List.getD_eq_getElem?_getD, List.getElem?_eq_getElem hi]; exact List.getElem_mem hi
  · refine skip_eat _ 0 1 (Nat.le_refl _) (Nat.zero_le _) ?_
    rw [ptL_list, sub_eat hr hM mR (Nat.le_refl _), pat_end hr]; rfl

/-- The parts of a right term are terms. -/
theorem MtI.terms {P : Nat → Int} {q e0 k p : Nat} (h : MtI A T P m q e0 k p M) (hg : Trm n A m T) : TmM n A M := fun v => by
  refine (h.parts v).imp id ?_
  rintro ⟨p', e', a1, a2, a3, a4, a5⟩
  have h1 := (skip_le a4).2 (by omega)
  rw [a5]
  refine ⟨eat_skip _ p' 1 e' (Nat.le_refl _) a4, fun x hx => ?_⟩
  obtain ⟨i, hi, rfl⟩ := List.mem_map.1 (show x ∈ (List.range (e' - p')).map (fun i => T (p' + i)) from hx)
  exact hg.nods.node _ (by have := List.mem_range.1 hi; omega)

/-- A term with another one at a place. -/
theorem cat_trm {U : Nat → Int} {K q e : Nat} (hg : Trm n A m T) (hu : Trm n A K U) (hq : q < m) (he : skip (aOf A T) m q 1 = some e) (h24 : q + K + (m - e) ≤ 24) : Trm n A (q + K + (m - e)) (catU q K e T U) := by
  have hem := (skip_le he).2 (by omega)
  refine ⟨hg.sig, by have := hu.pos; omega, ⟨hg.nods.few, hg.nods.ar, h24, fun i hi => ?_⟩, cat_whole hg.whole hu.whole hq he⟩
  by_cases h1 : i < q
  · rw [catU_low h1]; exact hg.nods.node i (by omega)
  · by_cases h2 : i < q + K
    · rw [show i = q + (i - q) by omega, catU_mid (by omega)]; exact hu.nods.node _ (by omega)
    · rw [show i = q + K + (i - (q + K)) by omega, catU_high]; exact hg.nods.node _ (by omega)
end

end Go.Proofs.Ytenlogljpgdbpaa

/- The machine that unifies: its steps, what they keep, and that it ends. -/
namespace Go.Proofs.Ytenlogljpgdbpaa
open Go.RowKit

theorem apL_len {M : Nat → List Int} : ∀ l : List Int, l.length ≤ (apL M l).length
  | [] => Nat.le_refl _
  | x :: l => by
    have ih := apL_len (M := M) l
    have h1 : 1 ≤ (nodL M x).length := by
      unfold nodL
      split
      · next h => exact List.length_pos_iff.2 h.2
      · simp
    unfold apL at ih ⊢
    rw [List.flatMap_cons, List.length_append, List.length_cons]
    omega

/-- A binding of terms. -/
structure UnM (n : Nat) (A : Nat → Int) (M : Nat → List Int) : Prop where
  sig : Sound n A
  idem : IdemM M
  trm : ∀ v, M v ≠ [] → Trm n A (M v).length (fnL (M v))
  few : ∀ v, 12 ≤ v → M v = []

/-- A term as a list. -/
def TrmL (n : Nat) (A : Nat → Int) (l : List Int) : Prop := Trm n A l.length (fnL l)

open Classical in
/-- One variable more, or a code. -/
noncomputable def uBind (M : Nat → List Int) (v : Nat) (t : List Int) : Int ⊕ ((Nat → List Int) × List (List Int × List Int)) :=
  if (-1 - (v : Int)) ∈ t then .inl 4 else if ∃ x, M x ≠ [] ∧ 24 < (apL (fun u => if u = v then t else []) (M x)).length then .inl 2 else .inr (bind1 M v t, [])

open Classical in
/-- One pair is asked: a code, or what is bound and what is left. -/
noncomputable def uStep (A : Nat → Int) (M : Nat → List Int) (a b : List Int) : Int ⊕ ((Nat → List Int) × List (List Int × List Int)) :=
  if 24 < (apL M a).length ∨ 24 < (apL M b).length then .inl 2
  else if apL M a = apL M b then .inr (M, [])
  else if fnL (apL M a) 0 < 0 then uBind M (-1 - fnL (apL M a) 0).toNat (apL M b)
  else if fnL (apL M b) 0 < 0 then uBind M (-1 - fnL (apL M b) 0).toNat (apL M a)
  else if fnL (apL M a) 0 ≠ fnL (apL M b) 0 then .inl 4
  else .inr (M, argPs A (apL M a) (apL M b))

/-- The machine, with so many steps. -/
noncomputable def uRun (A : Nat → Int) : Nat → (Nat → List Int) → List (List Int × List Int) → Option (Int × (Nat → List Int))
  | 0, _, _ => none
  | _ + 1, M, [] => some (0, M)
  | f + 1, M, p :: s => match uStep A M p.1 p.2 with | .inl c => some (c, fun _ => []) | .inr (M', ps) => uRun A f M' (ps ++ s)

/-- How many variables are not bound. -/
def ubN (M : Nat → List Int) : Nat := ((List.range 12).filter (fun v => (M v).isEmpty)).length

theorem filter_lt {p q : Nat → Bool} : ∀ {l : List Nat}, (∀ x, x ∈ l → p x = true → q x = true) → (∃ x, x ∈ l ∧ q x = true ∧ p x = false) → (l.filter p).length < (l.filter q).length
  | [], _, ⟨x, hx, _⟩ => by cases hx
  | a :: l, h, ⟨x, hx, h1, h2⟩ => by
    have le : ∀ (l : List Nat), (∀ x, x ∈ l → p x = true → q x = true) → (l.filter p).length ≤ (l.filter q).length := fun l => by
      induction l with
      | nil => intro _; exact Nat.le_refl _
      | cons b l ih =>
        intro hh
        have i1 := ih (fun x hx => hh x (List.mem_cons_of_mem _ hx))
        have i2 := hh b (List.mem_cons_self ..)
        by_cases hb : p b = true
        · rw [List.filter_cons_of_pos hb, List.filter_cons_of_pos (i2 hb)]; simp only [List.length_cons]; omega
        · rw [List.filter_cons_of_neg (by simpa using hb)]
          by_cases hq : q b = true
          · rw [List.filter_cons_of_pos hq]; simp only [List.length_cons]; omega
          · rw [List.filter_cons_of_neg (by simpa using hq)]; exact i1
    have ha := h a (List.mem_cons_self ..)
    have hl : ∀ x, x ∈ l → p x = true → q x = true := fun x hx => h x (List.mem_cons_of_mem _ hx)
    by_cases e : x = a
    · subst e
      rw [List.filter_cons_of_neg (by simp [h2]), List.filter_cons_of_pos h1]
      have := le l hl
      simp only [List.length_cons]; omega
    · have hx' : x ∈ l := by
        rcases List.mem_cons.1 hx with h | h
        · exact absurd h e
        · exact h
      have ih := filter_lt hl ⟨x, hx', h1, h2⟩
      by_cases hp : p a = true
      · rw [List.filter_cons_of_pos hp, List.filter_cons_of_pos (ha hp)]; simp only [List.length_cons]; omega
      · rw [List.filter_cons_of_neg (by simpa using hp)]
        by_cases hq : q a = true
        · rw [List.filter_cons_of_pos hq]; simp only [List.length_cons]; omega
        · rw [List.filter_cons_of_neg (by simpa using hq)]; exact ih

theorem ubN_bind {M : Nat → List Int} {v : Nat} {t : List Int} (hv : v < 12) (h0 : M v = []) (ht : t ≠ []) : ubN (bind1 M v t) < ubN M := by
  refine filter_lt (fun x _ hx => ?_) ⟨v, List.mem_range.2 hv, by simp [h0], by rw [bind1_v]; simpa using ht⟩
  by_cases e : x = v
  · subst e; simp [h0]
  · rw [bind1_some e] at hx
    have := apL_nil (by simpa using hx)
    simp [this]

theorem trmL_head {n : Nat} {A : Nat → Int} {l : List Int} (h : TrmL n A l) : fnL l 0 ∈ l := by
  show l.getD 0 0 ∈ l
  have := Trm.pos h
  rw [List.getD_eq_getElem?_getD, List.getElem?_eq_getElem this]
  exact List.getElem_mem _

/-- The head of a term is a variable below twelve. -/
theorem trmL_var {n : Nat} {A : Nat → Int} {l : List Int} (h : TrmL n A l) (hx : fnL l 0 < 0) : ∃ v : Nat, v < 12 ∧ fnL l 0 = -1 - (v : Int) ∧ (-1 - fnL l 0).toNat = v := by
  have h1 := h.nods.node 0 h.pos
  rcases nodeB_cases h1 with ⟨j, hj, _⟩ | ⟨h2, h3⟩
  · omega
  · exact ⟨(-1 - fnL l 0).toNat, by omega, by omega, rfl⟩

end Go.Proofs.Ytenlogljpgdbpaa

/- The machine that unifies ends. -/
namespace Go.Proofs.Ytenlogljpgdbpaa
open Go.RowKit

theorem trmL_eat {n : Nat} {A : Nat → Int} {l : List Int} (h : TrmL n A l) : eat A l 1 = some 0 ∧ ∀ x ∈ l, nodeB x n = true := by
  have e : ptL (fnL l) 0 l.length = l := by
    show (List.range (l.length - 0)).map (fun i => fnL l (0 + i)) = l
    have := upto_self l
    unfold upto at this
    simpa [fnL] using this
  refine ⟨?_, fun x hx => ?_⟩
  · have := eat_skip (A := A) (T := fnL l) (m := l.length) _ 0 1 l.length (Nat.le_refl _) h.whole
    rwa [e] at this
  · obtain ⟨i, hi, rfl⟩ := List.mem_iff_getElem.1 hx
    have := h.nods.node i hi
    unfold fnL at this
    rwa [List.getD_eq_getElem?_getD, List.getElem?_eq_getElem hi] at this

theorem UnM.tmM {n : Nat} {A : Nat → Int} {M : Nat → List Int} (h : UnM n A M) : TmM n A M := fun v => by
  by_cases h0 : M v = []
  · exact Or.inl h0
  · exact Or.inr (trmL_eat (h.trm v h0))

theorem apL_trm {n : Nat} {A : Nat → Int} {M : Nat → List Int} {l : List Int} (hM : TmM n A M) (hl : TrmL n A l) (h24 : (apL M l).length ≤ 24) : TrmL n A (apL M l) := by
  have h := sub_trm (M := M) hl hM (by rw [putL_list]; exact h24) (by rw [putL_list]; exact apL_len l)
  rw [putL_list] at h
  exact h

theorem uBind_keep {n : Nat} {A : Nat → Int} {M : Nat → List Int} {v : Nat} {t : List Int} {r : (Nat → List Int) × List (List Int × List Int)} (h : UnM n A M) (hv : v < 12) (h0 : M v = []) (ht : TrmL n A t) (hf : FreeL M t) (he : uBind M v t = .inr r) : UnM n A r.1 ∧ r.2 = [] ∧ ubN r.1 < ubN M := by
  unfold uBind at he
  split at he
  · cases he
  · next hn =>
    split at he
    · cases he
    · next hl =>
      obtain rfl := Sum.inr.inj he
      have ht0 : t ≠ [] := fun e => by have := ht.pos; rw [e] at this; simp at this
      have hM1 : TmM n A (fun u => if u = v then t else []) := fun u => by
        by_cases e : u = v
        · simp only [e, if_true]; exact Or.inr (trmL_eat ht)
        · simp only [e, if_false]; exact Or.inl trivial
      refine ⟨⟨h.sig, bind1_idem h.idem h0 hf hn, fun u hu => ?_, fun u hu => ?_⟩, rfl, ubN_bind hv h0 ht0⟩
      · by_cases e : u = v
        · subst e; simp only [bind1_v]; exact ht
        · simp only [bind1_some e] at hu ⊢
          have hu0 : M u ≠ [] := fun e0 => hu (by rw [e0]; rfl)
          exact apL_trm hM1 (h.trm u hu0) (Nat.le_of_not_lt fun h24 => hl ⟨u, hu0, h24⟩)
      · exact bind1_none (by omega) (h.few u hu)

theorem uStep_keep {n : Nat} {A : Nat → Int} {M : Nat → List Int} {a b : List Int} {r : (Nat → List Int) × List (List Int × List Int)} (h : UnM n A M) (ha : TrmL n A a) (hb : TrmL n A b) (he : uStep A M a b = .inr r) :
    UnM n A r.1 ∧ (∀ p, p ∈ r.2 → TrmL n A p.1 ∧ TrmL n A p.2) ∧ (ubN r.1 < ubN M ∨ (r.1 = M ∧ szP M r.2 < (apL M a).length + (apL M b).length)) := by
  have fx := apL_isFree h.idem a
  have fy := apL_isFree h.idem b
  have lx := apL_len (M := M) a
  have ly := apL_len (M := M) b
  have pa := ha.pos
  have pb := hb.pos
  unfold uStep at he
  split at he
  · cases he
  · next h24 =>
    have tx : TrmL n A (apL M a) := apL_trm h.tmM ha (by omega)
    have ty : TrmL n A (apL M b) := apL_trm h.tmM hb (by omega)
    generalize apL M a = x at *
    generalize apL M b = y at *
    split at he
    · obtain rfl := Sum.inr.inj he
      exact ⟨h, fun p hp => by simp at hp, Or.inr ⟨rfl, by simp [szP]; omega⟩⟩
    · split at he
      · next hx0 =>
        obtain ⟨v, hv, e1, e2⟩ := trmL_var tx hx0
        rw [e2] at he
        obtain ⟨k1, k2, k3⟩ := uBind_keep h hv (fx v (by rw [← e1]; exact trmL_head tx)) ty fy he
        exact ⟨k1, fun p hp => by rw [k2] at hp; simp at hp, Or.inl k3⟩
      · split at he
        · next hy0 =>
          obtain ⟨v, hv, e1, e2⟩ := trmL_var ty hy0
          rw [e2] at he
          obtain ⟨k1, k2, k3⟩ := uBind_keep h hv (fy v (by rw [← e1]; exact trmL_head ty)) tx fx he
          exact ⟨k1, fun p hp => by rw [k2] at hp; simp at hp, Or.inl k3⟩
        · split at he
          · cases he
          · next hxy =>
            obtain rfl := Sum.inr.inj he
            have hh : aOf A (fnL x) 0 = aOf A (fnL y) 0 := by
              have e : fnL x 0 = fnL y 0 := by simpa using hxy
              unfold aOf; rw [e]
            refine ⟨h, fun p hp => ?_, Or.inr ⟨rfl, ?_⟩⟩
            · obtain ⟨k, hk, rfl⟩ := List.mem_map.1 hp
              rw [List.mem_range] at hk
              exact ⟨argL_trm tx hk, argL_trm ty (by rw [← hh]; exact hk)⟩
            · have := szP_args tx ty fx fy hh
              show szP M (argPs A x y) < _
              omega

/-- The machine ends. -/
theorem uRun_ends {n : Nat} {A : Nat → Int} : ∀ (k d : Nat) (M : Nat → List Int) (s : List (List Int × List Int)), ubN M ≤ k → szP M s ≤ d → UnM n A M → (∀ p, p ∈ s → TrmL n A p.1 ∧ TrmL n A p.2) → ∃ f R, uRun A f M s = some R := by
  intro k
  induction k with
  | zero =>
    intro d
    induction d with
    | zero =>
      intro M s _ hd h hs
      cases s with
      | nil => exact ⟨1, _, rfl⟩
      | cons p s =>
        have h1 := apL_len (M := M) p.1
        have h2 := (hs p (List.mem_cons_self ..)).1.pos
        simp only [szP, List.map_cons, List.sum_cons] at hd
        omega
    | succ d ih =>
      intro M s hk hd h hs
      cases s with
      | nil => exact ⟨1, _, rfl⟩
      | cons p s =>
        obtain ⟨ta, tb⟩ := hs p (List.mem_cons_self ..)
        cases he : uStep A M p.1 p.2 with
        | inl c => exact ⟨1, (c, fun _ => []), by simp only [uRun, he]⟩
        | inr r =>
          obtain ⟨k1, k2, k3⟩ := uStep_keep h ta tb he
          rcases k3 with k3 | ⟨k3, k4⟩
          · omega
          · have hsz : szP r.1 (r.2 ++ s) ≤ d := by
              rw [szP_append, k3]
              simp only [szP, List.map_cons, List.sum_cons] at hd k4 ⊢
              omega
            obtain ⟨f, R, hR⟩ := ih r.1 (r.2 ++ s) (by rw [k3]; exact hk) hsz k1 (fun q hq => by
              rcases List.mem_append.1 hq with hq | hq
              · exact k2 q hq
              · exact hs q (List.mem_cons_of_mem _ hq))
            exact ⟨f + 1, R, by simp only [uRun, he]; exact hR⟩
  | succ k ihk =>
    intro d
    induction d with
    | zero =>
      intro M s _ hd h hs
      cases s with
      | nil => exact ⟨1, _, rfl⟩
      | cons p s =>
        have h1 := apL_len (M := M) p.1
        have h2 := (hs p (List.mem_cons_self ..)).1.pos
        simp only [szP, List.map_cons, List.sum_cons] at hd
        omega
    | succ d ih =>
      intro M s hk hd h hs
      cases s with
      | nil => exact ⟨1, _, rfl⟩
      | cons p s =>
        obtain ⟨ta, tb⟩ := hs p (List.mem_cons_self ..)
        cases he : uStep A M p.1 p.2 with
        | inl c => exact ⟨1, (c, fun _ => []), by simp only [uRun, he]⟩
        | inr r =>
          obtain ⟨k1, k2, k3⟩ := uStep_keep h ta tb he
          have hall : ∀ q, q ∈ r.2 ++ s → TrmL n A q.1 ∧ TrmL n A q.2 := fun q hq => by
            rcases List.mem_append.1 hq with hq | hq
            · exact k2 q hq
            · exact hs q (List.mem_cons_of_mem _ hq)
          rcases k3 with k3 | ⟨k3, k4⟩
          · obtain ⟨f, R, hR⟩ := ihk _ r.1 (r.2 ++ s) (by omega) (Nat.le_refl _) k1 hall
            exact ⟨f + 1, R, by simp only [uRun, he]; exact hR⟩
          · have hsz : szP r.1 (r.2 ++ s) ≤ d := by
              rw [szP_append, k3]
              simp only [szP, List.map_cons, List.sum_cons] at hd k4 ⊢
              omega
            obtain ⟨f, R, hR⟩ := ih r.1 (r.2 ++ s) (by rw [k3]; exact hk) hsz k1 hall
            exact ⟨f + 1, R, by simp only [uRun, he]; exact hR⟩

end Go.Proofs.Ytenlogljpgdbpaa

/- The machine's steps, and what l6Bind and bindAlso answer. -/
namespace Go.Proofs.Ytenlogljpgdbpaa
open Go.RowKit

theorem on_bdN (v m : Nat) (T : Nat → Int) : bdN 1 (onV v) (onD m T) = fun u => if u = v then upto T m else [] := by
  funext u
  by_cases e : u = v
  · subst e
    have h : bdI (onV u) (u : Int) 1 = some 0 := bdI_first (fun j hj => by omega) rfl 1 (by omega)
    show bdM 1 (onV u) (onD m T) (u : Int) = _
    rw [bdM_some h]
    simp [onD]
  · have h : bdI (onV v) (u : Int) 1 = none := bdI_none 1 (fun i _ => by simp only [onV]; omega)
    show bdM 1 (onV v) (onD m T) (u : Int) = _
    rw [bdM_none h]
    simp [e]

theorem cnt_mem {T : Nat → Int} {x : Int} : ∀ m, cntN T x m = 0 ↔ x ∉ upto T m
  | 0 => by simp [cntN, upto]
  | m + 1 => by
    have ih := cnt_mem (T := T) (x := x) m
    rw [upto_succ, List.mem_append, List.mem_singleton]
    simp only [cntN]
    by_cases e : T m = x
    · rw [if_pos e]
      constructor
      · intro h; omega
      · intro h; exact absurd (Or.inr e.symm) h
    · rw [if_neg e, Nat.add_zero, ih]
      constructor
      · intro h h2
        rcases h2 with h2 | h2
        · exact h h2
        · exact e h2.symm
      · intro h h2; exact h (Or.inl h2)

theorem long_iff {M1 M : Nat → List Int} (h1 : ∀ v, (M1 v).length ≤ 24) (h12 : ∀ v, 12 ≤ v → M v = []) : (∃ i, i < cR M ∧ 24 < (cnD (ovM M1 M) 12).m i) ↔ ∃ x, M x ≠ [] ∧ 24 < (apL M1 (M x)).length := by
  have key : ∀ i x, cV M i = (x : Nat) → i < cR M → M x ≠ [] → (cnD (ovM M1 M) 12).m i = (apL M1 (M x)).length := fun i x hx hi hne => by
    rw [(cnD_m (show cV (ovM M1 M) i = x by rw [ovM_cV h1]; exact hx)).1]
    unfold ovM
    rw [if_neg hne, putL_list]
  constructor
  · rintro ⟨i, hi, hl⟩
    obtain ⟨x, hx, _, hne⟩ := cV_get hi
    exact ⟨x, hne, by rw [← key i x hx hi hne]; exact hl⟩
  · rintro ⟨x, hne, hl⟩
    have hx12 : x < 12 := by
      by_cases h : x < 12
      · exact h
      · exact absurd (h12 x (by omega)) hne
    obtain ⟨i, hi, hx⟩ := cV_all hx12 hne
    exact ⟨i, hi, by rw [key i x hx hi hne]; exact hl⟩

theorem uBind_in {M : Nat → List Int} {v : Nat} {t : List Int} (h : (-1 - (v : Int)) ∈ t) : uBind M v t = .inl 4 := by rw [uBind, if_pos h]
theorem uBind_long {M : Nat → List Int} {v : Nat} {t : List Int} (h : (-1 - (v : Int)) ∉ t) (h2 : ∃ x, M x ≠ [] ∧ 24 < (apL (fun u => if u = v then t else []) (M x)).length) : uBind M v t = .inl 2 := by rw [uBind, if_neg h, if_pos h2]
theorem uBind_ok {M : Nat → List Int} {v : Nat} {t : List Int} (h : (-1 - (v : Int)) ∉ t) (h2 : ¬ ∃ x, M x ≠ [] ∧ 24 < (apL (fun u => if u = v then t else []) (M x)).length) : uBind M v t = .inr (bind1 M v t, []) := by rw [uBind, if_neg h, if_neg h2]

/-- What l6Bind answers is the machine's. -/
theorem lb_bind {w w' : World} {M : Nat → List Int} {v m : Nat} {T : Nat → Int} {e : Ending} (hm : m ≤ 24) (h12 : ∀ v, 12 ≤ v → M v = []) (h : LbAns w M v m T e w') :
    (∃ c, (c = 2 ∨ c = 4) ∧ uBind M v (upto T m) = .inl c ∧ e = .returned (.tuple #[.agg #[.slice none 0 0, .slice none 0 0], .int .i64 c])) ∨
    (∃ va ta B X, uBind M v (upto T m) = .inr (bind1 M v (upto T m), []) ∧ e = .returned (.tuple #[.agg #[va, ta], .int .i64 0]) ∧ w.heap.size ≤ X ∧ BySt w' B X (bind1 M v (upto T m)) 12 va ta) := by
  have hl : ∀ u, ((fun u => if u = v then upto T m else ([] : List Int)) u).length ≤ 24 := fun u => by
    by_cases e : u = v
    · simp only [e, if_true, upto_length]; exact hm
    · simp [e]
  have L := long_iff hl h12
  unfold LbAns at h
  rw [on_bdN] at h
  rcases h with ⟨h1, rfl⟩ | ⟨h1, h2, rfl⟩ | ⟨h1, h2, va, ta, B, X, rfl, h3, h4⟩
  · refine Or.inl ⟨4, Or.inr rfl, uBind_in ?_, rfl⟩
    exact Classical.byContradiction fun hn => by have := (cnt_mem (T := T) m).2 hn; omega
  · exact Or.inl ⟨2, Or.inl rfl, uBind_long ((cnt_mem m).1 h1) (L.1 h2), rfl⟩
  · exact Or.inr ⟨va, ta, B, X, uBind_ok ((cnt_mem m).1 h1) (fun hh => by obtain ⟨i, hi, hl⟩ := L.2 hh; exact h2 i hi hl), rfl, h3, h4⟩

end Go.Proofs.Ytenlogljpgdbpaa

/- What bindAlso answers is the machine's. -/
namespace Go.Proofs.Ytenlogljpgdbpaa
open Go.RowKit

theorem some_mem {T : Nat → Int} {x : Int} {m : Nat} : (bdI T x m).isSome = true ↔ x ∈ upto T m := by
  rw [bdI_iff]
  constructor
  · rintro ⟨i, hi, rfl⟩; exact List.mem_map.2 ⟨i, List.mem_range.2 hi, rfl⟩
  · intro h
    obtain ⟨i, hi, rfl⟩ := List.mem_map.1 h
    exact ⟨i, List.mem_range.1 hi, rfl⟩

theorem baM_bind {M : Nat → List Int} {v m : Nat} {T : Nat → Int} (h12 : ∀ v, 12 ≤ v → M v = []) (h0 : M v = []) : baM (cR M) (cV M) (cnD M 12) v m T = bind1 M v (upto T m) := by
  funext u
  unfold baM thnM
  rw [on_bdN]
  by_cases hu : M u = []
  · have hn : bdI (cV M) (u : Int) (cR M) = none := bdI_none _ (fun i hi e => by
      obtain ⟨x, hx, _, hne⟩ := cV_get hi
      obtain rfl : x = u := by omega
      exact hne hu)
    rw [hn]
    by_cases e : u = v
    · subst e; rw [bind1_v]; simp
    · rw [bind1_none e hu]; simp [e]
  · have e : u ≠ v := fun e => hu (by rw [e]; exact h0)
    have hu12 : u < 12 := by
      by_cases h : u < 12
      · exact h
      · exact absurd (h12 u (by omega)) hu
    obtain ⟨j, hj, hx⟩ := cV_all hu12 hu
    have hs : (bdI (cV M) (u : Int) (cR M)).isSome = true := bdI_iff.2 ⟨j, hj, hx⟩
    cases hb : bdI (cV M) (u : Int) (cR M) with
    | none => rw [hb] at hs; cases hs
    | some i =>
      obtain ⟨hi, hc⟩ := bdI_some _ i hb
      have a := cnD_m (M := M) hc
      show putL _ ((cnD M 12).L i) ((cnD M 12).m i) = _
      rw [a.1, a.2, bind1_some e]
      exact putL_list _ _

theorem ba_long {M : Nat → List Int} {v m : Nat} {T : Nat → Int} (hm : m ≤ 24) (h12 : ∀ v, 12 ≤ v → M v = []) : (∃ i, i < cR M ∧ 24 < (putL (bdN 1 (onV v) (onD m T)) ((cnD M 12).L i) ((cnD M 12).m i)).length) ↔ ∃ x, M x ≠ [] ∧ 24 < (apL (fun u => if u = v then upto T m else []) (M x)).length := by
  have hl : ∀ u, ((fun u => if u = v then upto T m else ([] : List Int)) u).length ≤ 24 := fun u => by
    by_cases e : u = v
    · simp only [e, if_true, upto_length]; exact hm
    · simp [e]
  rw [on_bdN, ← long_iff hl h12]
  constructor
  · rintro ⟨i, hi, h⟩; exact ⟨i, hi, by rw [(ovM_at hl hi).1]; exact h⟩
  · rintro ⟨i, hi, h⟩; exact ⟨i, hi, by rw [(ovM_at hl hi).1] at h; exact h⟩

/-- bindAlso's code is the machine's. -/
theorem ba_bind {M : Nat → List Int} {v m : Nat} {T : Nat → Int} (hm : m ≤ 24) (h12 : ∀ v, 12 ≤ v → M v = []) :
    (∃ c, (c = 2 ∨ c = 4) ∧ uBind M v (upto T m) = .inl c ∧ baC (cR M) (cnD M 12) v m T = c) ∨ (uBind M v (upto T m) = .inr (bind1 M v (upto T m), []) ∧ baC (cR M) (cnD M 12) v m T = 0) := by
  by_cases h1 : (-1 - (v : Int)) ∈ upto T m
  · exact Or.inl ⟨4, Or.inr rfl, uBind_in h1, by rw [baC, if_pos (some_mem.2 h1)]⟩
  · have hn : ¬ (bdI T (-1 - (v : Int)) m).isSome = true := fun h => h1 (some_mem.1 h)
    have L := ba_long (M := M) (v := v) (T := T) hm h12
    by_cases h2 : ∃ x, M x ≠ [] ∧ 24 < (apL (fun u => if u = v then upto T m else []) (M x)).length
    · obtain ⟨i, hi, hl⟩ := L.2 h2
      exact Or.inl ⟨2, Or.inl rfl, uBind_long h1 h2, by rw [baC, if_neg hn]; exact bhC_many hi hl⟩
    · exact Or.inr ⟨uBind_ok h1 h2, by rw [baC, if_neg hn]; exact bhC_ok fun i hi hl => h2 (L.1 ⟨i, hi, hl⟩)⟩

end Go.Proofs.Ytenlogljpgdbpaa

/- Pairs that wait, as they lie in memory. -/
namespace Go.Proofs.Ytenlogljpgdbpaa
open Go.RowKit

/-- One pair in a row. -/
def PairAt (K : Nat → Prop) (w : World) (b off : Nat) (p : List Int × List Int) : Prop :=
  ∃ g1 o1 c1 g2 o2 c2, w.cell? ⟨b, off, none⟩ = some (.slice (some ⟨g1, o1, none⟩) p.1.length c1) ∧ w.cell? ⟨b, off + 1, none⟩ = some (.slice (some ⟨g2, o2, none⟩) p.2.length c2) ∧ Ints w g1 o1 p.1.length (fnL p.1) ∧ Ints w g2 o2 p.2.length (fnL p.2) ∧ p.1.length ≤ c1 ∧ p.2.length ≤ c2 ∧ K g1 ∧ K g2

theorem PairAt.keep {K : Nat → Prop} {w w' : World} {b off : Nat} {p : List Int × List Int} (h : PairAt K w b off p) (hb : Below w.heap.size w w') : PairAt K w' b off p := by
  obtain ⟨g1, o1, c1, g2, o2, c2, h1, h2, h3, h4, h5⟩ := h
  have hk := World.block_lt_of_cell? _ _ h1
  exact ⟨g1, o1, c1, g2, o2, c2, by rw [(bcell hb).1 _ _ hk]; exact h1, by rw [(bcell hb).1 _ _ hk]; exact h2, h3.keep hb, h4.keep hb, h5⟩

/-- A list of pairs, as it is read. -/
def PairV (K : Nat → Prop) (w : World) (v : Value) (s : List (List Int × List Int)) : Prop :=
  ∃ p c, v = .slice p s.length c ∧ s.length ≤ c ∧ (s ≠ [] → ∃ b off, p = some ⟨b, off, none⟩ ∧ b < w.heap.size ∧ K b ∧ ∀ i, i < s.length → PairAt K w b (off + i * 2) (s.getD i ([], [])))

theorem PairV.keep {K : Nat → Prop} {w w' : World} {v : Value} {s : List (List Int × List Int)} (h : PairV K w v s) (hb : Below w.heap.size w w') : PairV K w' v s := by
  obtain ⟨p, c, h1, h2, h3⟩ := h
  refine ⟨p, c, h1, h2, fun hs => ?_⟩
  obtain ⟨b, off, e, hk, hl, hi⟩ := h3 hs
  exact ⟨b, off, e, Nat.lt_of_lt_of_le hk hb.size, hl, fun i hi' => (hi i hi').keep hb⟩

theorem intsFar {w : World} {b off n : Nat} {L : Nat → Int} (h : Ints w b off n L) (a : Addr) (v : Value) (hne : a.block ≠ b) : Ints (w.setCell a v) b off n L :=
  ⟨fun h0 => by simpa using h.blk h0, fun i hi => by rw [World.cell?_setCell_other _ _ _ _ (by intro e; exact hne (by rw [e]))]; exact h.cell i hi⟩

/-- A cell below is written. -/
theorem PairV.setLow {K : Nat → Prop} {w : World} {v : Value} {s : List (List Int × List Int)} (h : PairV K w v s) (a : Addr) (u : Value) (ha : ¬ K a.block) : PairV K (w.setCell a u) v s := by
  obtain ⟨p, c, h1, h2, h3⟩ := h
  refine ⟨p, c, h1, h2, fun hs => ?_⟩
  obtain ⟨b, off, e, hk, hl, hi⟩ := h3 hs
  refine ⟨b, off, e, by simpa using hk, hl, fun i hi' => ?_⟩
  obtain ⟨g1, o1, c1, g2, o2, c2, k1, k2, k3, k4, k5, k6, k7, k8⟩ := hi i hi'
  exact ⟨g1, o1, c1, g2, o2, c2, by rw [World.cell?_setCell_other _ _ _ _ (by intro e; exact ha (by rw [e]; exact hl))]; exact k1, by rw [World.cell?_setCell_other _ _ _ _ (by intro e; exact ha (by rw [e]; exact hl))]; exact k2, intsFar k3 _ _ (fun e => ha (by rw [e]; exact k7)), intsFar k4 _ _ (fun e => ha (by rw [e]; exact k8)), k5, k6, k7, k8⟩

theorem PairV.low {K K' : Nat → Prop} {w : World} {v : Value} {s : List (List Int × List Int)} (h : PairV K w v s) (hl : ∀ g, K g → K' g) : PairV K' w v s := by
  obtain ⟨p, c, h1, h2, h3⟩ := h
  refine ⟨p, c, h1, h2, fun hs => ?_⟩
  obtain ⟨b, off, e, hk, hlo, hi⟩ := h3 hs
  refine ⟨b, off, e, hk, hl _ hlo, fun i hi' => ?_⟩
  obtain ⟨g1, o1, c1, g2, o2, c2, k1, k2, k3, k4, k5, k6, k7, k8⟩ := hi i hi'
  exact ⟨g1, o1, c1, g2, o2, c2, k1, k2, k3, k4, k5, k6, hl _ k7, hl _ k8⟩
theorem PairV.cap {K : Nat → Prop} {w : World} {a : Option Addr} {n c : Nat} {s : List (List Int × List Int)} (h : PairV K w (.slice a n c) s) : n ≤ c := by
  obtain ⟨p, c', h1, h2, h3⟩ := h
  injection h1 with e1 e2 e3
  omega

/-- The first of them, and the others. -/
theorem PairV.head {K : Nat → Prop} {w : World} {v : Value} {p : List Int × List Int} {s : List (List Int × List Int)} (h : PairV K w v (p :: s)) : ∃ b off c, v = .slice (some ⟨b, off, none⟩) (s.length + 1) c ∧ s.length + 1 ≤ c ∧ b < w.heap.size ∧ PairAt K w b off p ∧ PairV K w (.slice (some ⟨b, off + 2, none⟩) s.length (c - 1)) s ∧ (s.length = 0 → PairV K w (.slice (some ⟨b, off, none⟩) 0 0) s) := by
  obtain ⟨q, c, h1, h2, h3⟩ := h
  obtain ⟨b, off, rfl, hk, hl, hi⟩ := h3 (by simp)
  simp only [List.length_cons] at h1 h2 hi
  refine ⟨b, off, c, h1, h2, hk, by have := hi 0 (by omega); simpa using this, ⟨_, c - 1, rfl, by omega, fun _ => ⟨b, off + 2, rfl, hk, hl, fun i hi' => ?_⟩⟩, fun h0 => ?_⟩
  · have := hi (i + 1) (by omega)
    rw [List.getD_cons_succ] at this
    rwa [show off + 2 + i * 2 = off + (i + 1) * 2 by omega]
  · have hs : s = [] := List.length_eq_zero_iff.1 h0
    subst hs
    exact ⟨_, 0, rfl, Nat.le_refl _, fun hn => absurd rfl hn⟩

/-- What a list that has grown is, as it is read. -/
theorem GrP.view {t : TypeId} {w : World} {B : Nat} {v : Value} {j : Nat} {D : EqL} (h : GrP t w B v j D) {s : List (List Int × List Int)} (hs : s.length = j) (hD : ∀ i, i < j → D.m1 i = (s.getD i ([], [])).1.length ∧ D.m2 i = (s.getD i ([], [])).2.length ∧ (∀ k, k < D.m1 i → D.L1 i k = fnL (s.getD i ([], [])).1 k) ∧ (∀ k, k < D.m2 i → D.L2 i k = fnL (s.getD i ([], [])).2 k)) : PairV (fun g => B ≤ g) w v s := by
  obtain ⟨ht, ⟨xs, G, ho, hx, hm⟩, hsl, hf⟩ := h
  subst hs
  rcases hsl with rfl | ⟨g, c, rfl⟩
  · by_cases h0 : s = []
    · subst h0; exact ⟨none, 0, rfl, Nat.le_refl _, fun hn => absurd rfl hn⟩
    · exact absurd rfl (hf (List.length_pos_iff.2 h0))
  · have hc : s.length ≤ c := by
      rcases ho.2 with ⟨h0, h1⟩ | ⟨g', cap, cur, hv, _, hgg, hc, _⟩
      · simp at h0
      · injection hv with h1 h2 h3; omega
    refine ⟨_, c, rfl, hc, fun _ => ⟨g, 0, rfl, (ho.lt g rfl).2, (ho.lt g rfl).1, fun i hi => ?_⟩⟩
    obtain ⟨d1, a1, a2, a3, _, a5⟩ := hx (i * 2) (by omega)
    obtain ⟨d2, b1, b2, b3, _, b5⟩ := hx (i * 2 + 1) (by omega)
    rw [fl2_m0] at a1 a2 a5
    rw [fl2_L0] at a5
    rw [fl2_m1] at b1 b2 b5
    rw [fl2_L1] at b5
    obtain ⟨e1, e2, e3, e4⟩ := hD i hi
    refine ⟨G (i * 2), 0, d1, G (i * 2 + 1), 0, d2, by rw [Nat.zero_add, ho.cellAt _ (by omega), ← e1]; exact a1, by rw [Nat.zero_add, ho.cellAt _ (by omega), ← e2]; exact b1, ?_, ?_, by omega, by omega, a3, b3⟩
    · rw [← e1]; exact a5.ints.same (fun k hk => e3 k hk)
    · rw [← e2]; exact b5.ints.same (fun k hk => e4 k hk)

theorem agD_args {A : Nat → Int} {x y : List Int} : (argPs A x y).length = aOf A (fnL x) 0 ∧ ∀ i, i < aOf A (fnL x) 0 → (agD A x.length (fnL x) y.length (fnL y)).m1 i = ((argPs A x y).getD i ([], [])).1.length ∧ (agD A x.length (fnL x) y.length (fnL y)).m2 i = ((argPs A x y).getD i ([], [])).2.length ∧ (∀ k, k < (agD A x.length (fnL x) y.length (fnL y)).m1 i → (agD A x.length (fnL x) y.length (fnL y)).L1 i k = fnL ((argPs A x y).getD i ([], [])).1 k) ∧ (∀ k, k < (agD A x.length (fnL x) y.length (fnL y)).m2 i → (agD A x.length (fnL x) y.length (fnL y)).L2 i k = fnL ((argPs A x y).getD i ([], [])).2 k) := by
  refine ⟨by simp [argPs], fun i hi => ?_⟩
  have hg : (argPs A x y).getD i ([], []) = (argL A x i, argL A y i) := by
    rw [List.getD_eq_getElem?_getD, List.getElem?_eq_getElem (by simpa [argPs] using hi)]
    simp [argPs]
  rw [hg]
  refine ⟨(argL_len A x i).symm, (argL_len A y i).symm, fun k hk => ?_, fun k hk => ?_⟩
  · exact (fnL_upto _ _ _ hk).symm
  · exact (fnL_upto _ _ _ hk).symm

end Go.Proofs.Ytenlogljpgdbpaa

/- Fresh pairs ahead of those that wait. -/
namespace Go.Proofs.Ytenlogljpgdbpaa
open Go.RowKit

/-- The cells of a row. -/
def cellsL (w : World) (b off n : Nat) : List Value := (List.range n).map fun j => (w.cell? ⟨b, off + j, none⟩).getD undef

theorem cellsL_len (w : World) (b off n : Nat) : (cellsL w b off n).length = n := by simp [cellsL]
theorem cellsL_at {w : World} {b off n j : Nat} (hj : j < n) : (cellsL w b off n)[j]? = some ((w.cell? ⟨b, off + j, none⟩).getD undef) := by
  simp [cellsL, hj]

theorem pair_cell {K : Nat → Prop} {w : World} {b off j : Nat} {s : List (List Int × List Int)} (h : ∀ i, i < s.length → PairAt K w b (off + i * 2) (s.getD i ([], []))) (hj : j < s.length * 2) : ∃ g o m c, w.cell? ⟨b, off + j, none⟩ = some (.slice (some ⟨g, o, none⟩) m c) := by
  obtain ⟨g1, o1, c1, g2, o2, c2, h1, h2, _⟩ := h (j / 2) (by omega)
  by_cases e : j % 2 = 0
  · rw [show off + j / 2 * 2 = off + j by omega] at h1
    exact ⟨_, _, _, _, h1⟩
  · rw [show off + j / 2 * 2 + 1 = off + j by omega] at h2
    exact ⟨_, _, _, _, h2⟩

/-- The cells that are appended stand where they are read. -/
theorem cells_src {K : Nat → Prop} {w : World} {b off : Nat} {s : List (List Int × List Int)} (h : ∀ i, i < s.length → PairAt K w b (off + i * 2) (s.getD i ([], []))) : (∀ j u, (cellsL w b off (s.length * 2))[j]? = some u → w.cell? ((⟨b, off, none⟩ : Addr).add j) = some u) ∧ ∀ u ∈ cellsL w b off (s.length * 2), u.oneCell' = true := by
  have key : ∀ j u, (cellsL w b off (s.length * 2))[j]? = some u → j < s.length * 2 ∧ w.cell? ⟨b, off + j, none⟩ = some u ∧ u.oneCell' = true := fun j u hu => by
    have hj : j < s.length * 2 := by
      have := (List.getElem?_eq_some_iff.1 hu).1
      rwa [cellsL_len] at this
    rw [cellsL_at hj] at hu
    obtain ⟨g, o, m, c, hc⟩ := pair_cell h hj
    rw [hc] at hu ⊢
    simp at hu
    subst hu
    exact ⟨hj, rfl, rfl⟩
  refine ⟨fun j u hu => ?_, fun u hu => ?_⟩
  · have := (key j u hu).2.1
    by_cases h0 : j = 0
    · subst h0; simpa [Addr.add] using this
    · simpa [Addr.add, h0] using this
  · obtain ⟨j, hj, rfl⟩ := List.mem_iff_getElem.1 hu
    exact (key j _ (List.getElem?_eq_getElem hj)).2.2

/-- What is appended, as it is read. -/
theorem append_view {K : Nat → Prop} {t : TypeId} {w0 w w' : World} {B g cap b off : Nat} {v : Value} {D : EqL} {xs : List Value} {G : Nat → Nat} {s1 s2 : List (List Int × List Int)}
    (hx : ∀ e, e < s1.length * 2 → ∃ d, xs[e]? = some (.slice (some ⟨G e, 0, none⟩) ((fl2 D).m e) d) ∧ (fl2 D).m e ≤ d ∧ B ≤ G e ∧ v.ownBlock ≠ some (G e) ∧ OwnI w B (G e) ((fl2 D).m e) d ((fl2 D).L e) ((fl2 D).m e)) (hlen : xs.length = s1.length * 2) (hg : w.grownBy w' v.ownBlock)
    (hD : ∀ i, i < s1.length → D.m1 i = (s1.getD i ([], [])).1.length ∧ D.m2 i = (s1.getD i ([], [])).2.length ∧ (∀ k, k < D.m1 i → D.L1 i k = fnL (s1.getD i ([], [])).1 k) ∧ (∀ k, k < D.m2 i → D.L2 i k = fnL (s1.getD i ([], [])).2 k))
    (h2 : ∀ i, i < s2.length → PairAt K w0 b (off + i * 2) (s2.getD i ([], []))) (hb : Below w0.heap.size w0 w') (hc : ∀ j, j < s2.length * 2 → w.cell? ⟨b, off + j, none⟩ = w0.cell? ⟨b, off + j, none⟩)
    (ho : w'.ownsRow B t 2 (.slice (some ⟨g, 0, none⟩) (s1.length + s2.length) cap) (s1.length + s2.length) (xs ++ cellsL w b off (s2.length * 2))) (hn : 0 < s1.length + s2.length) (hlo : ∀ g, B ≤ g → K g) :
    PairV K w' (.slice (some ⟨g, 0, none⟩) (s1.length + s2.length) cap) (s1 ++ s2) := by
  have hcap : s1.length + s2.length ≤ cap := by
    rcases ho.2 with ⟨h0, h1⟩ | ⟨g', cap', cur, hv, _, hgg, hc', _⟩
    · omega
    · injection hv with h1 h2 h3; omega
  refine ⟨_, cap, by rw [List.length_append], by rw [List.length_append]; exact hcap, fun _ => ⟨g, 0, rfl, (ho.lt g rfl).2, hlo _ (ho.lt g rfl).1, fun i hi => ?_⟩⟩
  rw [List.length_append] at hi
  by_cases h1 : i < s1.length
  · have hgd : (s1 ++ s2).getD i ([], []) = s1.getD i ([], []) := by
      rw [List.getD_eq_getElem?_getD, List.getElem?_append_left h1, List.getD_eq_getElem?_getD]
    rw [hgd]
    obtain ⟨d1, a1, a2, a3, a4, a5⟩ := hx (i * 2) (by omega)
    obtain ⟨d2, b1, b2, b3, b4, b5⟩ := hx (i * 2 + 1) (by omega)
    rw [fl2_m0] at a1 a2 a5
    rw [fl2_L0] at a5
    rw [fl2_m1] at b1 b2 b5
    rw [fl2_L1] at b5
    obtain ⟨e1, e2, e3, e4⟩ := hD i h1
    refine ⟨G (i * 2), 0, d1, G (i * 2 + 1), 0, d2, ?_, ?_, ?_, ?_, by omega, by omega, hlo _ a3, hlo _ b3⟩
    · rw [Nat.zero_add, ho.cellAt _ (by omega), List.getElem?_append_left (by omega), ← e1]; exact a1
    · rw [Nat.zero_add, ho.cellAt _ (by omega), List.getElem?_append_left (by omega), ← e2]; exact b1
    · rw [← e1]; exact (a5.grownV hg a4).ints.same (fun k hk => e3 k hk)
    · rw [← e2]; exact (b5.grownV hg b4).ints.same (fun k hk => e4 k hk)
  · obtain ⟨j, rfl⟩ : ∃ j, i = s1.length + j := ⟨i - s1.length, by omega⟩
    have hgd : (s1 ++ s2).getD (s1.length + j) ([], []) = s2.getD j ([], []) := by
      rw [List.getD_eq_getElem?_getD, List.getElem?_append_right (by omega), List.getD_eq_getElem?_getD]
      congr 2; omega
    rw [hgd]
    have hj : j < s2.length := by omega
    obtain ⟨g1, o1, c1, g2, o2, c2, k1, k2, k3, k4, k5⟩ := h2 j hj
    refine ⟨g1, o1, c1, g2, o2, c2, ?_, ?_, k3.keep hb, k4.keep hb, k5⟩
    · rw [Nat.zero_add, ho.cellAt _ (by omega), List.getElem?_append_right (by omega), cellsL_at (by omega), hc _ (by omega)]
      rw [show off + ((s1.length + j) * 2 - xs.length) = off + j * 2 by omega, k1]; rfl
    · rw [Nat.zero_add, ho.cellAt _ (by omega), List.getElem?_append_right (by omega), cellsL_at (by omega), hc _ (by omega)]
      rw [show off + ((s1.length + j) * 2 + 1 - xs.length) = off + j * 2 + 1 by omega, k2]; rfl

end Go.Proofs.Ytenlogljpgdbpaa

/- Contracts: the model's l6Term and l6Apply, where the binding may be nothing. -/
namespace Go.Proofs.Ytenlogljpgdbpaa
open Go.RowKit

set_option maxRecDepth 20000 in
set_option maxHeartbeats 1600000 in
theorem l6TermO (p1 p2 : Option Addr) (E m c1 c2 : Nat) (V : Nat → Int) (D : LsL) (v : Int) (w : World) (he : Two w E (.slice p1 m c1) (.slice p2 m c2)) (h1 : RowV w p1 m V) (h2 : MatV w p2 m D) (hm : m ≤ 1048576) :
    Calls Try.prog 59 #[.pointer (some ⟨E, 0, none⟩), .int .i64 v] w fun e w' => (∃ p c, e = .returned (.slice p (bdM m V D v).length c) ∧ MayL w' p (bdM m V D v)) ∧ Below w.heap.size w w' := by
  have X := hidden he
  have I1 := hidden h1
  have I2 := hidden h2
  clear he h1 h2
  go_enter Try.func59, Try.ntmps59
  go_wp2
  go_loopw [5] (fun i wr => ∃ k : Nat, k ≤ m ∧ i = .int .i64 (k : Nat) ∧ Hid ((∀ j, j < k → V j ≠ v) ∧ Below w.heap.size w wr)) (fun i _ => m - (intOf i).toNat)
  case atStart => exact ⟨0, Nat.zero_le _, rfl, hidden ⟨fun j hj => by omega, Below.refl _ _⟩⟩
  case round =>
    obtain ⟨k, hk, rfl, HI⟩ := hrel
    have x0 := (X.out.keep HI.out.2).c0
    have x1 := (X.out.keep HI.out.2).c1
    by_cases hlt : k < m
    · obtain ⟨b1, o1, rfl, hi1⟩ := I1.out.resolve_left (by omega)
      obtain ⟨b2, o2, rfl, hi2⟩ := I2.out.resolve_left (by omega)
      have HI2 := hidden hi2
      have d1 := (hi1.keep HI.out.2).cell k hlt
      clear hi1 hi2
      by_cases hv : V k = v
      · have HB := hidden (bdM_some (D := D) (bdI_first HI.out.1 hv m hlt))
        obtain ⟨g, o, c, e1, i1, _⟩ := (HI2.out.keep HI.out.2).row k hlt
        have J := hidden i1
        clear i1
        rw [hv] at d1
        clear hv
        go_wp2
        go_ret
        exact ⟨⟨_, _, by rw [HB.out, upto_length]; rfl, by rw [HB.out]; exact J.out.mayL⟩, HI.out.2⟩
      · have HV := hidden hv
        have hv' : (V k == v) = false := by simpa using hv
        clear hv
        go_wp2
        go_roundw
        case rel => exact ⟨k + 1, by omega, by go_num, hidden ⟨fun j hj => by
          by_cases e : j = k
          · rw [e]; exact HV.out
          · exact HI.out.1 j (by omega), HI.out.2⟩⟩
        case measure => simp [intOf]; omega
    · have HB := hidden (bdM_none (D := D) (bdI_none (V := V) (v := v) m (fun i hi => HI.out.1 i (by omega))))
      go_wp2
      go_ret
      exact ⟨⟨none, 0, by rw [HB.out]; rfl, Or.inl (by rw [HB.out]; rfl)⟩, HI.out.2⟩

set_option maxRecDepth 20000 in
set_option maxHeartbeats 3200000 in
theorem l6ApplyO (p1 p2 : Option Addr) (E m c1 c2 b off k c : Nat) (V : Nat → Int) (D : LsL) (T : Nat → Int) (w : World) (he : Two w E (.slice p1 m c1) (.slice p2 m c2)) (h1 : RowV w p1 m V) (h2 : MatV w p2 m D) (hm : m ≤ 1048576) (h : Ints w b off k T) (h24 : k ≤ 24) (hx : ∀ i, i < k → -12 ≤ T i) (hd : ∀ i, i < m → D.m i ≤ 24) :
    Calls Try.prog 46 #[.pointer (some ⟨E, 0, none⟩), .slice (some ⟨b, off, none⟩) k c] w fun e w' => ∃ g d, e = .returned (.slice (some ⟨g, 0, none⟩) (putL (bdN m V D) T k).length d) ∧ OwnL w' w.heap.size g d (putL (bdN m V D) T k) ∧ Below w.heap.size w w' := by
  have HO := hidden (show OwnL (w.alloc (.cells #[] 2)) w.heap.size w.heap.size 0 [] from ⟨Nat.le_refl _, World.ownsRow_made w #[] 0 (Nat.le_refl _) (Nat.zero_le _) rfl⟩)
  have X := hidden he
  have I1 := hidden h1
  have I2 := hidden h2
  have H := hidden h
  have HX := hidden hx
  have HL := hidden (show ∀ v, (bdN m V D v).length ≤ 24 from fun v => bdM_len hd (v : Int))
  clear he h1 h2 h hx hd
  generalize hM : bdN m V D = M at HL ⊢
  have HM := hidden hM
  clear hM
  go_enter Try.func46, Try.ntmps46
  go_wp2
  go_loopw [5, 6] (fun o i wr => ∃ (j g d n : Nat), j ≤ k ∧ i = .int .i64 j ∧ o = .slice (some ⟨g, 0, none⟩) n d ∧ n ≤ 1048576 ∧ Hid (n = (putL M T j).length ∧ OwnL wr w.heap.size g d (putL M T j) ∧ Below w.heap.size w wr)) (fun _ i _ => k - (intOf i).toNat)
  case atStart => exact ⟨0, _, _, _, Nat.zero_le _, rfl, rfl, Nat.zero_le _, hidden ⟨rfl, HO.out, alloc_below _ _⟩⟩
  case round =>
    clear HO
    obtain ⟨j, g, d, n, hj, rfl, rfl, hn, HI⟩ := hrel
    by_cases hlt : j < k
    · have hlen := (putL_len HL.out T j).2
      have hn24 : n ≤ 24 * 24 := by have := HI.out.1; omega
      have hlen1 := (putL_len HL.out T (j + 1)).2
      have HN1 := hidden (show (putL M T (j + 1)).length ≤ 1048576 by omega)
      clear hlen hlen1
      have O1 := hidden (show wr.ownsRow w.heap.size 2 1 (.slice (some ⟨g, 0, none⟩) n d) n ((putL M T j).map (fun x => Value.int .i64 x)) by have h1 := HI.out.2.1.own; rw [← HI.out.1] at h1; exact h1)
      have B1 := hidden HI.out.2.2
      have HNL := hidden HI.out.1
      clear HI
      have ab := alloc_below wr (.cells #[] 2)
      have O2 := hidden (O1.out.alloc (.cells #[] 2))
      have B2 := hidden (keepB B1.out ab)
      have z1 := (H.out.keep B2.out).cell j hlt
      clear ab
      by_cases hv : T j < 0
      · obtain ⟨v, hv'⟩ : ∃ v : Nat, T j = -1 - (v : Int) := ⟨(-1 - T j).toNat, by omega⟩
        have h12 := HX.out j hlt
        have HE := hidden (nodL_var (M := M) (v := v))
        have HTJ := hidden hv'
        rw [hv'] at z1 h12
        rw [← HTJ.out] at HE
        clear hv hv'
        have S := hidden (l6TermO p1 p2 E m c1 c2 V D (-1 - (-1 - (v : Int))) _ (X.out.keep B2.out) (I1.out.keep B2.out) (I2.out.keep B2.out) hm)
        rw [show bdM m V D (-1 - (-1 - (v : Int))) = M v by rw [← HM.out, show (-1 - (-1 - (v : Int))) = (v : Int) by omega]; rfl] at S
        go_wp2_with fail
        with_reducible refine S.out.mono ?_
        rintro e w3 ⟨⟨p, cc, rfl, hp⟩, hb⟩
        have O3 := hidden (ownsRow_upon O2.out hb)
        have B3 := hidden (keepB B2.out hb)
        have z2 := (H.out.keep B3.out).cell j hlt
        rw [HTJ.out] at z2
        have hl24 := HL.out v
        clear hb z1 S
        by_cases h0 : M v = []
        · replace HE := hidden (HE.out.trans (if_neg (fun x => x h0)))
          have hz : (M v).length = 0 := by rw [h0]; rfl
          rw [hz]
          clear hp hz h0 hl24
          go_wp2_with (at_builtin; refine wpList_append_own _ rfl _ _ 25 rfl w.heap.size 2 _ (.int .i64 0) 1 8 Try.underlying25 rfl rfl rfl rfl rfl (by decide) _ _ _ rfl (O3.out.alloc _) ⟨_, 0, none⟩ 1 1 [.int .i64 (-1 - (v : Int))] rfl (by simp) (one_srcI _ _ _) (oneValI _) (by unfold maxLen; omega) (by omega) (by have := B3.out.size; simp; omega) ?_)
          intro v2 w4 hown hgrow hnil
          obtain ⟨g2, d2, rfl, ho, hb⟩ := ownL_open (l := putL M T (j + 1)) hown (by rw [putL, HE.out, List.length_append, ← HNL.out]; rfl) (by rw [putL, HE.out, HTJ.out]; simp) (by simpa using hnil) ((B3.out.alloc B3.out.size _).grown hgrow (by have := B3.out.size; simp; omega) (ownsRow_le O3.out))
          obtain ⟨n2, hn2⟩ : ∃ n2, n2 = (putL M T (j + 1)).length := ⟨_, rfl⟩
          have HF := hidden (And.intro hn2 (And.intro ho hb))
          rw [← hn2]
          clear hown hgrow hnil ho hb z2 hn2
          go_wp2
          go_roundw
          case rel => exact ⟨j + 1, g2, d2, n2, by omega, by go_num, rfl, by have := HN1.out; have := HF.out.1; omega, HF⟩
          case measure => simp [intOf]; omega
        · replace HE := hidden (HE.out.trans (if_pos h0))
          have hz : 0 < (M v).length := List.length_pos_iff.2 h0
          rcases hp with hp | ⟨b3, o3, rfl, hi⟩
          · omega
          have HI := hidden hi
          obtain ⟨q, hq⟩ : ∃ q, q = (M v).length := ⟨_, rfl⟩
          have HK := hidden hq
          rw [← hq] at hz hl24 ⊢
          have hz' : ((q : Int) == 0) = false := by simp; omega
          clear h0 hi hq
          go_wp2_with (at_builtin; refine wpList_append_own _ rfl _ _ 25 rfl w.heap.size 2 _ (.int .i64 0) 1 8 Try.underlying25 rfl rfl rfl rfl rfl (by decide) _ _ _ rfl O3.out ⟨b3, o3, none⟩ q cc ((M v).map (fun x => Value.int .i64 x)) rfl (by simp [HK.out]) (by rw [← vals_list]; exact HI.out.src0) (by intro u hu; simp at hu; obtain ⟨a, _, rfl⟩ := hu; rfl) (by unfold maxLen; omega) (by omega) B3.out.size ?_)
          intro v2 w4 hown hgrow hnil
          obtain ⟨g2, d2, rfl, ho, hb⟩ := ownL_open (l := putL M T (j + 1)) hown (by rw [putL, HE.out, List.length_append, ← HNL.out, HK.out]) (by rw [putL, HE.out]; simp) (by first | exact hnil | simpa using hnil) (B3.out.grown hgrow B3.out.size (ownsRow_le O3.out))
          obtain ⟨n2, hn2⟩ : ∃ n2, n2 = (putL M T (j + 1)).length := ⟨_, rfl⟩
          have HF := hidden (And.intro hn2 (And.intro ho hb))
          rw [← hn2]
          clear hown hgrow hnil ho hb z2 hn2
          go_wp2
          go_roundw
          case rel => exact ⟨j + 1, g2, d2, n2, by omega, by go_num, rfl, by have := HN1.out; have := HF.out.1; omega, HF⟩
          case measure => simp [intOf]; omega
      · have HE := hidden (nodL_sym (M := M) (x := T j) (by omega))
        go_wp2_with (at_builtin; refine wpList_append_own _ rfl _ _ 25 rfl w.heap.size 2 _ (.int .i64 0) 1 8 Try.underlying25 rfl rfl rfl rfl rfl (by decide) _ _ _ rfl (O2.out.alloc _) ⟨_, 0, none⟩ 1 1 [.int .i64 (T j)] rfl (by simp) (by intro j' u hu; have := one_srcI (wr.alloc (.cells #[] 2)) (.int .i64 (T j)) 2 j' u hu; rw [World.size_alloc] at this; exact this) (oneValI _) (by unfold maxLen; omega) (by omega) (by have := B1.out.size; simp; omega) ?_)
        intro v2 w4 hown hgrow hnil
        obtain ⟨g2, d2, rfl, ho, hb⟩ := ownL_open (l := putL M T (j + 1)) hown (by rw [putL, HE.out, List.length_append, ← HNL.out]; rfl) (by rw [putL, HE.out]; simp) (by simpa using hnil) ((B2.out.alloc B2.out.size _).grown hgrow (by have := B1.out.size; simp; omega) (ownsRow_le O2.out))
        obtain ⟨n2, hn2⟩ : ∃ n2, n2 = (putL M T (j + 1)).length := ⟨_, rfl⟩
        have HF := hidden (And.intro hn2 (And.intro ho hb))
        rw [← hn2]
        clear hown hgrow hnil ho hb z1 hn2
        go_wp2
        go_roundw
        case rel => exact ⟨j + 1, g2, d2, n2, by omega, by go_num, rfl, by have := HN1.out; have := HF.out.1; omega, HF⟩
        case measure => simp [intOf]; omega
    · obtain rfl : k = j := by omega
      go_wp2
      go_ret
      exact ⟨g, d, by rw [← HI.out.1]; rfl, HI.out.2.1, HI.out.2.2⟩

end Go.Proofs.Ytenlogljpgdbpaa

/- One step of the machine that unifies, case by case. -/
namespace Go.Proofs.Ytenlogljpgdbpaa
open Go.RowKit

theorem upto_fnL (l : List Int) : upto (fnL l) l.length = l := upto_self l
theorem sameI_yes (l : List Int) : sameI l.length l.length (fnL l) (fnL l) = true := by unfold sameI; simp
theorem sameI_no {x y : List Int} (h : x ≠ y) : sameI x.length y.length (fnL x) (fnL y) = false := by
  unfold sameI
  simp only [decide_eq_false_iff_not]
  rintro ⟨hl, he⟩
  refine h (List.ext_getElem hl fun i h1 h2 => ?_)
  have := he i h1
  simpa [fnL, List.getD_eq_getElem?_getD, List.getElem?_eq_getElem h1, List.getElem?_eq_getElem h2] using this

section
variable {A : Nat → Int} {f : Nat} {M : Nat → List Int} {p : List Int × List Int} {s : List (List Int × List Int)} {R : Int × (Nat → List Int)}
theorem uRun_code {c : Int} (h : uRun A (f + 1) M (p :: s) = some R) (hs : uStep A M p.1 p.2 = .inl c) : R = (c, fun _ => []) := by
  simp only [uRun, hs] at h; exact (Option.some.inj h).symm
theorem uRun_step {M' : Nat → List Int} {ps : List (List Int × List Int)} (h : uRun A (f + 1) M (p :: s) = some R) (hs : uStep A M p.1 p.2 = .inr (M', ps)) : uRun A f M' (ps ++ s) = some R := by
  simp only [uRun, hs] at h; exact h
end
section
variable {A : Nat → Int} {M : Nat → List Int} {a b x y : List Int}
theorem uStep_long (hx : x = apL M a) (hy : y = apL M b) (h : 24 < x.length ∨ 24 < y.length) : uStep A M a b = .inl 2 := by
  subst hx; subst hy; rw [uStep, if_pos h]
theorem uStep_same (hx : x = apL M a) (hy : y = apL M b) (h : ¬ (24 < x.length ∨ 24 < y.length)) (he : x = y) : uStep A M a b = .inr (M, []) := by
  rw [uStep, if_neg (by rw [← hx, ← hy]; exact h), if_pos (by rw [← hx, ← hy]; exact he)]
theorem uStep_varx (hx : x = apL M a) (hy : y = apL M b) (h : ¬ (24 < x.length ∨ 24 < y.length)) (he : x ≠ y) (h0 : fnL x 0 < 0) : uStep A M a b = uBind M (-1 - fnL x 0).toNat y := by
  subst hx; subst hy; rw [uStep, if_neg h, if_neg he, if_pos h0]
theorem uStep_vary (hx : x = apL M a) (hy : y = apL M b) (h : ¬ (24 < x.length ∨ 24 < y.length)) (he : x ≠ y) (h0 : ¬ fnL x 0 < 0) (h1 : fnL y 0 < 0) : uStep A M a b = uBind M (-1 - fnL y 0).toNat x := by
  subst hx; subst hy; rw [uStep, if_neg h, if_neg he, if_neg h0, if_pos h1]
theorem uStep_none (hx : x = apL M a) (hy : y = apL M b) (h : ¬ (24 < x.length ∨ 24 < y.length)) (he : x ≠ y) (h0 : ¬ fnL x 0 < 0) (h1 : ¬ fnL y 0 < 0) (h2 : fnL x 0 ≠ fnL y 0) : uStep A M a b = .inl 4 := by
  subst hx; subst hy; rw [uStep, if_neg h, if_neg he, if_neg h0, if_neg h1, if_pos h2]
theorem uStep_args (hx : x = apL M a) (hy : y = apL M b) (h : ¬ (24 < x.length ∨ 24 < y.length)) (he : x ≠ y) (h0 : ¬ fnL x 0 < 0) (h1 : ¬ fnL y 0 < 0) (h2 : fnL x 0 = fnL y 0) : uStep A M a b = .inr (M, argPs A x y) := by
  subst hx; subst hy; rw [uStep, if_neg h, if_neg he, if_neg h0, if_neg h1, if_neg (by simp [h2])]
end

/-- A variable that stands in what was put in is not bound. -/
theorem head_free {n : Nat} {A : Nat → Int} {M : Nat → List Int} {a x : List Int} {v : Nat} (hM : UnM n A M) (hx : x = apL M a) (ht : TrmL n A x) (hv : fnL x 0 = -1 - (v : Int)) : M v = [] := by
  have hf := apL_isFree hM.idem a
  rw [← hx] at hf
  exact hf v (by rw [← hv]; exact trmL_head ht)

theorem UnM.lows {n : Nat} {A : Nat → Int} {M : Nat → List Int} (h : UnM n A M) : (∀ x, (M x).length ≤ 24) ∧ ∀ x y, y ∈ M x → -12 ≤ y := by
  refine ⟨fun x => ?_, fun x y hy => ?_⟩
  · by_cases h0 : M x = []
    · rw [h0]; simp
    · exact (h.trm x h0).nods.most
  · have h0 : M x ≠ [] := fun e => by rw [e] at hy; cases hy
    obtain ⟨i, hi, rfl⟩ := List.mem_iff_getElem.1 hy
    have := (h.trm x h0).nods.node i hi
    have e : fnL (M x) i = (M x)[i] := by simp [fnL, List.getD_eq_getElem?_getD, List.getElem?_eq_getElem hi]
    rw [e] at this
    rcases nodeB_cases this with ⟨j, e, _⟩ | ⟨h1, _⟩
    · omega
    · exact h1

end Go.Proofs.Ytenlogljpgdbpaa

/- How many pairs wait at most. -/
namespace Go.Proofs.Ytenlogljpgdbpaa
open Go.RowKit

/-- Each pair that waits has few behind it. -/
def okS (C : Nat) (M : Nat → List Int) : List (List Int × List Int) → Prop
  | [] => True
  | p :: s => s.length + min 24 (apL M p.1).length ≤ C ∧ okS C M s

theorem okS_le {C C' : Nat} {M : Nat → List Int} (hC : C ≤ C') : ∀ {s : List (List Int × List Int)}, okS C M s → okS C' M s
  | [], _ => trivial
  | _ :: _, h => ⟨Nat.le_trans h.1 hC, okS_le hC h.2⟩

theorem okS_bind {C : Nat} {M M' : Nat → List Int} : ∀ {s : List (List Int × List Int)}, okS C M s → okS (C + 24) M' s
  | [], _ => trivial
  | p :: s, h => ⟨by have := h.1; have : min 24 (apL M' p.1).length ≤ 24 := Nat.min_le_left _ _; omega, okS_bind h.2⟩

theorem okS_len {C : Nat} {M : Nat → List Int} : ∀ {s : List (List Int × List Int)}, okS C M s → s.length ≤ C + 1
  | [], _ => by simp
  | p :: s, h => by have := h.1; simp only [List.length_cons]; omega

def sz1 (M : Nat → List Int) (s : List (List Int × List Int)) : Nat := (s.map fun p => (apL M p.1).length).sum

theorem okS_app {C : Nat} {M : Nat → List Int} {s : List (List Int × List Int)} (h : okS C M s) : ∀ (ps : List (List Int × List Int)), (∀ p, p ∈ ps → 1 ≤ (apL M p.1).length) → s.length + sz1 M ps ≤ C → okS C M (ps ++ s) ∧ ps.length ≤ sz1 M ps
  | [], _, _ => ⟨h, by simp [sz1]⟩
  | q :: qs, h1, h2 => by
    have hq := h1 q (List.mem_cons_self ..)
    have e : sz1 M (q :: qs) = (apL M q.1).length + sz1 M qs := by simp [sz1]
    obtain ⟨i1, i2⟩ := okS_app h qs (fun p hp => h1 p (List.mem_cons_of_mem _ hp)) (by omega)
    refine ⟨⟨?_, i1⟩, ?_⟩
    · have : min 24 (apL M q.1).length ≤ (apL M q.1).length := Nat.min_le_right _ _
      show (qs ++ s).length + _ ≤ C
      rw [List.length_append]; omega
    · simp only [List.length_cons]; omega

theorem okS_args {n C : Nat} {A : Nat → Int} {M : Nat → List Int} {p : List Int × List Int} {s : List (List Int × List Int)} {x y : List Int} (hx : TrmL n A x) (hf : FreeL M x) (he : x = apL M p.1) (h24 : x.length ≤ 24) (h : okS C M (p :: s)) : okS C M (argPs A x y ++ s) := by
  have e1 : ∀ k, k < aOf A (fnL x) 0 → apL M (argL A x k) = argL A x k := fun k hk => apL_free (argL_free hx hf hk)
  have h1 := h.1
  rw [← he, Nat.min_eq_right h24] at h1
  have hall := argL_all hx
  refine (okS_app h.2 _ (fun q hq => ?_) ?_).1
  · obtain ⟨k, hk, rfl⟩ := List.mem_map.1 hq
    have hk' := List.mem_range.1 hk
    simp only [e1 k hk']
    exact (argL_trm hx hk').pos
  · have : sz1 M (argPs A x y) = ((List.range (aOf A (fnL x) 0)).map (fun i => (argL A x i).length)).sum := by
      unfold sz1 argPs
      rw [List.map_map]
      congr 1
      refine List.map_congr_left fun k hk => ?_
      show (apL M (argL A x k)).length = _
      rw [e1 k (List.mem_range.1 hk)]
    omega

theorem ubN_le (M : Nat → List Int) : ubN M ≤ 12 := by
  unfold ubN
  have := List.length_filter_le (fun v => (M v).isEmpty) (List.range 12)
  simpa using this

/-- The bound of what waits. -/
def okU (M : Nat → List Int) (s : List (List Int × List Int)) : Prop := okS (24 * (13 - ubN M)) M s

theorem okU_len {M : Nat → List Int} {s : List (List Int × List Int)} (h : okU M s) : s.length ≤ 313 := by
  have := okS_len h
  omega

theorem okU_tail {M : Nat → List Int} {p : List Int × List Int} {s : List (List Int × List Int)} (h : okU M (p :: s)) : okU M s := h.2

theorem okU_bind {M M' : Nat → List Int} {s : List (List Int × List Int)} (h : okU M s) (hu : ubN M' < ubN M) : okU M' s :=
  okS_le (by have := ubN_le M; omega) (okS_bind (M' := M') h)

theorem okU_first {M : Nat → List Int} {p : List Int × List Int} : okU M [p] :=
  ⟨by have := ubN_le M; have : min 24 (apL M p.1).length ≤ 24 := Nat.min_le_left _ _; simp only [List.length_nil]; omega, trivial⟩

theorem okU_args {n : Nat} {A : Nat → Int} {M : Nat → List Int} {p : List Int × List Int} {s : List (List Int × List Int)} {x y : List Int} (hM : UnM n A M) (hx : TrmL n A x) (he : x = apL M p.1) (h24 : x.length ≤ 24) (h : okU M (p :: s)) : okU M (argPs A x y ++ s) :=
  okS_args hx (by rw [he]; exact apL_isFree hM.idem _) he h24 h

end Go.Proofs.Ytenlogljpgdbpaa

/- Contract: the model's l6Unify. -/
namespace Go.Proofs.Ytenlogljpgdbpaa
open Go.RowKit

/-- What l6Unify answers: what the machine tells. -/
def UnAns (w : World) (A : Nat → Int) (x y : List Int) (e : Ending) (w' : World) : Prop :=
  ∃ f R, uRun A f (fun _ => []) [(x, y)] = some R ∧ ((R.1 ≠ 0 ∧ e = .returned (.tuple #[.agg #[.slice none 0 0, .slice none 0 0], .int .i64 R.1])) ∨ (R.1 = 0 ∧ ∃ va ta lo, e = .returned (.tuple #[.agg #[va, ta], .int .i64 0]) ∧ w.heap.size ≤ lo ∧ Bd w' lo R.2 va ta))

theorem trmL_upto {n : Nat} {A T : Nat → Int} {m : Nat} (h : Trm n A m T) : TrmL n A (upto T m) := by
  unfold TrmL
  rw [upto_length]
  refine ⟨h.sig, h.pos, ⟨h.nods.few, h.nods.ar, h.nods.most, fun i hi => ?_⟩, ?_⟩
  · rw [fnL_upto _ _ _ hi]; exact h.nods.node i hi
  · have := skip_shift (aOf A T) (aOf A (fnL (upto T m))) m m _ 0 0 1 m (Nat.le_refl _) h.whole (fun i hi => by
      unfold aOf
      rw [Nat.zero_add, fnL_upto _ _ _ (by omega)]) (by omega)
    rw [this]; simp

theorem ownL_keep {w w' : World} {B g d : Nat} {l : List Int} (h : OwnL w B g d l) (hb : Below w.heap.size w w') : OwnL w' B g d l :=
  ⟨h.base, ownsRow_later h.own hb h.lt⟩

theorem trmL_low {n : Nat} {A : Nat → Int} {l : List Int} (h : TrmL n A l) : ∀ i, i < l.length → -12 ≤ fnL l i := fun i hi => by
  rcases nodeB_cases (h.nods.node i hi) with ⟨j, e, _⟩ | ⟨h1, _⟩
  · omega
  · exact h1

theorem UnM.lens {n : Nat} {A : Nat → Int} {M : Nat → List Int} (h : UnM n A M) : ∀ i, i < cR M → (cnD M 12).m i ≤ 24 := fun i hi => by
  obtain ⟨x, hx, _, hne⟩ := cV_get hi
  rw [(cnD_m hx).1]; exact (h.trm x hne).nods.most

theorem One.later {w w' : World} {b B : Nat} {v : Value} (h : One w b v) (hb : Below B w w') (hB : b < B) : One w' b v :=
  ⟨Nat.lt_of_lt_of_le h.blk hb.size, by rw [hb.cell (p := ⟨b, 0, none⟩) hB]; exact h.c0⟩
theorem Own2.later {w w' : World} {b B : Nat} {x y : Value} (h : Own2 w b x y) (hb : Below B w w') (hB : b < B) : Own2 w' b x y :=
  ⟨⟨Nat.lt_of_lt_of_le h.two.blk hb.size, by rw [hb.cell (p := ⟨b, 0, none⟩) hB]; exact h.two.c0, by rw [hb.cell (p := ⟨b, 1, none⟩) hB]; exact h.two.c1⟩, by rw [hb.frozen (p := ⟨b, 0, none⟩) hB]; exact h.f0, by rw [hb.frozen (p := ⟨b, 1, none⟩) hB]; exact h.f1⟩

theorem unM_none {n : Nat} {A : Nat → Int} (h : Sound n A) : UnM n A (fun _ => []) := ⟨h, (fun _ _ hv => by cases hv), (fun _ hv => absurd rfl hv), fun _ _ => rfl⟩

set_option maxRecDepth 20000 in
set_option maxHeartbeats 12800000 in
theorem l6Unify_any (B b off n c b1 o1 m1 c1 b2 o2 m2 c2 : Nat) (N : Nat → ByteArray) (A L1 L2 : Nat → Int) (w : World) (hd : One w B (.slice (some ⟨b, off, none⟩) n c)) (h : Syms w b off n N A) (h1 : Ints w b1 o1 m1 L1) (h2 : Ints w b2 o2 m2 L2) (hg1 : Trm n A m1 L1) (hg2 : Trm n A m2 L2) :
    Calls Try.prog 38 #[.pointer (some ⟨B, 0, none⟩), .slice (some ⟨b1, o1, none⟩) m1 c1, .slice (some ⟨b2, o2, none⟩) m2 c2] w fun e w' => UnAns w A (upto L1 m1) (upto L2 m2) e w' ∧ Below w.heap.size w w' := by
  obtain ⟨f0, R, hR⟩ := uRun_ends (n := n) (A := A) _ _ (fun _ => []) [(upto L1 m1, upto L2 m2)] (Nat.le_refl _) (Nat.le_refl _) (unM_none hg1.sig) (fun p hp => by
    rw [List.mem_singleton] at hp; subst hp; exact ⟨trmL_upto hg1, trmL_upto hg2⟩)
  have HR := hidden hR
  have hm1 := hg1.nods.most
  have hm2 := hg2.nods.most
  have bA := alloc_below w (.cells #[.slice none 0 0, .slice none 0 0] 29)
  have bB := alloc_below (w.alloc (.cells #[.slice none 0 0, .slice none 0 0] 29)) (.cells #[.slice none 0 0, .slice none 0 0] 29)
  have r6 := (Own2.new w (.slice none 0 0) (.slice none 0 0) 29).keep bB
  have x8 := Own2.new (w.alloc (.cells #[.slice none 0 0, .slice none 0 0] 29)) (.slice none 0 0) (.slice none 0 0) 29
  simp only [World.size_alloc] at x8
  have BW := hidden (keepB bA bB)
  have R6 := hidden r6
  have X8 := hidden x8
  have LBB := hidden hd.blk
  have LQ := hidden h.blk
  have D := hidden (hd.keep BW.out)
  have Q := hidden (h.keep BW.out)
  have I1 := hidden (h1.keep BW.out)
  have I2 := hidden (h2.keep BW.out)
  have G1 := hidden hg1
  have G2 := hidden hg2
  clear hR bA bB r6 x8 hd h h1 h2 hg1 hg2
  go_enter Try.func38, Try.ntmps38
  go_wp2_with fail
  with_reducible refine (l1Ints_any _ _ _ _ L1 _ I1.out (by omega)).mono ?_
  rintro e w1 ⟨g1, d1, rfl, hg1, ho1, hb⟩
  replace BW := hidden (keepB BW.out hb)
  replace R6 := hidden (R6.out.keep hb)
  replace X8 := hidden (X8.out.keep hb)
  replace D := hidden (D.out.keep hb)
  replace Q := hidden (Q.out.keep hb)
  replace I2 := hidden (I2.out.keep hb)
  have O1 := hidden ho1
  have HG1 := hidden (show w.heap.size + 2 ≤ g1 from by simpa using hg1)
  have SZ1 := hidden (show w.heap.size + 2 ≤ w1.heap.size from by have := hb.size; simpa using this)
  clear hb ho1 I1
  go_wp2_with fail
  with_reducible refine (l1Ints_any _ _ _ _ L2 _ I2.out (by omega)).mono ?_
  rintro e w2 ⟨g2, d2, rfl, hg2, ho2, hb⟩
  replace BW := hidden (keepB BW.out hb)
  replace R6 := hidden (R6.out.keep hb)
  replace X8 := hidden (X8.out.keep hb)
  replace D := hidden (D.out.keep hb)
  replace Q := hidden (Q.out.keep hb)
  replace O1 := hidden (O1.out.keep hb)
  have O2 := hidden ho2
  have HG2 := hidden (show w.heap.size + 2 ≤ g2 from Nat.le_trans SZ1.out hg2)
  have SZ2 := hidden (show w.heap.size + 2 ≤ w2.heap.size from Nat.le_trans SZ1.out hb.size)
  clear hb ho2 I2
  have bP := alloc_below w2 (.cells #[.slice (some ⟨g1, 0, none⟩) m1 d1, .slice (some ⟨g2, 0, none⟩) m2 d2] 106)
  have K1 : m1 ≤ d1 := by obtain ⟨xs, hh, _⟩ := O1.out; rcases hh.2 with ⟨_, h0⟩ | ⟨g', cap, cur, hv, _, hgg, hc, _⟩; exact (by omega); injection hv with h1 h2 h3; omega
  have K2 : m2 ≤ d2 := by obtain ⟨xs, hh, _⟩ := O2.out; rcases hh.2 with ⟨_, h0⟩ | ⟨g', cap, cur, hv, _, hgg, hc, _⟩; exact (by omega); injection hv with h1 h2 h3; omega
  have LP := hidden (show w.heap.size + 2 ≤ g1 ∧ w.heap.size + 2 ≤ g2 ∧ w.heap.size + 2 ≤ w2.heap.size from ⟨HG1.out, HG2.out, SZ2.out⟩)
  have PV := hidden (show PairV (fun g => w.heap.size + 2 ≤ g) (w2.alloc (.cells #[.slice (some ⟨g1, 0, none⟩) m1 d1, .slice (some ⟨g2, 0, none⟩) m2 d2] 106)) (.slice (some ⟨w2.heap.size, 0, none⟩) 1 1) [(upto L1 m1, upto L2 m2)] from ⟨_, 1, rfl, Nat.le_refl _, fun _ => ⟨_, 0, rfl, by simp, LP.out.2.2, fun i hi => by
    obtain rfl : i = 0 := by simpa using hi
    exact ⟨g1, 0, d1, g2, 0, d2, by simp [upto_length, go_sem], by simp [upto_length, go_sem], by simp only [List.getD_cons_zero, upto_length]; exact (O1.out.keep bP).ints.same (fun k hk => (fnL_upto _ _ _ hk).symm), by simp only [List.getD_cons_zero, upto_length]; exact (O2.out.keep bP).ints.same (fun k hk => (fnL_upto _ _ _ hk).symm), by simp [upto_length]; exact K1, by simp [upto_length]; exact K2, LP.out.1, LP.out.2.1⟩⟩⟩)
  have X8L := hidden (show w.heap.size + 1 < w2.heap.size from X8.out.two.blk)
  have X9 := hidden (X8.out.keep bP)
  have R7 := hidden (R6.out.keep bP)
  have D7 := hidden (D.out.keep bP)
  have Q7 := hidden (Q.out.keep bP)
  have B7 := hidden (keepB BW.out bP)
  have TS := hidden (show ∀ p, p ∈ [(upto L1 m1, upto L2 m2)] → TrmL n A p.1 ∧ TrmL n A p.2 from fun p hp => by
    rw [List.mem_singleton] at hp; subst hp; exact ⟨trmL_upto G1.out, trmL_upto G2.out⟩)
  have UM := hidden (unM_none (n := n) (A := A) G1.out.sig)
  clear bP K1 K2 hg1 hg2 X8 R6 D Q BW O1 O2
  go_wp2
  obtain ⟨W, hW⟩ : ∃ W, W = w2.alloc (.cells #[.slice (some ⟨g1, 0, none⟩) m1 d1, .slice (some ⟨g2, 0, none⟩) m2 d2] 106) := ⟨_, rfl⟩
  rw [← hW] at X9 R7 D7 Q7 B7 PV ⊢
  clear hW
  have UA := hidden (fun f => show uRun A f (fun _ => []) [(upto L1 m1, upto L2 m2)] = some R → ∀ e w', ((R.1 ≠ 0 ∧ e = Ending.returned (.tuple #[.agg #[.slice none 0 0, .slice none 0 0], .int .i64 R.1])) ∨ (R.1 = 0 ∧ ∃ va ta lo, e = .returned (.tuple #[.agg #[va, ta], .int .i64 0]) ∧ w.heap.size ≤ lo ∧ Bd w' lo R.2 va ta)) → UnAns w A (upto L1 m1) (upto L2 m2) e w' from fun h e w' h2 => ⟨f, R, h, h2⟩)
  go_loopg [9] f0 (fun f v wr => ∃ (M : Nat → List Int) (s : List (List Int × List Int)) (va ta : Value), Hid (uRun A f M s = some R) ∧ Hid (UnM n A M) ∧ Hid (∀ p, p ∈ s → TrmL n A p.1 ∧ TrmL n A p.2) ∧ Hid (PairV (fun g => w.heap.size + 2 ≤ g) wr v s) ∧ Hid (Own2 wr (w.heap.size + 1) va ta) ∧ Hid (Bd wr (w.heap.size + 2) M va ta) ∧ Hid (Below (w.heap.size + 1) W wr) ∧ Hid (okU M s))
  case atStart => exact ⟨_, _, _, _, HR, UM, TS, PV, X9, hidden (Or.inl ⟨by decide, rfl, rfl⟩), hidden (Below.refl _ _), hidden okU_first⟩
  case round =>
    obtain ⟨M, s, va, ta, HU, UM, TS, PV, X9, BD, BL, OK⟩ := hrel
    have hu := HU.out
    cases gk with
    | zero => exact absurd hu (by simp [uRun])
    | succ f =>
    cases s with
    | nil =>
      have hR0 : R = (0, M) := by simp only [uRun, Option.some.injEq] at hu; exact hu.symm
      have HR0 := hidden hR0
      obtain ⟨q, cq, hq, _, _⟩ := PV.out
      obtain ⟨qa, ca, qb, cb, rfl, rfl, _⟩ := BD.out.at
      simp only [List.length_nil] at hq
      subst hq
      have hsz := BL.out.size
      have hws := B7.out.size
      obtain ⟨⟨_, q0, q1⟩, f0', f1'⟩ := R7.out.later BL.out (by omega)
      have y0 := X9.out.two.c0
      have y1 := X9.out.two.c1
      have BF := hidden (show Below w.heap.size w wr from ⟨BL.out.os.trans B7.out.os, BL.out.tape.trans B7.out.tape, BL.out.output.trans B7.out.output, by omega, fun k hk => (BL.out.block k (by omega)).trans (B7.out.block k hk)⟩)
      clear hu hR0
      go_wp2
      refine bodyPost_ret (v := .tuple #[.agg #[.slice qa (cR M) ca, .slice qb (cR M) cb], .int .i64 0]) (by simp [results, Try.results38, go_sem, q0, q1]) rfl ⟨UA.out f0 HR.out _ _ (Or.inr ⟨by rw [HR0.out], _, _, w.heap.size + 2, rfl, by omega, ?_⟩), (BF.out.setCell (by simp) _).setCell (by simp) _⟩
      rw [HR0.out]
      exact (BD.out.far _ _ (by simp)).far _ _ (by simp)
    | cons p s =>
      obtain ⟨b3, o3, c3, rfl, hc3, hb3, hpa, htl, htl0⟩ := PV.out.head
      obtain ⟨ga, oa, ca, gb, ob, cb, k1, k2, k3, k4, k5, k6⟩ := hpa
      obtain ⟨qa, xa, qb, xb, rfl, rfl, hat⟩ := BD.out.at
      have hta := (TS.out p (List.mem_cons_self ..)).1
      have htb := (TS.out p (List.mem_cons_self ..)).2
      have HTA := hidden hta
      have HTB := hidden htb
      have l1 := hta.nods.most
      have l2 := htb.nods.most
      have IA := hidden k3
      have IB := hidden k4
      have HTL := hidden htl
      have HTL0 := hidden htl0
      have KK := hidden (And.intro k1 k2)
      have RV := hidden (show RowV wr qa (cR M) (cV M) from by
        rcases hat.rows with h | ⟨b1, o1, b2, o2, e1, e2, h1, h2⟩
        · exact Or.inl h
        · exact Or.inr ⟨b1, o1, e1, h1⟩)
      have MV := hidden (show MatV wr qb (cR M) (cnD M 12) from by
        rcases hat.rows with h | ⟨b1, o1, b2, o2, e1, e2, h1, h2⟩
        · exact Or.inl h
        · exact Or.inr ⟨b2, o2, e2, h2⟩)
      have HR12 := cR_le M
      have TS0 := TS
      clear hat htl htl0 k3 k4 hta htb hu PV TS
      have AP := hidden (show ∀ (ww : World) (g o c : Nat) (q : List Int), Below wr.heap.size wr ww → TrmL n A q → Ints ww g o q.length (fnL q) → Calls Try.prog 46 #[.pointer (some ⟨w.heap.size + 1, 0, none⟩), .slice (some ⟨g, o, none⟩) q.length c] ww fun e w' => ∃ g d, e = .returned (.slice (some ⟨g, 0, none⟩) (apL M q).length d) ∧ OwnL w' ww.heap.size g d (apL M q) ∧ Below ww.heap.size ww w' from fun ww g o c q hb ht hi => by
        have hh := l6ApplyO qa qb (w.heap.size + 1) (cR M) xa xb g o q.length c (cV M) (cnD M 12) (fnL q) ww (X9.out.two.keep hb) (RV.out.keep hb) (MV.out.keep hb) (by omega) hi ht.nods.most (trmL_low ht) UM.out.lens
        rw [bdN_canon UM.out.few, putL_list] at hh
        exact hh)
      go_wp2_with fail
      with_reducible refine (AP.out _ _ _ _ p.1 (Below.refl _ _) HTA.out IA.out).mono ?_
      rintro e w3 ⟨g5, d5, rfl, ho5, hb⟩
      have B3 := hidden hb
      have O5 := hidden ho5
      have kk := (KK.out.2)
      have c1 : w3.cell? ⟨b3, o3 + 1, none⟩ = some (.slice (some ⟨gb, ob, none⟩) p.2.length cb) := by rw [(bcell hb).1 _ _ hb3]; exact kk
      clear k1 k2 kk hb ho5
      go_wp2_with fail
      with_reducible refine (AP.out _ _ _ _ p.2 B3.out HTB.out (IB.out.keep B3.out)).mono ?_
      rintro e w4 ⟨g7, d7, rfl, ho7, hb⟩
      have B4 := hidden (keepB B3.out hb)
      replace O5 := hidden (ownL_keep O5.out hb)
      have O7 := hidden ho7
      clear hb ho7 c1
      obtain ⟨x, hx⟩ : ∃ x, x = apL M p.1 := ⟨_, rfl⟩
      obtain ⟨y, hy⟩ : ∃ y, y = apL M p.2 := ⟨_, rfl⟩
      have HXX := hidden hx
      have HYY := hidden hy
      rw [← hx] at O5 ⊢
      rw [← hy] at O7 ⊢
      clear hx hy
      have R8 := hidden ((R7.out.later BL.out (by omega)).keep B4.out)
      have X10 := hidden (X9.out.keep B4.out)
      have BD4 := hidden (BD.out.keep B4.out)
      have PT := hidden (HTL.out.keep B4.out)
      have PT0 := hidden (fun h => (HTL0.out h).keep B4.out)
      go_upto_region 6 with fail
      go_cut [9] (fun v wc => Hid (PairV (fun g => w.heap.size + 2 ≤ g) w4 v s) ∧ wc = w4)
      case first =>
        go_wp2_with fail
        all_goals go_meet
        all_goals first
          | exact ⟨PT, rfl⟩
          | (have h0 : s.length = 0 := by omega
             have := PT0.out h0
             rw [h0]
             exact ⟨hidden this, rfl⟩)
      case rest =>
        rename World => w5
        obtain ⟨PT, rfl⟩ := hcut
        have BWF := hidden (show Below w.heap.size w wr from B7.out.trans (BL.out.mono (by omega)))
        have HWR := hidden (show w.heap.size ≤ wr.heap.size from BWF.out.size)
        have HWR1 := hidden (show w.heap.size + 1 ≤ wr.heap.size from by have := X9.out.two.blk; omega)
        have TS2 := hidden (show ∀ p, p ∈ s → TrmL n A p.1 ∧ TrmL n A p.2 from fun p hp => TS0.out p (List.mem_cons_of_mem _ hp))
        by_cases hx : 24 < x.length ∨ 24 < y.length
        · have HR2 := hidden (uRun_code HU.out (uStep_long HXX.out HYY.out hx))
          obtain ⟨⟨_, q0, q1⟩, f0', f1'⟩ := id R8.out
          have BF := hidden (BWF.out.trans (B4.out.mono HWR.out))
          by_cases hx1 : 24 < x.length
          · have i1 : (24 : Int) < x.length := by omega
            clear hx
            go_wp2
            exact bodyPost_ret (v := .tuple #[.agg #[.slice none 0 0, .slice none 0 0], .int .i64 2]) (by simp [results, Try.results38, go_sem, q0, q1]) rfl ⟨UA.out f0 HR.out _ _ (Or.inl ⟨by rw [HR2.out]; decide, by rw [HR2.out]⟩), (BF.out.setCell (by simp) _).setCell (by simp) _⟩
          · have i1 : ¬ (24 : Int) < x.length := by omega
            have i2 : (24 : Int) < y.length := by omega
            clear hx
            go_wp2
            exact bodyPost_ret (v := .tuple #[.agg #[.slice none 0 0, .slice none 0 0], .int .i64 2]) (by simp [results, Try.results38, go_sem, q0, q1]) rfl ⟨UA.out f0 HR.out _ _ (Or.inl ⟨by rw [HR2.out]; decide, by rw [HR2.out]⟩), (BF.out.setCell (by simp) _).setCell (by simp) _⟩
        · have HNL := hidden hx
          have hxl : x.length ≤ 24 := by omega
          have hyl : y.length ≤ 24 := by omega
          have i1 : ¬ (24 : Int) < x.length := by omega
          have i2 : ¬ (24 : Int) < y.length := by omega
          have HTx := hidden (show TrmL n A x from by rw [HXX.out]; exact apL_trm UM.out.tmM HTA.out (by rw [← HXX.out]; exact hxl))
          have HTy := hidden (show TrmL n A y from by rw [HYY.out]; exact apL_trm UM.out.tmM HTB.out (by rw [← HYY.out]; exact hyl))
          have OX := hidden O5.out.ownI
          have OY := hidden O7.out.ownI
          clear hx
          go_wp2_with fail
          with_reducible refine (l1Same_any _ _ _ _ _ _ _ _ (fnL x) (fnL y) _ OX.out.ints OY.out.ints (by omega)).mono ?_
          rintro e w6 ⟨rfl, hb⟩
          have B6 := hidden (keepB B4.out hb)
          have R11 := hidden (R8.out.keep hb)
          have X11 := hidden (X10.out.keep hb)
          have BD6 := hidden (BD4.out.keep hb)
          have PT6 := hidden (PT.out.keep hb)
          have Ox6 := hidden (OX.out.keep hb)
          have Oy6 := hidden (OY.out.keep hb)
          clear hb R8 X10 BD4 PT PT0 OX OY O5 O7
          by_cases hxy : x = y
          · have HST := hidden (uStep_same (A := A) HXX.out HYY.out HNL.out hxy)
            have HU2 := hidden (uRun_step HU.out HST.out)
            rw [show sameI x.length y.length (fnL x) (fnL y) = true by rw [hxy]; exact sameI_yes y]
            clear hxy
            go_wp2
            go_roundg f
            case measure => omega
            case rel => exact ⟨M, s, _, _, HU2, UM, TS2, PT6, X11, BD6, hidden (BL.out.trans (B6.out.mono HWR1.out)), hidden (okU_tail OK.out)⟩
          · have HNE := hidden hxy
            rw [sameI_no hxy]
            clear hxy
            have Kx := hidden (show x.length ≤ d5 from by obtain ⟨xs, hh, _⟩ := Ox6.out; rcases hh.2 with ⟨_, h0⟩ | ⟨g', cap, cur, hv, _, hgg, hc, _⟩; exact (by omega); injection hv with h1 h2 h3; omega)
            have Ky := hidden (show y.length ≤ d7 from by obtain ⟨xs, hh, _⟩ := Oy6.out; rcases hh.2 with ⟨_, h0⟩ | ⟨g', cap, cur, hv, _, hgg, hc, _⟩; exact (by omega); injection hv with h1 h2 h3; omega)
            have hlx : (0 : Int) < x.length := by have := HTx.out.pos; omega
            have hlxn : 0 < x.length := HTx.out.pos
            have hlyn : 0 < y.length := HTy.out.pos
            have hly : (0 : Int) < y.length := by have := HTy.out.pos; omega
            by_cases hx0 : fnL x 0 < 0
            · obtain ⟨v, hv12, hv, hvn⟩ := trmL_var HTx.out hx0
              have HV := hidden hv
              have HV12 := hidden hv12
              have HVN := hidden hvn
              have HM0 := hidden (head_free UM.out HXX.out HTx.out hv)
              have HNV := hidden hx0
              clear hv hvn
              have LB := hidden (l6Bind_any (w.heap.size + 1) qa xa qb xb M v g7 0 y.length d7 (fnL y) w6 X11.out.two (by obtain ⟨qa', xa', qb', xb', e1, e2, hat⟩ := BD6.out.at; injection e1 with e3 e4 e5; injection e2 with e6 e7 e8; subst e3; subst e5; subst e6; subst e8; exact hat) (by
                intro h0
                rcases BD6.out with ⟨_, h1, _⟩ | ⟨h1, _⟩
                · injection h1
                · omega) Oy6.out.ints ⟨HTy.out.pos, HTy.out.nods.most⟩ Ky.out (trmL_low HTy.out) hv12 HM0.out UM.out.few UM.out.lows.1 UM.out.lows.2)
              have cx : w6.cell? ⟨g5, 0, none⟩ = some (.int .i64 (-1 - (v : Int))) := by rw [← HV.out]; have := Ox6.out.ints.cell 0 HTx.out.pos; rw [Nat.zero_add] at this; exact this
              have e9 : (-1 : Int) - (-1 - (v : Int)) = (v : Int) := by omega
              have e10 : (-1 : Int) - (v : Int) < 0 := by omega
              clear hx0
              go_wp2_with fail
              with_reducible refine LB.out.mono ?_
              rintro e w7 ⟨ha, hb⟩
              have R12 := hidden (R11.out.keep hb)
              have X12 := hidden (X11.out.keep hb)
              have PT7 := hidden (PT6.out.keep hb)
              have B7' := hidden (keepB B6.out hb)
              have HBA := hidden (lb_bind HTy.out.nods.most UM.out.few ha)
              have HSZ := hidden (show w.heap.size + 2 ≤ w6.heap.size from by have := X11.out.two.blk; omega)
              rw [upto_fnL] at HBA
              clear ha hb cx LB
              rcases HBA.out with ⟨c, hc, hub, rfl⟩ | ⟨va, ta, Bx, Xx, hub, rfl, hX, hby⟩
              · have HR2 := hidden (uRun_code HU.out ((uStep_varx (A := A) HXX.out HYY.out HNL.out HNE.out HNV.out).trans (by rw [HVN.out]; exact hub)))
                have hcz : (c != 0) = true := by rcases hc with rfl | rfl <;> decide
                have hc0 := hidden (show c ≠ 0 by rcases hc with rfl | rfl <;> decide)
                have x0 := X12.out.f0
                have x1 := X12.out.f1
                have x2 := X12.out.two.c0
                have x3 := X12.out.two.c1
                obtain ⟨⟨_, q0, q1⟩, f0', f1'⟩ := id ((R12.out.other ⟨w.heap.size + 1, 0, none⟩ (.slice none 0 0) (by simp)).other ⟨w.heap.size + 1, 1, none⟩ (.slice none 0 0) (by simp))
                have BF := hidden ((((BWF.out.trans (B7'.out.mono HWR.out)).setCell (p := ⟨w.heap.size + 1, 0, none⟩) (by simp) (.slice none 0 0)).setCell (p := ⟨w.heap.size + 1, 1, none⟩) (by simp) (.slice none 0 0)))
                clear hc hub HBA
                go_wp2
                exact bodyPost_ret (v := .tuple #[.agg #[.slice none 0 0, .slice none 0 0], .int .i64 c]) (by simp [results, Try.results38, go_sem, q0, q1]) rfl ⟨UA.out f0 HR.out _ _ (Or.inl ⟨by rw [HR2.out]; exact hc0.out, by rw [HR2.out]⟩), (BF.out.setCell (by simp) _).setCell (by simp) _⟩
              · have HST := hidden (show uStep A M p.1 p.2 = .inr (bind1 M v y, []) from (uStep_varx (A := A) HXX.out HYY.out HNL.out HNE.out HNV.out).trans (by rw [HVN.out]; exact hub))
                have HKEEP := hidden (uStep_keep UM.out HTA.out HTB.out HST.out)
                have HUB := hidden (uBind_keep UM.out HV12.out HM0.out HTy.out (by rw [HYY.out]; exact apL_isFree UM.out.idem _) hub).2.2
                have HU2 := hidden (uRun_step HU.out HST.out)
                have x0 := X12.out.f0
                have x1 := X12.out.f1
                have x2 := X12.out.two.c0
                have x3 := X12.out.two.c1
                have BY := hidden hby
                have HCR := hidden (show 0 < cR (bind1 M v y) from by
                  obtain ⟨j, hj, _⟩ := cV_all (M := bind1 M v y) HV12.out (by rw [bind1_v]; exact List.length_pos_iff.1 HTy.out.pos)
                  omega)
                have HXX2 := hidden (show w.heap.size + 2 ≤ Xx from Nat.le_trans HSZ.out hX)
                obtain ⟨qa2, ca2, qb2, cb2, rfl, rfl, _⟩ := (show Bd w7 0 (bind1 M v y) va ta from Or.inr ⟨HCR.out, Bx, Xx, Nat.zero_le _, hby⟩).at
                clear hby hX hub HBA
                go_wp2
                go_roundg f
                case measure => omega
                case rel => exact ⟨_, s, _, _, HU2, hidden HKEEP.out.1, hidden (fun p hp => TS2.out p hp), hidden ((PT7.out.setLow _ _ (by show ¬ _ ≤ w.heap.size + 1; omega)).setLow _ _ (by show ¬ _ ≤ w.heap.size + 1; omega)), hidden ((X12.out.set0 _).set1 _), hidden (Or.inr ⟨HCR.out, Bx, Xx, HXX2.out, (BY.out.farY _ _ (by have := BY.out.low; have := HXX2.out; simp; omega) (by have := HXX2.out; simp; omega)).farY _ _ (by have := BY.out.low; have := HXX2.out; simp; omega) (by have := HXX2.out; simp; omega)⟩), hidden (((BL.out.trans (B7'.out.mono HWR1.out)).setCell (by simp) _).setCell (by simp) _), hidden (okU_bind (okU_tail OK.out) HUB.out)⟩
            · have HN0 := hidden hx0
              by_cases hy0 : fnL y 0 < 0
              · have cx : w6.cell? ⟨g5, 0, none⟩ = some (.int .i64 (fnL x 0)) := by have := Ox6.out.ints.cell 0 HTx.out.pos; rw [Nat.zero_add] at this; exact this
                obtain ⟨aa, haa⟩ : ∃ aa, aa = fnL x 0 := ⟨_, rfl⟩
                rw [← haa] at cx hx0
                clear haa
                obtain ⟨v, hv12, hv, hvn⟩ := trmL_var HTy.out hy0
                have HV := hidden hv
                have HV12 := hidden hv12
                have HVN := hidden hvn
                have HM0 := hidden (head_free UM.out HYY.out HTy.out hv)
                have HNV := hidden hy0
                clear hv hvn
                have LB := hidden (l6Bind_any (w.heap.size + 1) qa xa qb xb M v g5 0 x.length d5 (fnL x) w6 X11.out.two (by obtain ⟨qa', xa', qb', xb', e1, e2, hat⟩ := BD6.out.at; injection e1 with e3 e4 e5; injection e2 with e6 e7 e8; subst e3; subst e5; subst e6; subst e8; exact hat) (by
                  intro h0
                  rcases BD6.out with ⟨_, h1, _⟩ | ⟨h1, _⟩
                  · injection h1
                  · omega) Ox6.out.ints ⟨HTx.out.pos, HTx.out.nods.most⟩ Kx.out (trmL_low HTx.out) hv12 HM0.out UM.out.few UM.out.lows.1 UM.out.lows.2)
                have cy : w6.cell? ⟨g7, 0, none⟩ = some (.int .i64 (-1 - (v : Int))) := by rw [← HV.out]; have := Oy6.out.ints.cell 0 HTy.out.pos; rw [Nat.zero_add] at this; exact this
                have e9 : (-1 : Int) - (-1 - (v : Int)) = (v : Int) := by omega
                have e10 : (-1 : Int) - (v : Int) < 0 := by omega
                clear hy0
                go_wp2_with fail
                with_reducible refine LB.out.mono ?_
                rintro e w7 ⟨ha, hb⟩
                have R12 := hidden (R11.out.keep hb)
                have X12 := hidden (X11.out.keep hb)
                have PT7 := hidden (PT6.out.keep hb)
                have B7' := hidden (keepB B6.out hb)
                have HBA := hidden (lb_bind HTx.out.nods.most UM.out.few ha)
                have HSZ := hidden (show w.heap.size + 2 ≤ w6.heap.size from by have := X11.out.two.blk; omega)
                rw [upto_fnL] at HBA
                clear ha hb cy cx LB hx0
                rcases HBA.out with ⟨c, hc, hub, rfl⟩ | ⟨va, ta, Bx, Xx, hub, rfl, hX, hby⟩
                · have HR2 := hidden (uRun_code HU.out ((uStep_vary (A := A) HXX.out HYY.out HNL.out HNE.out (show ¬ fnL x 0 < 0 by have := HN0.out; omega) HNV.out).trans (by rw [HVN.out]; exact hub)))
                  have hcz : (c != 0) = true := by rcases hc with rfl | rfl <;> decide
                  have hc0 := hidden (show c ≠ 0 by rcases hc with rfl | rfl <;> decide)
                  have x0 := X12.out.f0
                  have x1 := X12.out.f1
                  have x2 := X12.out.two.c0
                  have x3 := X12.out.two.c1
                  obtain ⟨⟨_, q0, q1⟩, f0', f1'⟩ := id ((R12.out.other ⟨w.heap.size + 1, 0, none⟩ (.slice none 0 0) (by simp)).other ⟨w.heap.size + 1, 1, none⟩ (.slice none 0 0) (by simp))
                  have BF := hidden ((((BWF.out.trans (B7'.out.mono HWR.out)).setCell (p := ⟨w.heap.size + 1, 0, none⟩) (by simp) (.slice none 0 0)).setCell (p := ⟨w.heap.size + 1, 1, none⟩) (by simp) (.slice none 0 0)))
                  clear hc hub HBA
                  go_wp2
                  exact bodyPost_ret (v := .tuple #[.agg #[.slice none 0 0, .slice none 0 0], .int .i64 c]) (by simp [results, Try.results38, go_sem, q0, q1]) rfl ⟨UA.out f0 HR.out _ _ (Or.inl ⟨by rw [HR2.out]; exact hc0.out, by rw [HR2.out]⟩), (BF.out.setCell (by simp) _).setCell (by simp) _⟩
                · have HST := hidden (show uStep A M p.1 p.2 = .inr (bind1 M v x, []) from (uStep_vary (A := A) HXX.out HYY.out HNL.out HNE.out (show ¬ fnL x 0 < 0 by have := HN0.out; omega) HNV.out).trans (by rw [HVN.out]; exact hub))
                  have HKEEP := hidden (uStep_keep UM.out HTA.out HTB.out HST.out)
                  have HUB := hidden (uBind_keep UM.out HV12.out HM0.out HTx.out (by rw [HXX.out]; exact apL_isFree UM.out.idem _) hub).2.2
                  have HU2 := hidden (uRun_step HU.out HST.out)
                  have x0 := X12.out.f0
                  have x1 := X12.out.f1
                  have x2 := X12.out.two.c0
                  have x3 := X12.out.two.c1
                  have BY := hidden hby
                  have HCR := hidden (show 0 < cR (bind1 M v x) from by
                    obtain ⟨j, hj, _⟩ := cV_all (M := bind1 M v x) HV12.out (by rw [bind1_v]; exact List.length_pos_iff.1 HTx.out.pos)
                    omega)
                  have HXX2 := hidden (show w.heap.size + 2 ≤ Xx from Nat.le_trans HSZ.out hX)
                  obtain ⟨qa2, ca2, qb2, cb2, rfl, rfl, _⟩ := (show Bd w7 0 (bind1 M v x) va ta from Or.inr ⟨HCR.out, Bx, Xx, Nat.zero_le _, hby⟩).at
                  clear hby hX hub HBA
                  go_wp2
                  go_roundg f
                  case measure => omega
                  case rel => exact ⟨_, s, _, _, HU2, hidden HKEEP.out.1, hidden (fun p hp => TS2.out p hp), hidden ((PT7.out.setLow _ _ (by show ¬ _ ≤ w.heap.size + 1; omega)).setLow _ _ (by show ¬ _ ≤ w.heap.size + 1; omega)), hidden ((X12.out.set0 _).set1 _), hidden (Or.inr ⟨HCR.out, Bx, Xx, HXX2.out, (BY.out.farY _ _ (by have := BY.out.low; have := HXX2.out; simp; omega) (by have := HXX2.out; simp; omega)).farY _ _ (by have := BY.out.low; have := HXX2.out; simp; omega) (by have := HXX2.out; simp; omega)⟩), hidden (((BL.out.trans (B7'.out.mono HWR1.out)).setCell (by simp) _).setCell (by simp) _), hidden (okU_bind (okU_tail OK.out) HUB.out)⟩
              · have HN1 := hidden hy0
                by_cases he : fnL x 0 = fnL y 0
                · have hj0 : ∃ j : Nat, j < n ∧ fnL x 0 = (j : Int) := by
                    rcases nodeB_cases (HTx.out.nods.node 0 HTx.out.pos) with ⟨j, e, hj⟩ | ⟨h1, h2⟩
                    · exact ⟨j, hj, e⟩
                    · omega
                  obtain ⟨j, hjn, hj⟩ := hj0
                  have LA := hidden (fun (ww : World) (hw : Below w6.heap.size w6 ww) => l6Args_any B b off n c g5 0 x.length d5 g7 0 y.length d7 j N A (fnL x) (fnL y) ww ((D7.out.later BL.out (by have := LBB.out; omega)).keep (keepB B6.out hw)) ((Q7.out.later BL.out (fun h0 => by have := LQ.out h0; omega)).keep (keepB B6.out hw)) (Ox6.out.ints.keep hw) (Oy6.out.ints.keep hw) HTx.out HTy.out Kx.out Ky.out hjn hj (by rw [← he]; exact hj))
                  have HST := hidden (uStep_args (A := A) HXX.out HYY.out HNL.out HNE.out (show ¬ fnL x 0 < 0 by have := HN0.out; omega) (show ¬ fnL y 0 < 0 by have := HN1.out; omega) he)
                  have HKEEP := hidden (uStep_keep UM.out HTA.out HTB.out HST.out)
                  have HU2 := hidden (uRun_step HU.out HST.out)
                  have HOK := hidden (okU_args (y := y) UM.out HTx.out HXX.out hxl OK.out)
                  have HLN := hidden (okU_len HOK.out)
                  have cx : w6.cell? ⟨g5, 0, none⟩ = some (.int .i64 (fnL x 0)) := by have := Ox6.out.ints.cell 0 HTx.out.pos; rw [Nat.zero_add] at this; exact this
                  have cy : w6.cell? ⟨g7, 0, none⟩ = some (.int .i64 (fnL x 0)) := by rw [he]; have := Oy6.out.ints.cell 0 HTy.out.pos; rw [Nat.zero_add] at this; exact this
                  obtain ⟨aa, haa⟩ : ∃ aa, aa = fnL x 0 := ⟨_, rfl⟩
                  rw [← haa] at cx cy
                  have ha0 : ¬ aa < 0 := by rw [haa]; exact hx0
                  have hbe : (aa != aa) = false := by simp
                  clear haa he hx0 hy0 hj hjn
                  go_upto_region 16 with fail
                  go_cut [81] (fun t wc => t = .bool false ∧ Below w6.heap.size w6 wc)
                  case first =>
                    go_region_held3 (fun wz => wz.cell? ⟨g5, 0, none⟩ = some (.int .i64 aa) ∧ wz.cell? ⟨g7, 0, none⟩ = some (.int .i64 aa)) (first | exact ⟨by assumption, by assumption⟩ | go_keep) (fail)
                    all_goals (go_wp2_with fail; go_meet)
                    all_goals exact ⟨by simp, (Below.refl _ _).drew⟩
                  case rest =>
                    rename World => w7
                    obtain ⟨rfl, hb⟩ := hcut
                    have X12 := hidden (X11.out.keep hb)
                    have BD7 := hidden (BD6.out.keep hb)
                    have PT7 := hidden (PT6.out.keep hb)
                    have B7' := hidden (keepB B6.out hb)
                    have LA7 := hidden (LA.out _ hb)
                    have VW := hidden (agD_args (A := A) (x := x) (y := y))
                    clear hb cx cy LA
                    obtain ⟨q8, c8, rfl, hc8, hrows⟩ := PT7.out
                    have HRW := hidden hrows
                    clear hrows
                    go_wp2_with fail
                    with_reducible refine LA7.out.mono ?_
                    rintro e w8 ⟨v8, rfl, hgr, hb8⟩
                    have GR := hidden (show GrP 106 w8 w7.heap.size v8 (argPs A x y).length (agD A x.length (fnL x) y.length (fnL y)) from by rw [VW.out.1]; exact hgr)
                    have VD := hidden (show ∀ i, i < (argPs A x y).length → _ from fun i hi => VW.out.2 i (by rw [← VW.out.1]; exact hi))
                    have HB8 := hidden hb8
                    have HTS := hidden (show ∀ p, p ∈ argPs A x y ++ s → TrmL n A p.1 ∧ TrmL n A p.2 from fun p hp => by
                      rcases List.mem_append.1 hp with h | h
                      · exact HKEEP.out.2.1 p h
                      · exact TS2.out p h)
                    have H7 := hidden (show w.heap.size + 2 ≤ w7.heap.size from by have := X12.out.two.blk; omega)
                    rw [List.length_append] at HLN
                    have HLN2 := HLN.out
                    clear hgr hb8 LA7 VW HLN
                    by_cases hs0 : s = []
                    · have HS0 := hidden hs0
                      have PV8 := hidden (GR.out.view rfl VD.out)
                      have hl0 : s.length = 0 := by rw [hs0]; rfl
                      rw [hl0]
                      have X13 := hidden (X12.out.keep HB8.out)
                      have BD8 := hidden (BD7.out.keep HB8.out)
                      have BL8 := hidden (BL.out.trans ((keepB B7'.out HB8.out).mono HWR1.out))
                      clear hs0 hl0
                      rcases GR.out.slc with hv8 | ⟨g8, c9, hv8⟩
                      · rw [hv8] at PV8 ⊢
                        clear hv8 GR
                        rcases q8 with _ | a8
                        · go_wp2
                          go_roundg f
                          case measure => omega
                          case rel => exact ⟨M, argPs A x y ++ s, _, _, HU2, hidden HKEEP.out.1, HTS, hidden (by rw [HS0.out, List.append_nil]; exact PV8.out.low (fun g hg => Nat.le_trans H7.out hg)), X13, BD8, BL8, HOK⟩
                        · go_wp2
                          go_wp2
                          go_roundg f
                          case measure => omega
                          case rel => exact ⟨M, argPs A x y ++ s, _, _, HU2, hidden HKEEP.out.1, HTS, hidden (by rw [HS0.out, List.append_nil]; exact PV8.out.low (fun g hg => Nat.le_trans H7.out hg)), X13, BD8, BL8, HOK⟩
                      · rw [hv8] at PV8 ⊢
                        have hcc := PV8.out.cap
                        clear hv8 GR
                        rcases q8 with _ | a8
                        · go_wp2
                          go_roundg f
                          case measure => omega
                          case rel => exact ⟨M, argPs A x y ++ s, _, _, HU2, hidden HKEEP.out.1, HTS, hidden (by rw [HS0.out, List.append_nil]; exact PV8.out.low (fun g hg => Nat.le_trans H7.out hg)), X13, BD8, BL8, HOK⟩
                        · go_wp2
                          go_wp2
                          go_roundg f
                          case measure => omega
                          case rel => exact ⟨M, argPs A x y ++ s, _, _, HU2, hidden HKEEP.out.1, HTS, hidden (by rw [HS0.out, List.append_nil]; exact PV8.out.low (fun g hg => Nat.le_trans H7.out hg)), X13, BD8, BL8, HOK⟩
                    · obtain ⟨b8, o8, rfl, hk8, hl8, hi8⟩ := HRW.out hs0
                      have hpos : 0 < s.length := List.length_pos_iff.2 hs0
                      have HI7 := hidden hi8
                      have HI8 := hidden (fun i hi => (hi8 i hi).keep HB8.out)
                      have HK8 := hidden hk8
                      have HL8 := hidden hl8
                      obtain ⟨xs, G, hx1, hx2, hx3⟩ := GR.out.row
                      have HX1 := hidden hx1
                      have HX2 := hidden hx2
                      have HTOP := hidden GR.out.top
                      clear hi8 hx1 hx2 hx3 hs0 hk8 hl8
                      go_wp2_with (at_builtin; refine (fun h => h trivial : (True → _) → _) ?_)
                      intro _
                      refine wpList_append_lies _ rfl _ _ 107 rfl w7.heap.size 106 _ (.agg #[.slice none 0 0, .slice none 0 0]) 2 48 Try.underlying107 rfl rfl rfl rfl rfl (by decide) v8 (argPs A x y).length xs rfl HX1.out ⟨b8, o8, none⟩ s.length c8 (cellsL w8 b8 o8 (s.length * 2)) rfl (cellsL_len _ _ _ _) (cells_src HI8.out).1 (cells_src HI8.out).2 hpos (by unfold maxLen; omega) (by omega) HTOP.out _ rfl ?_
                      intro g9 d9 w9 hown hgrow hat hlt9
                      have HB9 := hidden (HB8.out.grown hgrow HB8.out.size (fun z hz => (HX1.out.lt z hz).1))
                      have PV9 := hidden (append_view (K := fun g => w.heap.size + 2 ≤ g) HX2.out HX1.out.1 hgrow VD.out HI7.out HB9.out (fun j hj => (bcell HB8.out).1 _ _ HK8.out) hown (by omega) (fun g hg => Nat.le_trans H7.out hg))
                      have X13 := hidden (X12.out.keep HB9.out)
                      have BD8 := hidden (BD7.out.keep HB9.out)
                      have BL8 := hidden (BL.out.trans ((keepB B7'.out HB9.out).mono HWR1.out))
                      clear hown hgrow hat hlt9
                      go_wp2
                      go_roundg f
                      case measure => omega
                      case rel => exact ⟨M, argPs A x y ++ s, _, _, HU2, hidden HKEEP.out.1, HTS, PV9, X13, BD8, BL8, HOK⟩
                · have HST := hidden (uStep_none (A := A) HXX.out HYY.out HNL.out HNE.out (show ¬ fnL x 0 < 0 by have := HN0.out; omega) (show ¬ fnL y 0 < 0 by have := HN1.out; omega) he)
                  have HR2 := hidden (uRun_code HU.out HST.out)
                  have cx : w6.cell? ⟨g5, 0, none⟩ = some (.int .i64 (fnL x 0)) := by have := Ox6.out.ints.cell 0 HTx.out.pos; rw [Nat.zero_add] at this; exact this
                  have cy : w6.cell? ⟨g7, 0, none⟩ = some (.int .i64 (fnL y 0)) := by have := Oy6.out.ints.cell 0 HTy.out.pos; rw [Nat.zero_add] at this; exact this
                  obtain ⟨aa, haa⟩ : ∃ aa, aa = fnL x 0 := ⟨_, rfl⟩
                  obtain ⟨ab, hab⟩ : ∃ ab, ab = fnL y 0 := ⟨_, rfl⟩
                  rw [← haa] at cx he
                  rw [← hab] at cy he
                  have ha0 : ¬ aa < 0 := by rw [haa]; exact hx0
                  have hb0 : ¬ ab < 0 := by rw [hab]; exact hy0
                  have hbe : (aa != ab) = true := by simpa using he
                  clear haa hab he hx0 hy0
                  go_upto_region 16 with fail
                  go_cut [81] (fun t wc => t = .bool true ∧ Below w6.heap.size w6 wc)
                  case first =>
                    go_region_held3 (fun wz => wz.cell? ⟨g5, 0, none⟩ = some (.int .i64 aa) ∧ wz.cell? ⟨g7, 0, none⟩ = some (.int .i64 ab)) (first | exact ⟨by assumption, by assumption⟩ | go_keep) (fail)
                    all_goals (go_wp2_with fail; go_meet)
                    all_goals exact ⟨by first | rfl | rw [hbe], (Below.refl _ _).drew⟩
                  case rest =>
                    rename World => w7
                    obtain ⟨rfl, hb⟩ := hcut
                    have R12 := hidden (R11.out.keep hb)
                    have BF := hidden (BWF.out.trans ((keepB B6.out hb).mono HWR.out))
                    obtain ⟨⟨_, q0, q1⟩, f0', f1'⟩ := id R12.out
                    clear hb cx cy
                    go_wp2
                    exact bodyPost_ret (v := .tuple #[.agg #[.slice none 0 0, .slice none 0 0], .int .i64 4]) (by simp [results, Try.results38, go_sem, q0, q1]) rfl ⟨UA.out f0 HR.out _ _ (Or.inl ⟨by rw [HR2.out]; decide, by rw [HR2.out]⟩), (BF.out.setCell (by simp) _).setCell (by simp) _⟩

end Go.Proofs.Ytenlogljpgdbpaa
