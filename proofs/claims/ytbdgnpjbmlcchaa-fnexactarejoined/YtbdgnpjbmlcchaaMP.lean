/- Several texts as one: DepthS, Pst, Args, Round, PlcIn. -/
import Derived.Test.YtbdgnpjbmlcchaaSizeAt
import Derived.Test.YtbdgnpjbmlcchaaMch
import Derived.Sort.CutIn
import Derived.Test.YtbdgnpjbmlcchaaPlaces
import Derived.Deep.RegionHeld3
import Derived.Test.YtbdgnpjbmlcchaaPutIn
import Derived.Test.YtbdgnpjbmlcchaaMB
import Derived.OwnWalkIn
import Derived.Deep.AppendLies
/- Contract: how deep the term at a place is, as the model tells it. -/
namespace Go.Proofs.Ytbdgnpjbmlcchaa
open Go.RowKit

/-- The depth of the term at a place. -/
def dpt (a : Nat → Nat) (m p : Nat) : Nat := depN a m (p + 1) (a p) + 1

theorem dpt_le (a : Nat → Nat) {m p : Nat} (h : p < m) : dpt a m p ≤ m := by
  have := depN_le a m _ (p + 1) (a p) (Nat.le_refl _)
  unfold dpt; omega

theorem dep_next {a : Nat → Nat} {m r r2 k : Nat} (h : skip a m r 1 = some r2) : depN a m r (k + 1) = max (dpt a m r) (depN a m r2 k) := by
  rw [depN_succ k h, dpt, Nat.add_comm]

end Go.Proofs.Ytbdgnpjbmlcchaa

/- Plain facts: the places of a term from the inside, and the redex that ends first. -/
namespace Go.Proofs.Ytbdgnpjbmlcchaa
open Go.RowKit

/-- The places of k terms that begin at p, each one behind those of its arguments. -/
def pst (a : Nat → Nat) (m p k : Nat) : List Nat :=
  if _h : p < m then
    match k with
    | 0 => []
    | k + 1 => pst a m (p + 1) (a p) ++ p :: pst a m (max (p + 1) ((skip a m p 1).getD m)) k
  else []
termination_by m - p
decreasing_by all_goals omega

theorem pst_zero (a : Nat → Nat) (m p : Nat) : pst a m p 0 = [] := by
  rw [pst]; split <;> rfl

theorem pst_succ {a : Nat → Nat} {m p e : Nat} (k : Nat) (h : skip a m p 1 = some e) : pst a m p (k + 1) = pst a m (p + 1) (a p) ++ p :: pst a m e k := by
  have hp : p < m := by
    by_cases hp : p < m
    · exact hp
    · have := skip_end a 0 (m := m) (p := p) (by omega); rw [this] at h; cases h
  have he := (skip_le h).2 (by omega)
  rw [pst, dif_pos hp, h]
  simp only [Option.getD]
  rw [show max (p + 1) e = e by omega]

theorem pst_add {a : Nat → Nat} {m : Nat} : ∀ (j p k e : Nat), skip a m p j = some e → pst a m p (j + k) = pst a m p j ++ pst a m e k
  | 0, p, k, e, h => by rw [skip_zero] at h; cases h; rw [pst_zero, Nat.zero_add]; rfl
  | j + 1, p, k, e, h => by
    have h2 := h
    rw [show j + 1 = 1 + j by omega, skip_split] at h2
    cases hs : skip a m p 1 with
    | none => rw [hs] at h2; cases h2
    | some r =>
      rw [hs] at h2
      have h3 : skip a m r j = some e := h2
      rw [show j + 1 + k = (j + k) + 1 by omega, pst_succ _ hs, pst_succ _ hs, pst_add j r k e h3, List.append_assoc, List.cons_append]

theorem pst_one {a : Nat → Nat} {m p e : Nat} (h : skip a m p 1 = some e) : pst a m p 1 = pst a m (p + 1) (a p) ++ [p] := by
  rw [show (1 : Nat) = 0 + 1 from rfl, pst_succ 0 h, pst_zero]

/-- Where a term ends. -/
def enN (a : Nat → Nat) (m x : Nat) : Nat := (skip a m x 1).getD 0
theorem enN_some {a : Nat → Nat} {m x e : Nat} (h : skip a m x 1 = some e) : enN a m x = e := by simp [enN, h]

/-- A term inside of terms ends no later than they do. -/
theorem skip_in {a : Nat → Nat} {m : Nat} : ∀ (d p k e : Nat), m - p ≤ d → skip a m p k = some e → ∀ x, p ≤ x → x < e → ∃ r, skip a m x 1 = some r ∧ r ≤ e := by
  intro d
  induction d with
  | zero =>
    intro p k e hd h x h1 h2
    cases k with
    | zero => rw [skip_zero] at h; cases h; omega
    | succ k => rw [skip_end a k (by omega)] at h; cases h
  | succ d ih =>
    intro p k e hd h x h1 h2
    cases k with
    | zero => rw [skip_zero] at h; cases h; omega
    | succ k =>
      by_cases hx : x = p
      · subst hx
        rw [show k + 1 = 1 + k by omega, skip_split] at h
        cases hs : skip a m x 1 with
        | none => rw [hs] at h; cases h
        | some r =>
          rw [hs] at h
          have h3 : skip a m r k = some e := h
          exact ⟨r, rfl, (skip_le h3).1⟩
      · by_cases hp : p < m
        · rw [skip_step a k hp] at h
          exact ih (p + 1) _ e (by omega) h x (by omega) h2
        · rw [skip_end a k (by omega)] at h; cases h

/-- What stands ahead of what. -/
def ahd (a : Nat → Nat) (m x y : Nat) : Prop := enN a m x < enN a m y ∨ (enN a m x = enN a m y ∧ y < x)

theorem pst_mem {a : Nat → Nat} {m : Nat} : ∀ (d p k e : Nat), m - p ≤ d → skip a m p k = some e → ∀ x, x ∈ pst a m p k ↔ (p ≤ x ∧ x < e) := by
  intro d
  induction d with
  | zero =>
    intro p k e hd h x
    cases k with
    | zero => rw [skip_zero] at h; cases h; rw [pst_zero]; simp <;> omega
    | succ k => rw [skip_end a k (by omega)] at h; cases h
  | succ d ih =>
    intro p k e hd h x
    cases k with
    | zero => rw [skip_zero] at h; cases h; rw [pst_zero]; simp <;> omega
    | succ k =>
      by_cases hp : p < m
      · have h1 := h
        rw [show k + 1 = 1 + k by omega, skip_split] at h1
        cases hs : skip a m p 1 with
        | none => rw [hs] at h1; cases h1
        | some r =>
          rw [hs] at h1
          have h3 : skip a m r k = some e := h1
          have h4 := hs
          rw [skip_one a hp] at h4
          have h5 := (skip_le hs).2 (by omega)
          have h6 := (skip_le h3).1
          rw [pst_succ k hs, List.mem_append, List.mem_cons, ih (p + 1) (a p) r (by omega) h4 x, ih r k e (by omega) h3 x]
          omega
      · rw [skip_end a k (by omega)] at h; cases h

theorem pst_pair {a : Nat → Nat} {m : Nat} : ∀ (d p k e : Nat), m - p ≤ d → skip a m p k = some e → (pst a m p k).Pairwise (ahd a m) := by
  intro d
  induction d with
  | zero =>
    intro p k e hd h
    cases k with
    | zero => rw [pst_zero]; exact List.Pairwise.nil
    | succ k => rw [skip_end a k (by omega)] at h; cases h
  | succ d ih =>
    intro p k e hd h
    cases k with
    | zero => rw [pst_zero]; exact List.Pairwise.nil
    | succ k =>
      by_cases hp : p < m
      · have h1 := h
        rw [show k + 1 = 1 + k by omega, skip_split] at h1
        cases hs : skip a m p 1 with
        | none => rw [hs] at h1; cases h1
        | some r =>
          rw [hs] at h1
          have h3 : skip a m r k = some e := h1
          have h4 := hs
          rw [skip_one a hp] at h4
          have h5 := (skip_le hs).2 (by omega)
          have hen := enN_some hs
          rw [pst_succ k hs, List.pairwise_append, List.pairwise_cons]
          refine ⟨ih (p + 1) (a p) r (by omega) h4, ⟨fun y hy => ?_, ih r k e (by omega) h3⟩, fun x hx y hy => ?_⟩
          · have h7 := (pst_mem _ r k e (Nat.le_refl _) h3 y).1 hy
            obtain ⟨z, hz, _⟩ := skip_in _ r k e (Nat.le_refl _) h3 y h7.1 h7.2
            have h8 := (skip_le hz).2 (by omega)
            refine Or.inl ?_
            rw [hen, enN_some hz]; omega
          · have h7 := (pst_mem _ (p + 1) (a p) r (Nat.le_refl _) h4 x).1 hx
            obtain ⟨z, hz, hzr⟩ := skip_in _ (p + 1) (a p) r (Nat.le_refl _) h4 x h7.1 h7.2
            rcases List.mem_cons.1 hy with rfl | hy
            · by_cases e1 : z = r
              · exact Or.inr ⟨by rw [hen, enN_some hz]; exact e1, by omega⟩
              · refine Or.inl ?_
                rw [hen, enN_some hz]; omega
            · have h9 := (pst_mem _ r k e (Nat.le_refl _) h3 y).1 hy
              obtain ⟨z2, hz2, _⟩ := skip_in _ r k e (Nat.le_refl _) h3 y h9.1 h9.2
              have h8 := (skip_le hz2).2 (by omega)
              refine Or.inl ?_
              rw [enN_some hz, enN_some hz2]; omega
      · rw [skip_end a k (by omega)] at h; cases h

theorem pst_len {a : Nat → Nat} {m : Nat} : ∀ (d p k e : Nat), m - p ≤ d → skip a m p k = some e → (pst a m p k).length = e - p := by
  intro d
  induction d with
  | zero =>
    intro p k e hd h
    cases k with
    | zero => rw [skip_zero] at h; cases h; rw [pst_zero]; simp
    | succ k => rw [skip_end a k (by omega)] at h; cases h
  | succ d ih =>
    intro p k e hd h
    cases k with
    | zero => rw [skip_zero] at h; cases h; rw [pst_zero]; simp
    | succ k =>
      by_cases hp : p < m
      · have h1 := h
        rw [show k + 1 = 1 + k by omega, skip_split] at h1
        cases hs : skip a m p 1 with
        | none => rw [hs] at h1; cases h1
        | some r =>
          rw [hs] at h1
          have h3 : skip a m r k = some e := h1
          have h4 := hs
          rw [skip_one a hp] at h4
          have h5 := (skip_le hs).2 (by omega)
          have h6 := (skip_le h3).1
          rw [pst_succ k hs, List.length_append, List.length_cons, ih (p + 1) (a p) r (by omega) h4, ih r k e (by omega) h3]
          omega
      · rw [skip_end a k (by omega)] at h; cases h

/-- Of the first k places at which something is found, the one whose term ends first; of several the last one. -/
def bst (a : Nat → Nat) (m : Nat) (F : Nat → Option Nat) : Nat → Option (Nat × Nat)
  | 0 => none
  | k + 1 => match F k with
    | none => bst a m F k
    | some r => match bst a m F k with
      | none => some (k, r)
      | some s => if enN a m k ≤ enN a m s.1 then some (k, r) else some s

section
variable {a : Nat → Nat} {m : Nat} {F : Nat → Option Nat}

theorem bst_miss {k : Nat} (h : F k = none) : bst a m F (k + 1) = bst a m F k := by simp [bst, h]
theorem bst_hit {k r : Nat} (h : F k = some r) (hn : ∀ s, bst a m F k = some s → enN a m k ≤ enN a m s.1) : bst a m F (k + 1) = some (k, r) := by
  simp only [bst, h]
  cases hb : bst a m F k with
  | none => rfl
  | some s => simp only; rw [if_pos (hn s hb)]
theorem bst_late {k : Nat} {s : Nat × Nat} (hb : bst a m F k = some s) (hn : enN a m s.1 < enN a m k) : bst a m F (k + 1) = some s := by
  simp only [bst]
  cases h : F k with
  | none => exact hb
  | some r => rw [hb]; simp only; rw [if_neg (by omega)]

theorem bst_none : ∀ k, bst a m F k = none ↔ ∀ y, y < k → F y = none
  | 0 => by simp [bst]
  | k + 1 => by
    have ih := bst_none k
    cases h : F k with
    | none =>
      rw [bst_miss h, ih]
      exact ⟨fun h1 y hy => by
        by_cases e : y = k
        · rw [e]; exact h
        · exact h1 y (by omega), fun h1 y hy => h1 y (by omega)⟩
    | some r =>
      constructor
      · intro h1
        exfalso
        simp only [bst, h] at h1
        cases hb : bst a m F k with
        | none => rw [hb] at h1; cases h1
        | some s => rw [hb] at h1; simp only at h1; split at h1 <;> cases h1
      · intro h1; have := h1 k (by omega); rw [h] at this; cases this

theorem bst_some : ∀ k p r, bst a m F k = some (p, r) → p < k ∧ F p = some r ∧ ∀ y, y < k → F y ≠ none → enN a m p < enN a m y ∨ (enN a m p = enN a m y ∧ y ≤ p)
  | 0, p, r, h => by simp [bst] at h
  | k + 1, p, r, h => by
    cases hf : F k with
    | none =>
      rw [bst_miss hf] at h
      obtain ⟨h1, h2, h3⟩ := bst_some k p r h
      refine ⟨by omega, h2, fun y hy hn => ?_⟩
      by_cases e : y = k
      · rw [e] at hn; exact absurd hf hn
      · exact h3 y (by omega) hn
    | some q =>
      cases hb : bst a m F k with
      | none =>
        have hnn := (bst_none k).1 hb
        rw [bst_hit hf (fun s hs => by rw [hb] at hs; cases hs)] at h
        simp only [Option.some.injEq, Prod.mk.injEq] at h
        obtain ⟨rfl, rfl⟩ := h
        refine ⟨by omega, hf, fun y hy hn => ?_⟩
        by_cases e : y = k
        · subst e; exact Or.inr ⟨rfl, Nat.le_refl _⟩
        · exact absurd (hnn y (by omega)) hn
      | some s =>
        obtain ⟨p0, r0⟩ := s
        obtain ⟨h1, h2, h3⟩ := bst_some k p0 r0 hb
        by_cases hle : enN a m k ≤ enN a m p0
        · rw [bst_hit hf (fun s hs => by rw [hb] at hs; cases hs; exact hle)] at h
          simp only [Option.some.injEq, Prod.mk.injEq] at h
          obtain ⟨rfl, rfl⟩ := h
          refine ⟨by omega, hf, fun y hy hn => ?_⟩
          by_cases e : y = k
          · subst e; exact Or.inr ⟨rfl, Nat.le_refl _⟩
          · have := h3 y (by omega) hn
            rcases this with h4 | ⟨h4, h5⟩
            · exact Or.inl (by omega)
            · by_cases e2 : enN a m k = enN a m y
              · exact Or.inr ⟨e2, by omega⟩
              · exact Or.inl (by omega)
        · rw [bst_late hb (by simp only; omega)] at h
          simp only [Option.some.injEq, Prod.mk.injEq] at h
          obtain ⟨rfl, rfl⟩ := h
          refine ⟨by omega, h2, fun y hy hn => ?_⟩
          by_cases e : y = k
          · subst e; exact Or.inl (by omega)
          · exact h3 y (by omega) hn

/-- The first one in the order of the places from the inside is it. -/
theorem bst_first {L : List Nat} (hp : L.Pairwise (ahd a m)) (hm : ∀ x, x ∈ L ↔ x < m) {i r : Nat} (hi : i < L.length) (hno : ∀ j, j < i → F (L.getD j 0) = none) (hf : F (L.getD i 0) = some r) : bst a m F m = some (L.getD i 0, r) := by
  have hgi : L.getD i 0 = L[i] := by rw [List.getD_eq_getElem?_getD, List.getElem?_eq_getElem hi]; rfl
  have hlm : L.getD i 0 < m := (hm _).1 (by rw [hgi]; exact List.getElem_mem hi)
  cases hb : bst a m F m with
  | none => have := (bst_none m).1 hb _ hlm; rw [hf] at this; cases this
  | some s =>
    obtain ⟨p, r'⟩ := s
    obtain ⟨h1, h2, h3⟩ := bst_some m p r' hb
    obtain ⟨j, hj, ej⟩ := List.getElem_of_mem ((hm p).2 h1)
    have hgj : L.getD j 0 = p := by rw [List.getD_eq_getElem?_getD, List.getElem?_eq_getElem hj]; exact ej
    by_cases e : j = i
    · subst e
      rw [hgj] at hf ⊢
      rw [h2] at hf
      cases hf
      rfl
    · have hij : i < j := by
        rcases Nat.lt_or_ge j i with h | h
        · have := hno j h; rw [hgj, h2] at this; cases this
        · omega
      have h4 := List.pairwise_iff_getElem.1 hp i j hi hj hij
      rw [ej, ← hgi] at h4
      have h5 := h3 (L.getD i 0) hlm (by rw [hf]; simp)
      unfold ahd at h4
      omega

theorem bst_never {L : List Nat} (hm : ∀ x, x ∈ L ↔ x < m) (hno : ∀ j, j < L.length → F (L.getD j 0) = none) : bst a m F m = none := by
  refine (bst_none m).2 (fun y hy => ?_)
  obtain ⟨j, hj, ej⟩ := List.getElem_of_mem ((hm y).2 hy)
  have := hno j hj
  rwa [List.getD_eq_getElem?_getD, List.getElem?_eq_getElem hj, Option.getD_some, ej] at this
end

end Go.Proofs.Ytbdgnpjbmlcchaa

/- Contracts: the places of a term's arguments, as the program goes through them. -/
namespace Go.Proofs.Ytbdgnpjbmlcchaa
open Go.RowKit Go.Shelf

attribute [local go_sem] Oper.semAt_some

/-- A place behind p. -/
abbrev Arg (p m : Nat) := { x : Nat // p < x ∧ x < m }

/-- Where the i-th argument of the term at p begins. -/
def argP (a : Nat → Nat) (m p i : Nat) : Nat := (skip a m (p + 1) i).getD 0

theorem argP_some {a : Nat → Nat} {m p i r : Nat} (h : skip a m (p + 1) i = some r) : argP a m p i = r := by simp [argP, h]

set_option maxRecDepth 20000 in
set_option maxHeartbeats 400000 in
theorem argumentsThere_any (p p' : Option Addr) (n c m c' : Nat) (x : Int) (w : World) :
    Calls Try.prog 85 #[.agg #[.slice p n c], .slice p' m c', .int .i64 x] w fun e w' => e = .returned (.func (.func 100) #[] #[.pointer (some ⟨w.heap.size + 1 + 1, 0, none⟩), .pointer (some ⟨w.heap.size, 0, none⟩), .pointer (some ⟨w.heap.size + 1, 0, none⟩)]) ∧ w' = ((w.alloc (.cells #[.slice p n c] 34)).alloc (.cells #[.slice p' m c'] 26)).alloc (.cells #[.int .i64 x] 2) := by
  have hmf : ∀ (fn : Fn) (first cap : Array Value) (w : World), (Instr.makeFunc fn first cap).run Try.prog w = .ok (.func fn first cap) w := fun _ _ _ _ => rfl
  go_enter Try.func85, Try.ntmps85
  go_wp2
  go_ret
  exact ⟨rfl, rfl⟩

set_option maxRecDepth 100000 in
set_option maxHeartbeats 8000000 in
theorem args1_in (k0 : Nat) (hn : 1 ≤ k0) (l Ba Bs Bt X B b off n c b' off' m c' p ar : Nat) (N : Nat → ByteArray) (A T : Nat → Int) (hg : Trm n A m T) (hp : p < m) (har : ar = aOf A T p) (hc' : m ≤ c')
    (hb : b < B ∧ b ≠ X) (hb' : b' < B ∧ b' ≠ X) (hBs : Bs < B ∧ Bs ≠ X) (hBt : Bt < B ∧ Bt ≠ X) (J Jx : List (Arg p m) → World → Prop)
    (hJ : ∀ s w w', J s w → Below w.heap.size w w' → J s w')
    (hY : ∀ pre (x : Arg p m) W, J pre W → pre.length < ar → YieldAt Fence.wide (k0 - 1) Try.prog l #[.int .i64 (x.1 : Int)] W fun e W' =>
      (e = .returned (.bool true) ∧ J (pre ++ [x]) W' ∧ But X B W W') ∨ (e = .returned (.bool false) ∧ Jx (pre ++ [x]) W'))
    (W : World) (hBW : B ≤ W.heap.size) (hca : W.cell? ⟨Ba, 0, none⟩ = some (.int .i64 p)) (hcs : W.cell? ⟨Bs, 0, none⟩ = some (.slice (some ⟨b, off, none⟩) n c)) (hct : W.cell? ⟨Bt, 0, none⟩ = some (.slice (some ⟨b', off', none⟩) m c')) (hs : Syms W b off n N A) (ht : Ints W b' off' m T) (h0 : J [] W) :
    CallsIn Fence.wide k0 Try.prog 100 #[.func (.yield l) #[] #[], .pointer (some ⟨Ba, 0, none⟩), .pointer (some ⟨Bs, 0, none⟩), .pointer (some ⟨Bt, 0, none⟩)] W fun e W' => (∃ v, e = .returned v) ∧
      ((∃ xs, xs.map (·.1) = upto (argP (aOf A T) m p) ar ∧ J xs W') ∨ (∃ pre, True ∧ Jx pre W')) := by
  refine callsIn_of_wp Try.func100 rfl trivial ?_ rfl
  simp only [Try.ntmps100, List.size_toArray, List.length_cons, List.length_nil, Nat.reduceAdd, Nat.reduceSub, Array.replicate_succ, Array.replicate_zero, List.push_toArray, List.append_toArray, List.nil_append, List.cons_append]
  have hm24 := hg.nods.most
  have hmx : Try.prog.follows .mixedOrders = true := by kernel_rfl
  have har2 : ar ≤ 2 := by rw [har]; exact hg.nods.aOf_le hp
  obtain ⟨en, hen, _, _⟩ := skip_inner hg.whole hp
  have HE := hidden (show skip (aOf A T) m (p + 1) ar = some en by rw [har, ← skip_one _ hp]; exact hen)
  have HG := hidden hg
  have HS := hidden hs
  have HT := hidden ht
  have HY := hidden hY
  have HJ := hidden hJ
  have H0 := hidden h0
  have HCS := hidden hcs
  have HCT := hidden hct
  have HBW := hidden hBW
  have c1 := ht.cell p hp
  have AC := hidden (argumentCount_any b off n c m N A T p W.drew (hs.keep (Below.refl _ _).drew) hg.nods hp)
  rw [← har] at AC
  clear hg hs ht hY hJ h0 har hen hBW
  generalize T p = x at c1 AC
  gi_wp2
  gi_cut [13, 14] from 27 (fun t z wc => t = .int .i64 ar ∧ z = .int .i64 0 ∧ Hid (Below W.heap.size W wc))
  case first =>
    first | gi_region_with_o (refine ⟨trivial, ?_⟩; gi_at_call 99; refine (callsIn_wide.2 AC.out).mono ?_; rintro e w1 ⟨rfl, hb1⟩) | fail
    all_goals gi_wp2
    all_goals gi_meet
    all_goals exact ⟨rfl, rfl, hidden ((Below.refl _ _).drew.trans hb1)⟩
  case rest =>
    rename World => w1
    obtain ⟨rfl, rfl, HB1⟩ := hcut
    clear AC c1
    have J1 := hidden (HJ.out _ _ _ H0.out HB1.out)
    clear H0
    gi_wp2
    gi_loopw [5, 14] (fun q i wr => ∃ (k r : Nat) (pre : List (Arg p m)), k ≤ ar ∧ r ≤ m ∧ p < r ∧ q = .int .i64 r ∧ i = .int .i64 k ∧ pre.length = k ∧ Hid (skip (aOf A T) m (p + 1) k = some r) ∧ Hid (pre.map (·.1) = upto (argP (aOf A T) m p) k) ∧ Hid (J pre wr) ∧ Hid (But X B W wr))
      (fun _ i _ => ar - (intOf i).toNat)
    case atStart => exact ⟨0, p + 1, [], Nat.zero_le _, by omega, by omega, by go_num, rfl, rfl, hidden (skip_zero _ _ _), hidden rfl, J1, hidden (But.of HB1.out HBW.out)⟩
    case round =>
      obtain ⟨k, r, pre, hk, hr, hpr, rfl, rfl, hpl, HK, HM, HI, HB⟩ := hrel
      by_cases hlt : k < ar
      · obtain ⟨r', r2, e1, e2, e3⟩ := skip_arg HE.out hlt
        obtain rfl : r = r' := by rw [HK.out] at e1; exact Option.some.inj e1
        have hr2 := (skip_le e2).2 (by omega)
        have hrm : r < m := by omega
        have HMN := hidden (manyN_some e2)
        have HK2 := hidden e3
        have HP := hidden (argP_some HK.out)
        obtain ⟨fn, tmps, assign, body, hy, hR⟩ := HY.out pre ⟨r, hpr, hrm⟩ wr HI.out (by omega)
        dsimp only at hy
        clear e1 e2 e3 HK HI
        gi_wp2
        refine hR.mono ?_
        rintro e W3 (⟨rfl, hJ3, hk3⟩ | ⟨rfl, hJx3⟩)
        · have HJ3 := hidden hJ3
          have HB3 := hidden (HB.out.trans hk3)
          have c2 : W3.cell? ⟨Bs, 0, none⟩ = some (.slice (some ⟨b, off, none⟩) n c) := (HB3.out.cell hBs.1 hBs.2).trans HCS.out
          have c3 : W3.cell? ⟨Bt, 0, none⟩ = some (.slice (some ⟨b', off', none⟩) m c') := (HB3.out.cell hBt.1 hBt.2).trans HCT.out
          have SC := hidden (sizeThere_any b off n c b' off' m c' r N A T W3 (HS.out.but HB3.out hb.1 hb.2) (HT.out.but HB3.out hb'.1 hb'.2) HG.out.nods HG.out.sig.least hrm hc')
          rw [HMN.out] at SC
          clear hJ3 hk3 hR hy HB
          gi_wp2_with (refine ⟨trivial, ?_⟩; gi_at_call 86; refine (callsIn_wide.2 SC.out).mono ?_; rintro e w4 ⟨rfl, hb4⟩; clear SC; have HJ4 := hidden (HJ.out _ _ _ HJ3.out hb4); have HB4 := hidden (HB3.out.trans (But.of hb4 (by have := HB3.out.size; have := HBW.out; omega))); clear hb4 c2 c3 HJ3 HB3)
          go_roundw
          case rel => exact ⟨k + 1, r2, pre ++ [⟨r, hpr, hrm⟩], by omega, by omega, by omega, by congr 1; omega, by go_num, by simp [hpl], HK2, hidden (by rw [List.map_append, HM.out, upto_succ, HP.out]; rfl), HJ4, HB4⟩
          case measure => simp [intOf]; omega
        · have HJ3 := hidden hJx3
          clear hJx3 hR hy
          gi_wp2
          refine bodyPost_ret (results_none rfl _ _ _) rfl ?_
          exact ⟨⟨_, rfl⟩, .inr ⟨_, trivial, HJ3.out⟩⟩
      · obtain rfl : k = ar := by omega
        gi_wp2
        go_end0
        exact ⟨⟨_, rfl⟩, .inl ⟨_, HM.out, HI.out⟩⟩

/-- The contract of argumentsThere's answer. -/
theorem args_stops (k0 : Nat) (hn : 1 ≤ k0) (Ba Bs Bt X B b off n c b' off' m c' p ar : Nat) (N : Nat → ByteArray) (A T : Nat → Int) (hg : Trm n A m T) (hp : p < m) (har : ar = aOf A T p) (hc' : m ≤ c')
    (hb : b < B ∧ b ≠ X) (hb' : b' < B ∧ b' ≠ X) (hBs : Bs < B ∧ Bs ≠ X) (hBt : Bt < B ∧ Bt ≠ X) (w : World) (hBa : Ba < w.heap.size) (hBW : B ≤ w.heap.size) (hca : w.cell? ⟨Ba, 0, none⟩ = some (.int .i64 p)) (hcs : w.cell? ⟨Bs, 0, none⟩ = some (.slice (some ⟨b, off, none⟩) n c)) (hct : w.cell? ⟨Bt, 0, none⟩ = some (.slice (some ⟨b', off', none⟩) m c')) (hs : Syms w b off n N A) (ht : Ints w b' off' m T) :
    SeqStopsK Fence.wide k0 Try.prog 100 #[.pointer (some ⟨Ba, 0, none⟩), .pointer (some ⟨Bs, 0, none⟩), .pointer (some ⟨Bt, 0, none⟩)] (fun x : Arg p m => #[Value.int .i64 (x.1 : Int)]) (But X B)
      (fun xs => xs.map (·.1) = upto (argP (aOf A T) m p) ar) (fun _ => True) ar w := fun l J Jx W hW hJ _ hY h0 =>
  args1_in k0 hn l Ba Bs Bt X B b off n c b' off' m c' p ar N A T hg hp har hc' hb hb' hBs hBt J Jx (fun s w w' h hb => AbidesFrom.below hJ h hb) hY W (Nat.le_trans hBW hW.size)
    ((hW.cell (p := ⟨Ba, 0, none⟩) hBa).trans hca) ((hW.cell (p := ⟨Bs, 0, none⟩) (by show Bs < w.heap.size; omega)).trans hcs) ((hW.cell (p := ⟨Bt, 0, none⟩) (by show Bt < w.heap.size; omega)).trans hct) (hs.keep hW) (ht.keep hW) h0

end Go.Proofs.Ytbdgnpjbmlcchaa

/- A region that draws its order, in a round of a range over a function: as it goes without a round. -/
namespace Go.Proofs.Ytbdgnpjbmlcchaa
open Go.RowKit Go.Shelf

/-- No operation of a region is put off. -/
def noDefer (ops : Array Oper) : Bool := ops.toList.all fun o => match o.op with | .defer _ => false | _ => true

theorem noDefer_op {ops : Array Oper} (h : noDefer ops = true) {i : Nat} {o : Oper} (ho : ops[i]? = some o) : ∀ c, o.op ≠ .defer c := by
  have h1 := List.all_eq_true.1 h o (by rw [Array.mem_toList_iff]; exact Array.mem_of_getElem? ho)
  intro c e
  rw [e] at h1
  cases h1

theorem operIn_round {n l : Nat} {P : Program} {o : Oper} {Q : Exit → Act → World → Prop} {K K' : Act → World → Prop} {a : Act} {w : World} (hd : ∀ c, o.op ≠ .defer c)
    (hK : ∀ a w, K a w → K' a w) (h : o.wp P a w K Q) : o.wpIn (Fence.wide.inRound l) n P a w K' Q := by
  refine ⟨fun _ _ => trivial, ?_⟩
  rw [Oper.semAt_eq _ _ _ hd]
  unfold Oper.wp at h
  generalize (execOp a.eval o).run P w = r at h
  cases r with
  | ok x w' =>
    cases x with
    | value v => exact hK _ _ h
    | skip => exact hK _ _ h
    | defer d => exact hK _ _ h
    | enter f args =>
      refine ⟨fun h => by simp [Fence.wide, Fence.inRound] at h, ?_⟩
      refine CallsIn.inRound l (CallsIn.mono (callsIn_wide.2 h) ?_)
      intro e w'' he
      cases e with
      | returned v => exact hK _ _ he
      | panicked ch => exact he
      | outgrown => exact he
    | row r args =>
      refine ⟨fun h => by simp [Fence.wide, Fence.inRound] at h, ?_⟩
      intro c cs _
      obtain ⟨v, w2, hv, hs⟩ := h c cs
      exact ⟨v, w2, hK _ _ hv, stepsIn_wide.2 hs⟩
    | round l f t a b => exact h.elim
    | _ => exact h.elim
  | halt x w' =>
    cases x with
    | panic v => exact h
    | _ => exact h.elim

theorem wpAnyIn_round {n l : Nat} {P : Program} {md : Region.Mode} {ops : Array Oper} {Q : Exit → Act → World → Prop} (hd : noDefer ops = true) (hno : ¬ LetsOut Q) : ∀ (fuel : Nat) (listed : Array Bool) (a : Act) (w : World),
    wpAny P md ops Q fuel listed a w → wpAnyIn (Fence.wide.inRound l) n P md ops Q fuel listed a w
  | 0, listed, a, w, h => h
  | fuel + 1, listed, a, w, h => by
    refine ⟨h.1, fun i hi => ?_⟩
    have h1 := h.2 i hi
    unfold wpOp at h1
    unfold wpOpIn
    cases ho : ops[i]? with
    | none => rw [ho] at h1; exact wpAnyIn_round hd hno fuel _ _ _ h1
    | some o =>
      rw [ho] at h1
      dsimp only at h1 ⊢
      split
      · rename_i hw
        rw [if_pos hw] at h1
        exact operIn_round (noDefer_op hd ho) (fun a w h => wpAnyIn_round hd hno fuel _ _ _ h) (h1.resolve_right fun h => hno h.2)
      · rename_i hw
        rw [if_neg hw] at h1
        exact ⟨fun _ _ => trivial, wpAnyIn_round hd hno fuel _ _ _ h1⟩

/-- A statement that ends as it should serves whatever is said of its other ends. -/
theorem wpIn_no {F : Fence} {k : Nat} {P : Program} {s : Code} {K : Act → World → Prop} {Q' : Exit → Act → World → Prop} {a : Act} {w : World} (h : s.wpIn F k P (Exit.then K (fun _ _ _ => False)) a w) : s.wpIn F k P (Exit.then K Q') a w := by
  refine wpIn_mono h ?_
  intro e a' w' hq
  cases e with
  | normal => exact hq
  | exit id => exact hq.elim
  | goto l => exact hq.elim
  | ret => exact hq.elim
  | panic ch => exact hq.elim
  | outgrown => exact hq.elim

theorem wpIn_region_held {n l : Nat} {P : Program} {ops : Array Oper} {K : Act → World → Prop} {Q' : Exit → Act → World → Prop} {S : World → Prop} {id : Nat} {a : Act} {w : World} (hm : P.follows .mixedOrders = true) (hd : noDefer ops = true) (hS : S w.drew)
    (h : S w.drew → wpAnyH P .any ops (Exit.then K (fun _ _ _ => False)) S ops.size (Array.replicate ops.size false) a w.drew) : (Code.region id ops true).wpIn (Fence.wide.inRound l) n P (Exit.then K Q') a w :=
  wpIn_no (wpIn_region_any hm (wpAnyIn_round hd (fun ⟨_, _, h⟩ => h) _ _ _ _ (wpAny_of_held _ _ _ _ (h hS))))

end Go.Proofs.Ytbdgnpjbmlcchaa

/- Contract: placesFromInside: the places of a term, each one behind those of its arguments, as the program tells them. -/
namespace Go.Proofs.Ytbdgnpjbmlcchaa
open Go.RowKit Go.Shelf

attribute [local go_sem] Oper.semAt_some

/-- The places of the term at p, from the inside. -/
def plL (a : Nat → Nat) (m p : Nat) : List Int := (pst a m p 1).map (fun x : Nat => (x : Int))
/-- .. of some arguments. -/
def plS (a : Nat → Nat) (m : Nat) {p : Nat} (l : List (Arg p m)) : List Int := (l.map (fun x => plL a m x.1)).flatten

theorem plS_snoc (a : Nat → Nat) (m : Nat) {p : Nat} (l : List (Arg p m)) (x : Arg p m) : plS a m (l ++ [x]) = plS a m l ++ plL a m x.1 := by simp [plS]

theorem plL_len {a : Nat → Nat} {m p : Nat} (hw : skip a m 0 1 = some m) (hp : p < m) : 0 < (plL a m p).length ∧ (plL a m p).length ≤ m := by
  obtain ⟨e, he, h1, h2⟩ := skip_inner hw hp
  unfold plL
  rw [List.length_map, pst_len _ p 1 e (Nat.le_refl _) he]
  omega

theorem plS_len {a : Nat → Nat} {m p : Nat} (hw : skip a m 0 1 = some m) (hm : m ≤ 24) : ∀ (l : List (Arg p m)), (plS a m l).length ≤ 24 * l.length
  | [] => by simp [plS]
  | x :: l => by
    have h1 := plS_len hw hm l
    have h2 := (plL_len hw x.2.2).2
    simp only [plS, List.map_cons, List.flatten_cons, List.length_append, List.length_cons] at h1 ⊢
    omega

theorem pst_args {a : Nat → Nat} {m p e ar : Nat} (h : skip a m (p + 1) ar = some e) : ∀ k r, k ≤ ar → skip a m (p + 1) k = some r → ((upto (argP a m p) k).map (fun x => plL a m x)).flatten = (pst a m (p + 1) k).map (fun x : Nat => (x : Int)) := by
  intro k
  induction k with
  | zero => intro r _ hr; rw [pst_zero]; simp [upto]
  | succ k ih =>
    intro r hk hr
    obtain ⟨q, r', e1, e2, e3⟩ := skip_arg h (i := k) (by omega)
    rw [upto_succ, List.map_append, List.flatten_append, ih q (by omega) e1, pst_add k (p + 1) 1 q e1, List.map_append, argP_some e1]
    simp [plL]

theorem plS_all {a : Nat → Nat} {m p e : Nat} (hp : p < m) (h : skip a m p 1 = some e) {xs : List (Arg p m)} (hx : xs.map (·.1) = upto (argP a m p) (a p)) : plS a m xs ++ [(p : Int)] = plL a m p := by
  have h1 := h
  rw [skip_one a hp] at h1
  have h2 := pst_args h1 (a p) e (Nat.le_refl _) h1
  unfold plS plL
  rw [pst_one h, List.map_append, ← h2, ← hx, List.map_map]
  rfl

theorem But.grow8 {X B : Nat} {w w' : World} {row : Option Nat} (h : w.grownBy w' row) (hB : B ≤ w.heap.size) (hr : ∀ r, row = some r → B ≤ r) : But X B w w' :=
  ⟨h.os, h.tape, h.output, h.size, fun k hk _ => h.block k (by omega) (fun e => by have := hr k e.symm; omega)⟩

theorem wpIn_region_heldQ {n l : Nat} {P : Program} {ops : Array Oper} {Q : Exit → Act → World → Prop} {S : World → Prop} {id : Nat} {a : Act} {w : World} (hm : P.follows .mixedOrders = true) (hd : noDefer ops = true) (hS : S w.drew)
    (h : S w.drew → wpAnyH P .any ops (Exit.then (fun a w => Q .normal a w) (fun _ _ _ => False)) S ops.size (Array.replicate ops.size false) a w.drew) : (Code.region id ops true).wpIn (Fence.wide.inRound l) n P Q a w := by
  refine wpIn_mono (wpIn_region_held (Q' := fun _ _ _ => False) hm hd hS h) ?_
  intro e a' w' hq
  cases e with
  | normal => exact hq
  | exit id => exact hq.elim
  | goto l => exact hq.elim
  | ret => exact hq.elim
  | panic ch => exact hq.elim
  | outgrown => exact hq.elim

theorem own_base8 {W : World} {base : Nat} {e : TypeId} {v : Value} {k : Nat} {xs : List Value} (h : W.ownsRow base e 1 v k xs) : ∀ r, v.ownBlock = some r → base ≤ r ∧ ∀ o : Obj, W.heap[r]? = some o → o.isCells = true := by
  intro r hr
  rcases h.2 with ⟨rfl, _⟩ | ⟨g, cap, cur, rfl, hb, hg, _⟩
  · simp [Value.ownBlock] at hr
  · have e1 : g = r := by simpa [Value.ownBlock] using hr
    subst e1
    exact ⟨hb, fun o ho => by rw [hg] at ho; cases ho; rfl⟩

theorem ownsRow_stays8 {W W' : World} {row : Option Nat} {base : Nat} {e : TypeId} {size : Nat} {v : Value} {k : Nat} {xs : List Value} (h : W.ownsRow base e size v k xs) (hg : W.grownBy W' row)
    (hrow : ∀ r, row = some r → ∃ o : Obj, W.heap[r]? = some o ∧ o.isCells = false) : W'.ownsRow base e size v k xs := by
  refine h.kept hg ?_
  rcases h.2 with ⟨rfl, _⟩ | ⟨g, cap, cur, rfl, _, hgb, _⟩
  · exact .inl rfl
  · refine .inr ?_
    intro e1
    obtain ⟨o, ho, hc⟩ := hrow g e1.symm
    rw [hgb] at ho
    cases ho
    cases hc

/-- A variable in a box of its own. -/
structure Bx8 (w : World) (b : Nat) (v : Value) : Prop where
  blk : b < w.heap.size
  c0 : w.cell? ⟨b, 0, none⟩ = some v
  f0 : w.frozen? ⟨b, 0, none⟩ = false

theorem Bx8.keep {w w' : World} {b : Nat} {v : Value} (h : Bx8 w b v) (hb : Below w.heap.size w w') : Bx8 w' b v :=
  ⟨Nat.lt_of_lt_of_le h.blk hb.size, by rw [hb.cell (p := ⟨b, 0, none⟩) h.blk]; exact h.c0, by rw [hb.frozen (p := ⟨b, 0, none⟩) h.blk]; exact h.f0⟩

theorem Bx8.grownO {w w' : World} {b : Nat} {v : Value} {row : Option Nat} (h : Bx8 w b v) (hg : w.grownBy w' row) (hne : row ≠ some b) : Bx8 w' b v := by
  have hb := hg.block b h.blk (fun e => hne e.symm)
  exact ⟨Nat.lt_of_lt_of_le h.blk hg.size, by rw [cell_of_blk hb]; exact h.c0, by rw [World.frozen?_of_block hb]; exact h.f0⟩

theorem pfi_cells {w W v1 v6 : World} {s b off n c b' off' m c' : Nat} {v : Value} (hbW : Below W.heap.size W v1) (hsW : s + 1 + 1 + 1 < W.heap.size) (hbw : w.heap.size + 1 + 1 ≤ s)
    (hgr : v1.grownBy v6 v.ownBlock) (hob : ∀ r, v.ownBlock = some r → s + 1 + 1 + 1 + 1 ≤ r ∧ ∀ o : Obj, v1.heap[r]? = some o → o.isCells = true)
    (hcs : W.cell? ⟨w.heap.size, 0, none⟩ = some (.slice (some ⟨b, off, none⟩) n c)) (hct : W.cell? ⟨w.heap.size + 1, 0, none⟩ = some (.slice (some ⟨b', off', none⟩) m c')) :
    v6.cell? ⟨w.heap.size, 0, none⟩ = some (.slice (some ⟨b, off, none⟩) n c) ∧ v6.cell? ⟨w.heap.size + 1, 0, none⟩ = some (.slice (some ⟨b', off', none⟩) m c') := by
  have z1 := hbW.size
  have hbut : But s (s + 1 + 1 + 1) W v6 := (But.of hbW (by omega)).trans (But.grow8 hgr (by omega) (fun r e => by have := (hob r e).1; omega))
  exact ⟨(hbut.cell (by omega) (by omega)).trans hcs, (hbut.cell (by omega) (by omega)).trans hct⟩

/-- What a round leaves. -/
theorem pfi_round {w W v1 v6 : World} {s kk b off n c b' off' m c' : Nat} {v nv : Value} {ys : List Value} (hbW : Below W.heap.size W v1) (hsW : s + 1 + 1 + 1 < W.heap.size) (HB : Below w.heap.size w W) (hbw : w.heap.size + 1 + 1 ≤ s)
    (hgr : v1.grownBy v6 v.ownBlock) (hob : ∀ r, v.ownBlock = some r → s + 1 + 1 + 1 + 1 ≤ r ∧ ∀ o : Obj, v1.heap[r]? = some o → o.isCells = true)
    (how : v6.ownsRow (s + 1 + 1 + 1 + 1) 2 1 nv kk ys) (cX3 : v6.cell? ⟨s, 0, none⟩ = some v) (fX3 : v6.frozen? ⟨s, 0, none⟩ = false)
    (hcs : W.cell? ⟨w.heap.size, 0, none⟩ = some (.slice (some ⟨b, off, none⟩) n c)) (hct : W.cell? ⟨w.heap.size + 1, 0, none⟩ = some (.slice (some ⟨b', off', none⟩) m c')) :
    (∀ BB, KeepsFrom BB W (v6.setCell ⟨s, 0, none⟩ nv)) ∧ But s (s + 1 + 1 + 1) W (v6.setCell ⟨s, 0, none⟩ nv) ∧
    (((v6.setCell ⟨s, 0, none⟩ nv).cell? ⟨s, 0, none⟩ = some nv ∧ (v6.setCell ⟨s, 0, none⟩ nv).frozen? ⟨s, 0, none⟩ = false ∧ (v6.setCell ⟨s, 0, none⟩ nv).ownsRow (s + 1 + 1 + 1 + 1) 2 1 nv kk ys ∧ (v6.setCell ⟨s, 0, none⟩ nv).cell? ⟨w.heap.size, 0, none⟩ = some (.slice (some ⟨b, off, none⟩) n c) ∧ (v6.setCell ⟨s, 0, none⟩ nv).cell? ⟨w.heap.size + 1, 0, none⟩ = some (.slice (some ⟨b', off', none⟩) m c') ∧ s + 1 + 1 + 1 < (v6.setCell ⟨s, 0, none⟩ nv).heap.size) ∧ Below w.heap.size w (v6.setCell ⟨s, 0, none⟩ nv)) := by
  have z1 := hbW.size
  have hbut : But s (s + 1 + 1 + 1) W (v6.setCell ⟨s, 0, none⟩ nv) :=
    ((But.of hbW (by omega)).trans (But.grow8 hgr (by omega) (fun r e => by have := (hob r e).1; omega))).trans (But.set _ _ _ _)
  refine ⟨fun _ => ((keepsFrom_below hbW).trans ((KeepsOthers.of_grownBy hgr (fun j o e ho => (hob j e).2 o ho)).from _)).trans ((KeepsOthers.setCell _ _ _).from _), hbut, ⟨World.cell?_setCell_same _ _ _ cX3, by rw [World.frozen?_setCell]; exact fX3, ?_, ?_, ?_, ?_⟩, ?_⟩
  · refine how.kept (grownBy_setCell' v6 s nv) ?_
    rcases how.2 with ⟨e, _⟩ | ⟨g, cap, cur, e, hb, _⟩
    · exact .inl (by rw [e]; rfl)
    · refine .inr (by rw [e]; intro h; simp [Value.ownBlock] at h; omega)
  · exact (hbut.cell (by omega) (by omega)).trans hcs
  · exact (hbut.cell (by omega) (by omega)).trans hct
  · have := hbut.size; omega
  · have B2 : Below w.heap.size w v1 := keepB HB hbW
    refine (B2.grown hgr B2.size (fun k e => by have := (hob k e).1; omega)).setCell (by show w.heap.size ≤ s; omega) _

set_option maxRecDepth 100000 in
set_option maxHeartbeats 8000000 in
theorem placesIn_any (b off n c b' off' m c' : Nat) (N : Nat → ByteArray) (A T : Nat → Int) (hg : Trm n A m T) (hc' : m ≤ c') : ∀ (d p : Nat), m - p ≤ d → p < m → ∀ w : World, Syms w b off n N A → Ints w b' off' m T →
    Calls Try.prog 62 #[.agg #[.slice (some ⟨b, off, none⟩) n c], (.slice (some ⟨b', off', none⟩) m c'), .int .i64 p] w fun e w' => (∃ g d, e = .returned (.slice (some ⟨g, 0, none⟩) (plL (aOf A T) m p).length d) ∧ OwnI w' w.heap.size g (plL (aOf A T) m p).length d (fun i => (plL (aOf A T) m p).getD i 0) (plL (aOf A T) m p).length) ∧ Below w.heap.size w w' := by
  intro d
  induction d with
  | zero => intro p hd hp; omega
  | succ d ih =>
  intro p hd hp w h h'
  refine (callsIn_wide (n := 3)).1 ?_
  refine callsIn_of_wp_marks Try.func62 rfl trivial ?_ rfl
  simp only [Try.ntmps62, List.size_toArray, List.length_cons, List.length_nil, Nat.reduceAdd, Nat.reduceSub, Array.replicate_succ, Array.replicate_zero, List.push_toArray, List.append_toArray, List.nil_append, List.cons_append]
  have hb := h.blk hg.sig.least
  have hb' := h'.blk hg.pos
  have hm24 := hg.nods.most
  have hmx : Try.prog.follows .mixedOrders = true := by kernel_rfl
  obtain ⟨en, hen, _, _⟩ := skip_inner hg.whole hp
  have HEN := hidden hen
  have HS := hidden h
  have HT := hidden h'
  have HG := hidden hg
  have IH := hidden ih
  clear h h' hg ih hen
  gi_wp2_with (refine ⟨trivial, ?_⟩; gi_at_call 85; refine (callsIn_wide.2 (argumentsThere_any _ _ _ _ _ _ _ _)).mono ?_; rintro e w' ⟨rfl, rfl⟩)
  have b0 := Boxed.new w 34 (.slice (some ⟨b, off, none⟩) n c)
  have b1 := Boxed.new (w.alloc (.cells #[.slice (some ⟨b, off, none⟩) n c] 34)) 26 (.slice (some ⟨b', off', none⟩) m c')
  have b2 := Boxed.new ((w.alloc (.cells #[.slice (some ⟨b, off, none⟩) n c] 34)).alloc (.cells #[.slice (some ⟨b', off', none⟩) m c'] 26)) 26 (.slice none 0 0)
  have b3 := Boxed.new (((w.alloc (.cells #[.slice (some ⟨b, off, none⟩) n c] 34)).alloc (.cells #[.slice (some ⟨b', off', none⟩) m c'] 26)).alloc (.cells #[.slice none 0 0] 26)) 34 (.slice (some ⟨b, off, none⟩) n c)
  have b4 := Boxed.new ((((w.alloc (.cells #[.slice (some ⟨b, off, none⟩) n c] 34)).alloc (.cells #[.slice (some ⟨b', off', none⟩) m c'] 26)).alloc (.cells #[.slice none 0 0] 26)).alloc (.cells #[.slice (some ⟨b, off, none⟩) n c] 34)) 26 (.slice (some ⟨b', off', none⟩) m c')
  have b5 := Boxed.new (((((w.alloc (.cells #[.slice (some ⟨b, off, none⟩) n c] 34)).alloc (.cells #[.slice (some ⟨b', off', none⟩) m c'] 26)).alloc (.cells #[.slice none 0 0] 26)).alloc (.cells #[.slice (some ⟨b, off, none⟩) n c] 34)).alloc (.cells #[.slice (some ⟨b', off', none⟩) m c'] 26)) 2 (.int .i64 p)
  simp only [World.size_alloc] at b1 b2 b3 b4 b5
  have hB0 : Below w.heap.size w ((((((w.alloc (.cells #[.slice (some ⟨b, off, none⟩) n c] 34)).alloc (.cells #[.slice (some ⟨b', off', none⟩) m c'] 26)).alloc (.cells #[.slice none 0 0] 26)).alloc (.cells #[.slice (some ⟨b, off, none⟩) n c] 34)).alloc (.cells #[.slice (some ⟨b', off', none⟩) m c'] 26)).alloc (.cells #[.int .i64 p] 2)) :=
    ((((((Below.refl _ w).alloc (Nat.le_refl _) _).alloc (by simp) _).alloc (by simp; omega) _).alloc (by simp; omega) _).alloc (by simp; omega) _).alloc (by simp; omega) _
  refine wpIn_rangeFunc_ownG rfl (by omega) (gf := 100) (lb := #[.pointer (some ⟨w.heap.size + 1 + 1 + 1 + 1 + 1, 0, none⟩), .pointer (some ⟨w.heap.size + 1 + 1 + 1, 0, none⟩), .pointer (some ⟨w.heap.size + 1 + 1 + 1 + 1, 0, none⟩)]) rfl trivial (enters_of Try.func100 (by kernel_rfl) rfl)
    (args_stops _ (by omega) (w.heap.size + 1 + 1 + 1 + 1 + 1) (w.heap.size + 1 + 1 + 1) (w.heap.size + 1 + 1 + 1 + 1) (w.heap.size + 1 + 1) (w.heap.size + 1 + 1 + 1 + 1 + 1) b off n c b' off' m c' p (aOf A T p) N A T HG.out hp rfl hc' ⟨by omega, by omega⟩ ⟨by omega, by omega⟩ ⟨by omega, by omega⟩ ⟨by omega, by omega⟩ _ (by simp) (by simp) b5.cell ((b3.alloc _).alloc _).cell (b4.alloc _).cell (HS.out.keep hB0) (HT.out.keep hB0))
    butK_t (butK_b (by simp)) (Below.refl _ _) (fun _ => rfl)
    (fun pre W => (∃ v, W.cell? ⟨w.heap.size + 1 + 1, 0, none⟩ = some v ∧ W.frozen? ⟨w.heap.size + 1 + 1, 0, none⟩ = false ∧ W.ownsRow (w.heap.size + 1 + 1 + 1 + 1 + 1 + 1) 2 1 v (plS (aOf A T) m pre).length ((plS (aOf A T) m pre).map (fun x => Value.int .i64 x)) ∧ W.cell? ⟨w.heap.size, 0, none⟩ = some (.slice (some ⟨b, off, none⟩) n c) ∧ W.cell? ⟨w.heap.size + 1, 0, none⟩ = some (.slice (some ⟨b', off', none⟩) m c') ∧ w.heap.size + 1 + 1 + 1 + 1 + 1 < W.heap.size) ∧ Below w.heap.size w W)
    (fun _ _ _ => False)
    (OwnFrom.and (Own.from (fun s A B row hs hg hr => by
      obtain ⟨v, h1, h2, h3, h4, h5, h6⟩ := hs
      exact ⟨v, cell_kept h1 hg hr, (frozen_kept h1 hg hr).trans h2, ownsRow_stays8 h3 hg hr, cell_kept h4 hg hr, cell_kept h5 hg hr, Nat.lt_of_lt_of_le h6 hg.size⟩) _) (ownFrom_below (Nat.le_refl _) (by simp; omega)))
    (fun _ _ _ _ _ hs _ _ => hs)
    ⟨⟨_, (((b2.alloc _).alloc _).alloc _).cell, (((b2.alloc _).alloc _).alloc _).frozen, ⟨rfl, .inl ⟨rfl, rfl⟩⟩, (((((b0.alloc _).alloc _).alloc _).alloc _).alloc _).cell, ((((b1.alloc _).alloc _).alloc _).alloc _).cell, by simp⟩, hB0⟩
    (fun x => { tmps := #[.agg #[.slice (some ⟨b, off, none⟩) n c], .slice (some ⟨b', off', none⟩) m c', .int .i64 p, .pointer (some ⟨w.heap.size, 0, none⟩), .pointer (some ⟨w.heap.size + 1, 0, none⟩), undef, .slice none 0 0, .pointer (some ⟨w.heap.size + 1 + 1, 0, none⟩), .int .i64 (x.1 : Int), .agg #[.slice (some ⟨b, off, none⟩) n c], .slice (some ⟨b', off', none⟩) m c', .int .i64 p, .func (.func 100) #[] #[.pointer (some ⟨w.heap.size + 1 + 1 + 1 + 1 + 1, 0, none⟩), .pointer (some ⟨w.heap.size + 1 + 1 + 1, 0, none⟩), .pointer (some ⟨w.heap.size + 1 + 1 + 1 + 1, 0, none⟩)], .int .i64 (x.1 : Int), undef, undef, undef, undef, undef, undef, undef, undef, undef, undef], defers := [] }) ?assign ?body ?done ?stop
  case assign =>
    intro l x W K hK
    gi_wp2
    exact hK
  case body =>
    rintro l pre x W ⟨⟨v, hcx, hfx, hrow, hcs, hct, hsW⟩, hB⟩ hl
    have har2 := HG.out.nods.aOf_le hp
    have hkl := plS_len (p := p) HG.out.whole hm24 pre
    have hql := plL_len HG.out.whole x.2.2
    have HM := hidden (plS_snoc (aOf A T) m pre x)
    have HB := hidden hB
    have IC := hidden (IH.out x.1 (by have := x.2.1; omega) x.2.2 W.drew (HS.out.keep hB.drew) (HT.out.keep hB.drew))
    have hX : w.heap.size + 1 + 1 < W.heap.size := World.block_lt_of_cell? W _ hcx
    have BX := hidden (Bx8.mk hX hcx hfx)
    have CK := hidden (And.intro hcs hct)
    have CKB := hidden (show ∀ w', Below W.heap.size W w' → (w'.cell? ⟨w.heap.size, 0, none⟩ = some (.slice (some ⟨b, off, none⟩) n c) ∧ w'.cell? ⟨w.heap.size + 1, 0, none⟩ = some (.slice (some ⟨b', off', none⟩) m c')) from fun w' hb => ⟨(hb.cell (p := ⟨w.heap.size, 0, none⟩) (by show w.heap.size < _; omega)).trans hcs, (hb.cell (p := ⟨w.heap.size + 1, 0, none⟩) (by show w.heap.size + 1 < _; omega)).trans hct⟩)
    obtain ⟨k, hk⟩ : ∃ k, k = (plS (aOf A T) m pre).length := ⟨_, rfl⟩
    obtain ⟨ux, hux⟩ : ∃ ux, ux = plL (aOf A T) m x.1 := ⟨_, rfl⟩
    rw [← hux] at IC HM hql
    obtain ⟨q, hq⟩ : ∃ q, q = ux.length := ⟨_, rfl⟩
    have HQ := hidden hq
    have HKL := hidden hk
    have HROW := hidden hrow
    rw [← hq] at IC hql
    rw [← hk] at HROW hkl
    clear hB hrow hk hq hux hcx hfx hcs hct
    gi_wp2
    refine wpIn_region_heldQ (S := fun wz => wz.cell? ⟨w.heap.size, 0, none⟩ = some (.slice (some ⟨b, off, none⟩) n c) ∧ wz.cell? ⟨w.heap.size + 1, 0, none⟩ = some (.slice (some ⟨b', off', none⟩) m c')) hmx (by kernel_rfl) (CKB.out _ (Below.refl W.heap.size W).drew) (fun hHeld => ?_)
    refine wpAnyH_take (i := 1) (oi := { dst := some 15, op := Op.load 34 (Operand.tmp 3), type := 34, pos := "l08_rewrite.go:71", after := #[], guard := none }) (v := ?_) rfl (by kernel_rfl) (by kernel_rfl) (by kernel_rfl) (fun _ _ _ h => h) (Or.inl ⟨by rfl, ?_⟩) (by assumption) ?_
    rotate_left
    · (intro wv hSw; (try dsimp only at hSw); go_simp; try with_reducible rfl)
    try simp only [Act.put, List.setIfInBounds_toArray, List.set_cons_zero, List.set_cons_succ]
    refine wpAnyH_take (i := 2) (oi := { dst := some 16, op := Op.load 26 (Operand.tmp 4), type := 26, pos := "l08_rewrite.go:71", after := #[], guard := none }) (v := ?_) rfl (by kernel_rfl) (by kernel_rfl) (by kernel_rfl) (fun _ _ _ h => h) (Or.inl ⟨by rfl, ?_⟩) (by assumption) ?_
    rotate_left
    · (intro wv hSw; (try dsimp only at hSw); go_simp; try with_reducible rfl)
    try simp only [Act.put, List.setIfInBounds_toArray, List.set_cons_zero, List.set_cons_succ]
    refine wpAnyH_take (i := 3) (oi := { dst := some 17, op := Op.move (Operand.tmp 8), type := 2, pos := "l08_rewrite.go:71", after := #[], guard := none }) (v := ?_) rfl (by kernel_rfl) (by kernel_rfl) (by kernel_rfl) (fun _ _ _ h => h) (Or.inl ⟨by rfl, ?_⟩) (by assumption) ?_
    rotate_left
    · (intro wv hSw; (try dsimp only at hSw); go_simp; try with_reducible rfl)
    try simp only [Act.put, List.setIfInBounds_toArray, List.set_cons_zero, List.set_cons_succ]
    refine wpAnyH_ready (rs := [0, 4]) (by kernel_rfl) (by simp) ?_
    refine AllReadyH.cons (o := { dst := some 14, op := Op.load 26 (Operand.tmp 7), type := 26, pos := "l08_rewrite.go:71", after := #[], guard := none }) rfl (fun K hK => ?_) (AllReadyH.cons (o := { dst := some 18, op := Op.call { callee := Callee.value (Operand.func 62), args := #[Operand.tmp 15, Operand.tmp 16, Operand.tmp 17], argTypes := #[34, 26, 2] }, type := 26, pos := "l08_rewrite.go:71", after := #[{ on := 1, ground := Ground.data }, { on := 2, ground := Ground.data }, { on := 3, ground := Ground.data }], guard := none }) rfl (fun K hK => ?_) AllReadyH.nil)
    · have xl := (BX.out.keep (Below.refl W.heap.size W).drew).c0
      go_simp
      refine hK.out _ _ (CKB.out _ (Below.refl W.heap.size W).drew) (fun hHeld => ?_)
      clear hK K xl
      try simp only [Act.put, List.setIfInBounds_toArray, List.set_cons_zero, List.set_cons_succ]
      refine wpAnyH_ready (rs := [4]) (by kernel_rfl) (by simp) ?_
      refine AllReadyH.cons (o := { dst := some 18, op := Op.call { callee := Callee.value (Operand.func 62), args := #[Operand.tmp 15, Operand.tmp 16, Operand.tmp 17], argTypes := #[34, 26, 2] }, type := 26, pos := "l08_rewrite.go:71", after := #[{ on := 1, ground := Ground.data }, { on := 2, ground := Ground.data }, { on := 3, ground := Ground.data }], guard := none }) rfl (fun K hK => ?_) AllReadyH.nil
      go_simp
      go_at_call 62; with_reducible refine IC.out.mono ?_; rintro e v1 ⟨⟨gc, dc, rfl, OC⟩, bc0⟩
      try go_wp2_with fail
      have bc : Below W.heap.size W v1 := (Below.refl W.heap.size W).drew.trans bc0
      refine hK.out _ _ (CKB.out _ bc) (fun hHeld => ?_)
      clear hK K
      try simp only [Act.put, List.setIfInBounds_toArray, List.set_cons_zero, List.set_cons_succ]
      refine wpAnyH_ready (rs := [5]) (by kernel_rfl) (by simp) ?_
      refine AllReadyH.cons (o := { dst := some 19, op := Op.call { callee := Callee.builtin Builtin.append, args := #[Operand.tmp 14, Operand.tmp 18], argTypes := #[26, 26] }, type := 26, pos := "l08_rewrite.go:71", after := #[{ on := 0, ground := Ground.data }, { on := 4, ground := Ground.data }, { on := 4, ground := Ground.chain }], guard := none }) rfl (fun K hK => ?_) AllReadyH.nil
      have hrw := ownsRow_upon HROW.out bc
      refine step_append_lies _ rfl _ _ 26 rfl (w.heap.size + 1 + 1 + 1 + 1 + 1 + 1) 2 _ (.int .i64 0) 1 8 Try.underlying26 rfl rfl rfl rfl rfl (by decide) v k _ rfl hrw ⟨gc, 0, none⟩ q dc (ux.map (fun x => Value.int .i64 x)) rfl (by simp [HQ.out]) (by rw [← vals_list]; have := OC.ints; rw [HQ.out] at this; exact this.src0) (by intro u hu; simp at hu; obtain ⟨a, _, rfl⟩ := hu; rfl) (by omega) (by unfold maxLen; omega) (by omega) (by have := bc.size; omega) _ rfl ?_
      intro g6 d6 v6 hown hgrow hat hlt6
      have hob := own_base8 hrw
      have bx := (BX.out.keep bc).grownO hgrow (fun ee => by have := (hob _ ee).1; omega)
      have y0 := bx.c0
      have yf := bx.f0
      have RR := hidden (pfi_round (nv := .slice (some ⟨g6, 0, none⟩) (k + q) d6) bc hsW HB.out (by omega) hgrow hob hown y0 yf CK.out.1 CK.out.2)
      have ck6 := (show v6.cell? ⟨w.heap.size, 0, none⟩ = some (.slice (some ⟨b, off, none⟩) n c) ∧ v6.cell? ⟨w.heap.size + 1, 0, none⟩ = some (.slice (some ⟨b', off', none⟩) m c') from pfi_cells bc hsW (by omega) hgrow hob CK.out.1 CK.out.2)
      refine hK.out _ _ ck6 (fun hHeld => ?_)
      clear hK K hown hgrow hat hlt6 hob hrw bx
      try simp only [Act.put, List.setIfInBounds_toArray, List.set_cons_zero, List.set_cons_succ]
      refine wpAnyH_ready (rs := [6]) (by kernel_rfl) (by simp) ?_
      refine AllReadyH.cons (o := { dst := none, op := Op.store 26 (Operand.tmp 7) (Operand.tmp 19), type := 0, pos := "l08_rewrite.go:71", after := #[{ on := 5, ground := Ground.data }, { on := 5, ground := Ground.chain }, { on := 0, ground := Ground.phase }, { on := 1, ground := Ground.phase }, { on := 2, ground := Ground.phase }, { on := 3, ground := Ground.phase }, { on := 4, ground := Ground.phase }, { on := 5, ground := Ground.phase }], guard := none }) rfl (fun K hK => ?_) AllReadyH.nil
      go_simp
      refine hK.out _ _ ⟨RR.out.2.2.1.2.2.2.1, RR.out.2.2.1.2.2.2.2.1⟩ (fun hHeld => ?_)
      clear hK K
      try simp only [Act.put, List.setIfInBounds_toArray, List.set_cons_zero, List.set_cons_succ]
      refine wpAnyH_done (by kernel_rfl) ?_ _
      clear hHeld
      gi_wp2
      exact ⟨RR.out.1 _, RR.out.2.1, by dsimp only; rw [HM.out, List.length_append, List.map_append, ← HKL.out, ← HQ.out]; exact ⟨⟨_, RR.out.2.2.1⟩, RR.out.2.2.2⟩⟩
    · go_simp
      go_at_call 62; with_reducible refine IC.out.mono ?_; rintro e v1 ⟨⟨gc, dc, rfl, OC⟩, bc0⟩
      try go_wp2_with fail
      have bc : Below W.heap.size W v1 := (Below.refl W.heap.size W).drew.trans bc0
      refine hK.out _ _ (CKB.out _ bc) (fun hHeld => ?_)
      clear hK K
      try simp only [Act.put, List.setIfInBounds_toArray, List.set_cons_zero, List.set_cons_succ]
      refine wpAnyH_ready (rs := [0]) (by kernel_rfl) (by simp) ?_
      refine AllReadyH.cons (o := { dst := some 14, op := Op.load 26 (Operand.tmp 7), type := 26, pos := "l08_rewrite.go:71", after := #[], guard := none }) rfl (fun K hK => ?_) AllReadyH.nil
      have xl := (BX.out.keep bc).c0
      go_simp
      refine hK.out _ _ (CKB.out _ bc) (fun hHeld => ?_)
      clear hK K xl
      try simp only [Act.put, List.setIfInBounds_toArray, List.set_cons_zero, List.set_cons_succ]
      refine wpAnyH_ready (rs := [5]) (by kernel_rfl) (by simp) ?_
      refine AllReadyH.cons (o := { dst := some 19, op := Op.call { callee := Callee.builtin Builtin.append, args := #[Operand.tmp 14, Operand.tmp 18], argTypes := #[26, 26] }, type := 26, pos := "l08_rewrite.go:71", after := #[{ on := 0, ground := Ground.data }, { on := 4, ground := Ground.data }, { on := 4, ground := Ground.chain }], guard := none }) rfl (fun K hK => ?_) AllReadyH.nil
      have hrw := ownsRow_upon HROW.out bc
      refine step_append_lies _ rfl _ _ 26 rfl (w.heap.size + 1 + 1 + 1 + 1 + 1 + 1) 2 _ (.int .i64 0) 1 8 Try.underlying26 rfl rfl rfl rfl rfl (by decide) v k _ rfl hrw ⟨gc, 0, none⟩ q dc (ux.map (fun x => Value.int .i64 x)) rfl (by simp [HQ.out]) (by rw [← vals_list]; have := OC.ints; rw [HQ.out] at this; exact this.src0) (by intro u hu; simp at hu; obtain ⟨a, _, rfl⟩ := hu; rfl) (by omega) (by unfold maxLen; omega) (by omega) (by have := bc.size; omega) _ rfl ?_
      intro g6 d6 v6 hown hgrow hat hlt6
      have hob := own_base8 hrw
      have bx := (BX.out.keep bc).grownO hgrow (fun ee => by have := (hob _ ee).1; omega)
      have y0 := bx.c0
      have yf := bx.f0
      have RR := hidden (pfi_round (nv := .slice (some ⟨g6, 0, none⟩) (k + q) d6) bc hsW HB.out (by omega) hgrow hob hown y0 yf CK.out.1 CK.out.2)
      have ck6 := (show v6.cell? ⟨w.heap.size, 0, none⟩ = some (.slice (some ⟨b, off, none⟩) n c) ∧ v6.cell? ⟨w.heap.size + 1, 0, none⟩ = some (.slice (some ⟨b', off', none⟩) m c') from pfi_cells bc hsW (by omega) hgrow hob CK.out.1 CK.out.2)
      refine hK.out _ _ ck6 (fun hHeld => ?_)
      clear hK K hown hgrow hat hlt6 hob hrw bx
      try simp only [Act.put, List.setIfInBounds_toArray, List.set_cons_zero, List.set_cons_succ]
      refine wpAnyH_ready (rs := [6]) (by kernel_rfl) (by simp) ?_
      refine AllReadyH.cons (o := { dst := none, op := Op.store 26 (Operand.tmp 7) (Operand.tmp 19), type := 0, pos := "l08_rewrite.go:71", after := #[{ on := 5, ground := Ground.data }, { on := 5, ground := Ground.chain }, { on := 0, ground := Ground.phase }, { on := 1, ground := Ground.phase }, { on := 2, ground := Ground.phase }, { on := 3, ground := Ground.phase }, { on := 4, ground := Ground.phase }, { on := 5, ground := Ground.phase }], guard := none }) rfl (fun K hK => ?_) AllReadyH.nil
      go_simp
      refine hK.out _ _ ⟨RR.out.2.2.1.2.2.2.1, RR.out.2.2.1.2.2.2.2.1⟩ (fun hHeld => ?_)
      clear hK K
      try simp only [Act.put, List.setIfInBounds_toArray, List.set_cons_zero, List.set_cons_succ]
      refine wpAnyH_done (by kernel_rfl) ?_ _
      clear hHeld
      gi_wp2
      exact ⟨RR.out.1 _, RR.out.2.1, by dsimp only; rw [HM.out, List.length_append, List.map_append, ← HKL.out, ← HQ.out]; exact ⟨⟨_, RR.out.2.2.1⟩, RR.out.2.2.2⟩⟩
  case done =>
    rintro D ys W hD hys ⟨⟨v, hcx, hfx, hrow, _, _, hsW⟩, hB⟩ hK
    have HR := hidden (plS_all hp HEN.out hys)
    have har2 := HG.out.nods.aOf_le hp
    have hkl := plS_len (p := p) HG.out.whole hm24 ys
    have hyl : ys.length = aOf A T p := by
      have := congrArg List.length hys
      rwa [List.length_map, upto_length] at this
    clear hys
    obtain ⟨k, hk⟩ : ∃ k, k = (plS (aOf A T) m ys).length := ⟨_, rfl⟩
    have HKL := hidden hk
    have HROW := hidden hrow
    rw [← hk] at HROW hkl
    have HB := hidden hB
    have HKD := hidden hK
    clear hrow hk hB
    gi_wp2_with (gi_at_builtin; refine wpListIn_append_own _ rfl _ _ 26 rfl (w.heap.size + 1 + 1 + 1 + 1 + 1 + 1) 2 _ (.int .i64 0) 1 8 Try.underlying26 rfl rfl rfl rfl rfl (by decide) v k _ rfl (HROW.out.alloc _) ⟨W.heap.size, 0, none⟩ 1 1 [.int .i64 (p : Int)] rfl rfl (one_srcI _ _ _) (oneValI _) (by unfold maxLen; omega) (by omega) (by simp; omega) ?_)
    intro v2 w4 hown hgrow hnil
    have hob := own_base8 (HROW.out.alloc (.cells #[.int .i64 (p : Int)] 2))
    have hK4 := ((KeepsOthers.alloc W (.cells #[.int .i64 (p : Int)] 2)).trans (KeepsOthers.of_grownBy hgrow (fun j o e ho => (hob j e).2 o ho))).same D _ HKD.out rfl
    have B4 : Below w.heap.size w w4 := (HB.out.alloc HB.out.size _).grown hgrow (by have := HB.out.size; simp; omega) (fun q e => by have := (hob q e).1; omega)
    obtain ⟨g, d, rfl, ho, hb4⟩ := ownL_open (l := plL (aOf A T) m p) (B := w.heap.size) (show w4.ownsRow w.heap.size 2 1 v2 (k + 1) _ from ⟨hown.1, hown.2.imp id fun ⟨g', cap, cur, h1, h2, h3, h4⟩ => ⟨g', cap, cur, h1, by omega, h3, h4⟩⟩) (by rw [← HR.out, List.length_append, HKL.out]; rfl) (by rw [← HR.out, List.map_append]; rfl) (by simpa using hnil) B4
    have hoI := ho.ownI
    clear hown hgrow hnil ho hb4
    gi_wp2
    refine ⟨by simp, .inl ⟨_, _, rfl, run_takeDeferred hK4, ?_⟩⟩
    refine ⟨_, results_tmp rfl _ _ _, ⟨g, d, rfl, ?_⟩, B4.trans (belowK_b (w := w) (Nat.le_refl _) w4 D _ _ (by simp at hD; omega) hK4 rfl rfl)⟩
    obtain ⟨xs, h1, h2⟩ := hoI
    exact ⟨xs, ownsRow_stays8 h1 (grownBy_putObj' _ D (.deferred none)) (fun r e => by cases e; exact ⟨_, hK4, rfl⟩), h2⟩
  case stop =>
    rintro D c pre W _ _ h _
    exact h.elim

end Go.Proofs.Ytbdgnpjbmlcchaa
