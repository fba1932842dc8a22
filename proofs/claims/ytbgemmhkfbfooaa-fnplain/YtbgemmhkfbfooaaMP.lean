/- Several texts as one: PlnM, PlnI, PlnJ, PlnK, PlnS, PlnT. -/
import Derived.Test.YtbgemmhkfbfooaaRank
import Derived.Test.YtbgemmhkfbfooaaMA
import Derived.Test.YtbgemmhkfbfooaaPut
import Derived.Test.YtbgemmhkfbfooaaCat
import Derived.Deep.RegionHeld3
import Derived.Deep.AppendLies
/- Plain facts: variables in the order in which they stand first, and nodes with their variables numbered anew. -/
namespace Go.Proofs.Ytbgemmhkfbfooaa
open Go.RowKit

/-- The variables among the first k nodes, each once, in the order in which they stand first. -/
def pv (L : Nat → Int) : Nat → List Int
  | 0 => []
  | k + 1 => if L k < 0 ∧ L k ∉ pv L k then pv L k ++ [L k] else pv L k

theorem pv_length (L : Nat → Int) : ∀ k, (pv L k).length ≤ k
  | 0 => Nat.le_refl _
  | k + 1 => by
    have := pv_length L k
    rw [pv]; split
    · simp; omega
    · omega

theorem pv_pos {L : Nat → Int} {k : Nat} (h : 0 ≤ L k) : pv L (k + 1) = pv L k := by rw [pv, if_neg (by omega)]
theorem pv_old {L : Nat → Int} {k : Nat} (h : L k ∈ pv L k) : pv L (k + 1) = pv L k := by rw [pv, if_neg (by simp [h])]
theorem pv_new {L : Nat → Int} {k : Nat} (h0 : L k < 0) (h : L k ∉ pv L k) : pv L (k + 1) = pv L k ++ [L k] := by rw [pv, if_pos ⟨h0, h⟩]

theorem pv_mem {L : Nat → Int} {k : Nat} (h0 : L k < 0) : L k ∈ pv L (k + 1) := by
  by_cases h : L k ∈ pv L k
  · rw [pv_old h]; exact h
  · rw [pv_new h0 h]; simp

theorem pv_more (L : Nat → Int) : ∀ (d k : Nat), ∃ r, pv L (k + d) = pv L k ++ r
  | 0, k => ⟨[], by simp⟩
  | d + 1, k => by
    obtain ⟨r, hr⟩ := pv_more L d k
    rw [← Nat.add_assoc, pv]
    split
    · exact ⟨r ++ [L (k + d)], by rw [hr, List.append_assoc]⟩
    · exact ⟨r, hr⟩

/-- Where a number stands first in a list. -/
def ixL : List Int → Int → Nat
  | [], _ => 0
  | y :: l, x => if y = x then 0 else ixL l x + 1

theorem ixL_lt {l : List Int} {x : Int} (h : x ∈ l) : ixL l x < l.length := by
  induction l with
  | nil => cases h
  | cons y l ih =>
    rw [ixL]; split
    · simp
    · rename_i hne
      have := ih (by simpa [Ne.symm hne, eq_comm] using h)
      simp; omega

theorem ixL_more {l r : List Int} {x : Int} (h : x ∈ l) : ixL (l ++ r) x = ixL l x := by
  induction l with
  | nil => cases h
  | cons y l ih =>
    rw [List.cons_append, ixL, ixL]; split
    · rfl
    · rename_i hne
      rw [ih (by simpa [Ne.symm hne, eq_comm] using h)]

theorem ixL_end {l : List Int} {x : Int} (h : x ∉ l) : ixL (l ++ [x]) x = l.length := by
  induction l with
  | nil => simp [ixL]
  | cons y l ih =>
    simp only [List.mem_cons, not_or] at h
    rw [List.cons_append, ixL, if_neg (fun e => h.1 e.symm), ih h.2]; simp

theorem ixL_at {l : List Int} {x : Int} (h : x ∈ l) : l.getD (ixL l x) 0 = x := by
  induction l with
  | nil => cases h
  | cons y l ih =>
    rw [ixL]; split
    · rename_i e; simpa using e
    · rename_i hne
      rw [List.getD_cons_succ]
      exact ih (by simpa [Ne.symm hne, eq_comm] using h)

theorem ixL_first {l : List Int} {x : Int} : ∀ {j : Nat}, j < ixL l x → l.getD j 0 ≠ x ∨ l.length ≤ j := by
  induction l with
  | nil => intro j hj; cases hj
  | cons y l ih =>
    intro j hj
    rw [ixL] at hj
    split at hj
    · cases hj
    · rename_i hne
      match j with
      | 0 => exact .inl (by simpa using hne)
      | j + 1 =>
        rcases ih (j := j) (by omega) with h | h
        · exact .inl (by rw [List.getD_cons_succ]; exact h)
        · exact .inr (by simp; omega)

/-- A node with its variable's place in that list as its number. -/
def rn (V : List Int) (x : Int) : Int := if x < 0 then -1 - (ixL V x : Int) else x

theorem rn_pos {V : List Int} {x : Int} (h : 0 ≤ x) : rn V x = x := by rw [rn, if_neg (by omega)]
theorem rn_var {V : List Int} {x : Int} (h : x < 0) : rn V x = -1 - (ixL V x : Int) := by rw [rn, if_pos h]

theorem idx_more {L : Nat → Int} {k m : Nat} (hk : k < m) (h0 : L k < 0) : ixL (pv L m) (L k) = ixL (pv L (k + 1)) (L k) := by
  obtain ⟨r, hr⟩ := pv_more L (m - (k + 1)) (k + 1)
  rw [show k + 1 + (m - (k + 1)) = m by omega] at hr
  rw [hr, ixL_more (pv_mem h0)]

theorem idx_new {L : Nat → Int} {k : Nat} (h0 : L k < 0) (h : L k ∉ pv L k) : ixL (pv L (k + 1)) (L k) = (pv L k).length := by
  rw [pv_new h0 h]; exact ixL_end h

theorem rk_list {V : List Int} {x : Int} (h : x ∈ V) : rkF V.length (fun i => V.getD i 0) x = (ixL V x : Int) := by
  refine rkF_at (ixL_lt h) (ixL_at h) ?_
  intro j hj
  rcases ixL_first hj with e | e
  · exact e
  · have := ixL_lt h; omega

theorem rk_list_none {V : List Int} {x : Int} (h : x ∉ V) : rkF V.length (fun i => V.getD i 0) x = -1 := by
  refine rkF_none fun j hj e => h ?_
  rw [List.getD_eq_getElem?_getD, List.getElem?_eq_getElem hj] at e
  simp at e
  rw [← e]; exact List.getElem_mem _

end Go.Proofs.Ytbgemmhkfbfooaa

/- Contracts: the variables of nodes, and nodes numbered anew, as the program does it. -/
namespace Go.Proofs.Ytbgemmhkfbfooaa
open Go.RowKit

/-- A list in memory of its own, or none. -/
def VarSl (w : World) (B : Nat) (v : Value) (V : List Int) : Prop := (v = .slice none 0 0 ∧ V = []) ∨ ∃ g d, v = .slice (some ⟨g, 0, none⟩) V.length d ∧ OwnL w B g d V

theorem OwnL.keep {w w' : World} {B g d : Nat} {l : List Int} (h : OwnL w B g d l) (hb : Below w.heap.size w w') : OwnL w' B g d l :=
  ⟨h.base, ownsRow_later h.own hb h.lt⟩

theorem VarSl.keep {w w' : World} {B : Nat} {v : Value} {V : List Int} (h : VarSl w B v V) (hb : Below w.heap.size w w') : VarSl w' B v V :=
  h.imp id fun ⟨g, d, e, ho⟩ => ⟨g, d, e, ho.keep hb⟩

set_option maxRecDepth 20000 in
set_option maxHeartbeats 400000 in
theorem index_none (c : Nat) (x : Int) (w : World) :
    Calls Try.prog 43 #[.slice none 0 c, .int .i64 x] w fun e w' => e = .returned (.int .i64 (-1)) ∧ Below w.heap.size w w' := by
  go_enter Try.func43, Try.ntmps43
  go_wp2
  refine wp_loop_rounds 1 ?_
  rw [rounds_succ]
  go_wp2
  go_ret
  exact ⟨rfl, Below.refl _ _⟩

/-- What slices.Index answers. -/
noncomputable def ixV (V : List Int) (x : Int) : Int := rkF V.length (fun i => V.getD i 0) x

theorem indexV_any (B : Nat) (v : Value) (V : List Int) (x : Int) (w : World) (h : VarSl w B v V) (hm : V.length ≤ 1048576) :
    Calls Try.prog 43 #[v, .int .i64 x] w fun e w' => e = .returned (.int .i64 (ixV V x)) ∧ Below w.heap.size w w' := by
  rcases h with ⟨rfl, rfl⟩ | ⟨g, d, rfl, ho⟩
  · refine (index_none 0 x w).mono ?_
    rintro e w' ⟨rfl, hb⟩
    refine ⟨?_, hb⟩
    rw [ixV, rkF_none (fun j hj => by simp at hj)]
  · exact index_any g 0 V.length d _ x w ho.ownI.ints hm

set_option maxRecDepth 20000 in
set_option maxHeartbeats 400000 in
theorem containsV_any (B : Nat) (v : Value) (V : List Int) (x : Int) (w : World) (h : VarSl w B v V) (hm : V.length ≤ 1048576) :
    Calls Try.prog 40 #[v, .int .i64 x] w fun e w' => e = .returned (.bool (decide (x ∈ V))) ∧ Below w.heap.size w w' := by
  have HV := hidden h
  clear h
  go_enter Try.func40, Try.ntmps40
  go_wp2_with fail
  with_reducible refine (indexV_any B v V x _ HV.out hm).mono ?_
  rintro e w1 ⟨rfl, hb⟩
  have B1 := hidden hb
  clear hb
  by_cases hx : x ∈ V
  · have e1 : ixV V x = (ixL V x : Int) := rk_list hx
    have HX := hidden hx
    rw [e1]
    clear e1 hx
    go_wp2
    go_ret
    exact ⟨by simp [HX.out], B1.out⟩
  · have e1 : ixV V x = -1 := rk_list_none hx
    have HX := hidden hx
    rw [e1]
    clear e1 hx
    go_wp2
    go_ret
    exact ⟨by simp [HX.out], B1.out⟩

set_option maxRecDepth 20000 in
set_option maxHeartbeats 3200000 in
theorem variableNodes_any (b off n m c : Nat) (L : Nat → Int) (w : World) (h : Ints w b off m L) (hm : m ≤ 48) (hg : ∀ i, i < m → nodeB (L i) n = true) :
    Calls Try.prog 18 #[.slice (some ⟨b, off, none⟩) m c] w fun e w' => (∃ v, e = .returned v ∧ VarSl w' w.heap.size v (pv L m)) ∧ Below w.heap.size w w' := by
  have H := hidden h
  have HG := hidden hg
  clear h hg
  go_enter Try.func18, Try.ntmps18
  go_wp2
  go_loopw [3, 8] (fun o i wr => ∃ k : Nat, k ≤ m ∧ i = .int .i64 k ∧ Hid (VarSl wr w.heap.size o (pv L k)) ∧ Hid (Below w.heap.size w wr)) (fun _ i _ => m - (intOf i).toNat)
  case atStart => exact ⟨0, Nat.zero_le _, rfl, hidden (.inl ⟨rfl, rfl⟩), hidden (Below.refl _ _)⟩
  case round =>
    obtain ⟨k, hk, rfl, HV, HB⟩ := hrel
    have hpl := pv_length L k
    by_cases hlt : k < m
    · have c1 := (H.out.keep HB.out).cell k hlt
      rcases nodeB_cases (HG.out k hlt) with ⟨j, e, hj⟩ | hv
      · have HE := hidden (pv_pos (L := L) (k := k) (by omega))
        have hz : varB (L k) = false := by simp [varB]; omega
        clear e
        generalize L k = x at *
        go_wp2_with fail
        with_reducible refine (isVariable_any _ _).mono ?_
        rintro e w1 ⟨rfl, hb⟩
        rw [hz]
        replace HV := hidden (HV.out.keep hb)
        replace HB := hidden (keepB HB.out hb)
        clear hb c1 hz
        go_wp2
        go_roundw
        case rel => exact ⟨k + 1, by omega, by go_num, hidden (by rw [HE.out]; exact HV.out), HB⟩
        case measure => simp [intOf]; omega
      · have HX := hidden hv
        have hz : varB (L k) = true := by simp [varB]; omega
        have HO := hidden (fun h : L k ∈ pv L k => pv_old h)
        have HN := hidden (fun h : L k ∉ pv L k => pv_new (L := L) (k := k) (by omega) h)
        clear hv
        go_wp2_with fail
        with_reducible refine (isVariable_any _ _).mono ?_
        rintro e w1 ⟨rfl, hb⟩
        rw [hz]
        replace HV := hidden (HV.out.keep hb)
        replace HB := hidden (keepB HB.out hb)
        clear hb c1 hz
        go_wp2_with fail
        with_reducible refine (containsV_any w.heap.size _ (pv L k) (L k) _ HV.out (by omega)).mono ?_
        rintro e w2 ⟨rfl, hb⟩
        replace HV := hidden (HV.out.keep hb)
        replace HB := hidden (keepB HB.out hb)
        clear hb
        by_cases hx : L k ∈ pv L k
        · have HE := hidden (HO.out hx)
          rw [decide_eq_true hx]
          clear hx HO HN
          go_wp2
          go_roundw
          case rel => exact ⟨k + 1, by omega, by go_num, hidden (by rw [HE.out]; exact HV.out), HB⟩
          case measure => simp [intOf]; omega
        · have HE := hidden (HN.out hx)
          rw [decide_eq_false hx]
          clear hx HO HN
          have W1 := hidden HB.out.size
          rcases HV.out with ⟨rfl, hn⟩ | ⟨g, d, rfl, ho⟩
          · have O1 := hidden (World.ownsRow_nil w2 w.heap.size 2 1)
            have HNIL := hidden hn
            clear HV hpl hn
            generalize L k = x at *
            go_wp2_with (first | (at_builtin; refine wpList_append_own _ rfl _ _ 27 rfl w.heap.size 2 _ (.int .i64 0) 1 8 Try.underlying27 rfl rfl rfl rfl rfl (by decide) _ _ _ rfl (O1.out.alloc _) ⟨w2.heap.size, 0, none⟩ 1 1 [.int .i64 x] rfl rfl (one_srcI _ _ _) (oneValI _) (by unfold maxLen; omega) (by omega) (by have := W1.out; simp; omega) ?_) | go_in)
            intro v' w4 hown hgrow hnil
            obtain ⟨g2, d2, rfl, O2, B2⟩ := ownL_open (l := [] ++ [x]) hown (by simp) (by simp) (by simpa using hnil) ((HB.out.alloc W1.out _).grown hgrow (by have := W1.out; simp; omega) (by intro q hq; simp [Value.ownBlock] at hq))
            have H2 := hidden (show VarSl w4 w.heap.size (.slice (some ⟨g2, 0, none⟩) ([] ++ [x] : List Int).length d2) (pv L (k + 1)) by rw [HE.out, HNIL.out]; exact .inr ⟨g2, d2, rfl, O2⟩)
            have BB := hidden B2
            clear hown hgrow hnil O1 O2 B2 HB W1
            go_wp2
            go_roundw
            case rel => exact ⟨k + 1, by omega, by go_num, H2, BB⟩
            case measure => simp [intOf]; omega
          · have O1 := hidden ho.own
            have G1 := ho.base
            clear HV ho
            generalize L k = x at *
            generalize pv L k = l at *
            go_wp2_with (first | (at_builtin; refine wpList_append_own _ rfl _ _ 27 rfl w.heap.size 2 _ (.int .i64 0) 1 8 Try.underlying27 rfl rfl rfl rfl rfl (by decide) _ _ _ rfl (O1.out.alloc _) ⟨w2.heap.size, 0, none⟩ 1 1 [.int .i64 x] rfl rfl (one_srcI _ _ _) (oneValI _) (by unfold maxLen; omega) (by omega) (by have := W1.out; simp; omega) ?_) | go_in)
            intro v' w4 hown hgrow hnil
            obtain ⟨g2, d2, rfl, O2, B2⟩ := ownL_open (l := l ++ [x]) hown (by simp) (by simp) (by simpa using hnil) ((HB.out.alloc W1.out _).grown hgrow (by have := W1.out; simp; omega) (by intro q hq; simp [Value.ownBlock] at hq; omega))
            have H2 := hidden (show VarSl w4 w.heap.size (.slice (some ⟨g2, 0, none⟩) (l ++ [x]).length d2) (pv L (k + 1)) by rw [HE.out]; exact .inr ⟨g2, d2, rfl, O2⟩)
            have BB := hidden B2
            clear hown hgrow hnil O1 O2 B2 HB W1
            go_wp2
            go_roundw
            case rel => exact ⟨k + 1, by omega, by go_num, H2, BB⟩
            case measure => simp [intOf]; omega
    · obtain rfl : k = m := by omega
      go_wp2
      go_ret
      exact ⟨⟨_, rfl, HV.out⟩, HB.out⟩

end Go.Proofs.Ytbgemmhkfbfooaa

/- Contracts: two lists of nodes as one, and nodes numbered anew, as the program does it. -/
namespace Go.Proofs.Ytbgemmhkfbfooaa
open Go.RowKit

set_option maxRecDepth 20000 in
set_option maxHeartbeats 3200000 in
theorem concat2_any (B b1 o1 q c1 b2 o2 k c2 : Nat) (L M : Nat → Int) (w : World) (h0 : Two w B (.slice (some ⟨b1, o1, none⟩) q c1) (.slice (some ⟨b2, o2, none⟩) k c2))
    (h1 : Ints w b1 o1 q L) (h2 : Ints w b2 o2 k M) (hq : q ≤ 24) (hk : 1 ≤ k ∧ k ≤ 24) :
    Calls Try.prog 19 #[.slice (some ⟨B, 0, none⟩) 2 2] w fun e w' => ∃ g d, e = .returned (.slice (some ⟨g, 0, none⟩) (q + k) d) ∧ w.heap.size ≤ g ∧ w'.ownsRow w.heap.size 2 1 (.slice (some ⟨g, 0, none⟩) (q + k) d) (q + k) (valsI L q ++ valsI M k) ∧ Below w.heap.size w w' := by
  have H0 := hidden h0
  have H1 := hidden h1
  have H2 := hidden h2
  have k0 := h0.c0
  have k1 := h0.c1
  have s1 : ¬ ((q : Int) < 0) := by omega
  have s2 : ¬ ((q : Int) + k < 0) := by omega
  have GC := hidden (grow_any (q + k) w (by omega) (by omega))
  rw [show ((q + k : Nat) : Int) = (q : Int) + k by omega] at GC
  clear h0 h1 h2
  go_enter Try.func19, Try.ntmps19
  go_wp2
  refine wp_loop_rounds 3 ?_
  rw [rounds_succ]
  go_wp2
  rw [rounds_succ]
  go_wp2
  rw [rounds_succ]
  go_wp2_with fail
  with_reducible refine GC.out.mono ?_
  rintro e w1 ⟨d, rfl, ho, hb⟩
  have T1 := hidden (H0.out.keep hb)
  have I1 := hidden (H1.out.keep hb)
  have I2 := hidden (H2.out.keep hb)
  have O1 := hidden ho
  have B1 := hidden hb
  clear hb ho GC k0 k1
  have t0 := T1.out.c0
  go_wp2_with fail
  refine wp_loop_rounds 3 ?_
  rw [rounds_succ]
  go_wp2_with (at_builtin; refine wpList_append_own _ rfl _ _ 27 rfl w.heap.size 2 _ (.int .i64 0) 1 8 Try.underlying27 rfl rfl rfl rfl rfl (by decide) _ _ _ rfl O1.out ⟨b1, o1, none⟩ q c1 (valsI L q) rfl (by simp [valsI]) I1.out.src0 (intNews _ _) (by unfold maxLen; omega) (by omega) (by have := B1.out.size; omega) ?_)
  intro v' w2 hown hgrow hnil
  obtain ⟨g2, d2, rfl, hg2, ho, hb⟩ := row_open hown (by simpa using hnil) (B1.out.grown hgrow B1.out.size (by intro x hx; simp [Value.ownBlock] at hx; omega))
  have T2 := hidden (H0.out.keep hb)
  have I1 := hidden (H1.out.keep hb)
  have I2 := hidden (H2.out.keep hb)
  have O2 := hidden ho
  have B2 := hidden hb
  clear hown hgrow hnil ho hb t0 T1 O1 B1
  go_wp2
  have t0 := T2.out.c1

  rw [rounds_succ]
  go_wp2_with (at_builtin; refine wpList_append_own _ rfl _ _ 27 rfl w.heap.size 2 _ (.int .i64 0) 1 8 Try.underlying27 rfl rfl rfl rfl rfl (by decide) _ _ _ rfl O2.out ⟨b2, o2, none⟩ k c2 (valsI M k) rfl (by simp [valsI]) I2.out.src0 (intNews _ _) (by unfold maxLen; omega) (by omega) (by have := B2.out.size; omega) ?_)
  intro v' w3 hown hgrow hnil
  obtain ⟨g3, d3, rfl, hg3, ho, hb⟩ := row_open hown (by simpa using hnil) (B2.out.grown hgrow B2.out.size (by intro x hx; simp [Value.ownBlock] at hx; omega))
  have T3 := hidden (H0.out.keep hb)
  have I1 := hidden (H1.out.keep hb)
  have I2 := hidden (H2.out.keep hb)
  have O3 := hidden ho
  have B3 := hidden hb
  clear hown hgrow hnil ho hb t0 T2 O2 B2
  go_wp2
  rw [rounds_succ]
  go_wp2
  go_ret
  exact ⟨g3, d3, rfl, hg3, O3.out, B3.out⟩

/-- Both sides, one behind the other. -/
def both (m1 : Nat) (L1 L2 : Nat → Int) : Nat → Int := fun i => if i < m1 then L1 i else L2 (i - m1)

theorem both_vals (m1 m2 : Nat) (L1 L2 : Nat → Int) : valsI L1 m1 ++ valsI L2 m2 = valsI (both m1 L1 L2) (m1 + m2) := by
  apply List.ext_getElem
  · simp [valsI]
  · intro i h1 h2
    have hi : i < m1 + m2 := by simpa [valsI] using h2
    by_cases h : i < m1
    · rw [List.getElem_append_left (by simpa [valsI] using h)]; simp [valsI, both, h]
    · rw [List.getElem_append_right (by simp [valsI]; omega)]; simp [valsI, both, h]

theorem OwnI.congr {w : World} {B g n c : Nat} {L M : Nat → Int} {k : Nat} (h : OwnI w B g n c L k) (e : ∀ i, i < k → L i = M i) : OwnI w B g n c M k := by
  obtain ⟨xs, ho, hx⟩ := h
  exact ⟨xs, ho, fun i hi => by rw [← e i hi]; exact hx i hi⟩

theorem OwnI.set {w : World} {B g n c : Nat} {L : Nat → Int} (h : OwnI w B g n c L n) {k : Nat} (hk : k < n) (x : Int) :
    (∃ u0, w.cell? ⟨g, k, none⟩ = some u0) ∧ w.frozen? ⟨g, k, none⟩ = false ∧ OwnI (w.setCell ⟨g, k, none⟩ (.int .i64 x)) B g n c (fun i => if i = k then x else L i) n ∧ w.grownBy (w.setCell ⟨g, k, none⟩ (.int .i64 x)) (some g) := by
  obtain ⟨xs, ho, hx⟩ := h
  obtain ⟨o1, g1⟩ := ho.stored k (.int .i64 x)
  have hl : xs.length = n * 1 := ho.1
  refine ⟨⟨_, (ho.cellAt k (by omega)).trans (List.getElem?_eq_getElem (by omega))⟩, ho.frozenAt _, ⟨_, o1, fun i hi => ?_⟩, g1⟩
  by_cases e : i = k
  · subst e; rw [List.getElem?_set_self (by omega)]; show _ = some (Value.int .i64 (if i = i then x else L i)); rw [if_pos rfl]
  · rw [List.getElem?_set_ne (by omega)]; show _ = some (Value.int .i64 (if i = k then x else L i)); rw [if_neg e]; exact hx i hi

theorem VarSl.grown {w w' : World} {B : Nat} {v : Value} {V : List Int} {g : Nat} (h : VarSl w B v V) (hg : w.grownBy w' (some g)) (hne : ∀ g' d, v = .slice (some ⟨g', 0, none⟩) V.length d → g' ≠ g) : VarSl w' B v V := by
  rcases h with h | ⟨g', d, e, ho⟩
  · exact .inl h
  · refine .inr ⟨g', d, e, ho.base, ho.own.kept hg (.inr ?_)⟩
    have := hne g' d e
    simpa [Value.ownBlock] using this

theorem VarSl.below {w : World} {B : Nat} {v : Value} {V : List Int} (h : VarSl w B v V) : ∀ g d, v = .slice (some ⟨g, 0, none⟩) V.length d → g < w.heap.size := by
  intro g d e
  rcases h with ⟨e', _⟩ | ⟨g', d', e', ho⟩
  · rw [e'] at e; cases e
  · rw [e'] at e; simp at e; rw [← e.1]; exact ho.lt

set_option maxRecDepth 20000 in
set_option maxHeartbeats 3200000 in
theorem renumbered_any (B b off n m c : Nat) (v : Value) (V : List Int) (L : Nat → Int) (w : World) (h : Ints w b off m L) (hv : VarSl w B v V) (hm : m ≤ 24) (hV : V.length ≤ 48) (hg : ∀ i, i < m → nodeB (L i) n = true) (hin : ∀ i, i < m → L i < 0 → L i ∈ V) :
    Calls Try.prog 20 #[.slice (some ⟨b, off, none⟩) m c, v] w fun e w' => (∃ g d, e = .returned (.slice (some ⟨g, 0, none⟩) m d) ∧ w.heap.size ≤ g ∧ OwnI w' w.heap.size g m d (fun i => rn V (L i)) m) ∧ Below w.heap.size w w' := by
  have H := hidden h
  have HV := hidden hv
  have HG := hidden hg
  have HI := hidden hin
  have HW := hidden hv.below
  clear h hv hg hin
  go_enter Try.func20, Try.ntmps20
  go_wp2_with fail
  with_reducible refine (clone_any _ _ _ _ L _ H.out (by omega)).mono ?_
  rintro e w1 ⟨g, d, rfl, hgb, ho, hb⟩
  have HO := hidden ho
  have HB := hidden hb
  have GB := hidden hgb
  clear ho hb hgb
  go_wp2
  go_loopw [12] (fun i wr => ∃ k : Nat, k ≤ m ∧ i = .int .i64 k ∧ Hid (OwnI wr w.heap.size g m d (fun i => if i < k then rn V (L i) else L i) m) ∧ Hid (VarSl wr B v V) ∧ Hid (Below w.heap.size w wr)) (fun i _ => m - (intOf i).toNat)
  case atStart => exact ⟨0, Nat.zero_le _, rfl, hidden (HO.out.congr (fun i _ => by simp)), hidden (HV.out.keep HB.out), HB⟩
  case round =>
    clear HO HV HB
    obtain ⟨k, hk, rfl, HO, HV, HB⟩ := hrel
    by_cases hlt : k < m
    · have c1 := HO.out.ints.cell k hlt
      simp only [Nat.lt_irrefl, if_false, Nat.zero_add] at c1
      rcases nodeB_cases (HG.out k hlt) with ⟨j, e, hj⟩ | hv
      · have HE := hidden (show rn V (L k) = L k from rn_pos (by omega))
        have hz : varB (L k) = false := by simp [varB]; omega
        clear e
        generalize hx : L k = x at *
        have HX := hidden hx
        clear hx
        go_wp2_with fail
        with_reducible refine (isVariable_any _ _).mono ?_
        rintro e w2 ⟨rfl, hb⟩
        rw [hz]
        replace HO := hidden (HO.out.keep hb)
        replace HV := hidden (HV.out.keep hb)
        replace HB := hidden (keepB HB.out hb)
        clear hb c1 hz
        go_wp2
        go_roundw
        case rel => exact ⟨k + 1, by omega, by go_num, hidden (HO.out.congr (fun i _ => by
          by_cases e1 : i < k
          · rw [if_pos e1, if_pos (by omega)]
          · by_cases e2 : i = k
            · rw [if_neg e1, if_pos (by omega), e2, HX.out, HE.out]
            · rw [if_neg e1, if_neg (by omega)])), HV, HB⟩
        case measure => simp [intOf]; omega
      · have hmem := HI.out k hlt (by omega)
        have hz : varB (L k) = true := by simp [varB]; omega
        have HE := hidden (show rn V (L k) = -1 - (ixL V (L k) : Int) from rn_var (by omega))
        have HIX := hidden (show ixV V (L k) = (ixL V (L k) : Int) from rk_list hmem)
        have hil := ixL_lt hmem
        clear hv hmem
        generalize hx : L k = x at *
        have HX := hidden hx
        clear hx
        go_wp2_with fail
        with_reducible refine (isVariable_any _ _).mono ?_
        rintro e w2 ⟨rfl, hb⟩
        rw [hz]
        replace HO := hidden (HO.out.keep hb)
        replace HV := hidden (HV.out.keep hb)
        replace HB := hidden (keepB HB.out hb)
        clear hb c1 hz
        go_wp2_with fail
        with_reducible refine (indexV_any B v V x _ HV.out (by omega)).mono ?_
        rintro e w3 ⟨rfl, hb⟩
        rw [HIX.out]
        replace HO := hidden (HO.out.keep hb)
        replace HV := hidden (HV.out.keep hb)
        replace HB := hidden (keepB HB.out hb)
        clear hb HIX
        generalize ixL V x = q at *
        go_wp2_with fail
        with_reducible refine (variableOfE_any _ _ (by omega)).mono ?_
        rintro e w4 ⟨rfl, hb⟩
        replace HO := hidden (HO.out.keep hb)
        replace HV := hidden (HV.out.keep hb)
        replace HB := hidden (keepB HB.out hb)
        clear hb
        obtain ⟨⟨u0, p0⟩, f0, o2, g2⟩ := HO.out.set hlt (-1 - (q : Int))
        have O2 := hidden o2
        have V2 := hidden (HV.out.grown g2 (fun g' d' e => by have := HW.out g' d' e; have := GB.out; omega))
        have B2 := hidden (HB.out.grown g2 HB.out.size (fun j hj => by cases hj; exact GB.out))
        clear o2 g2 HO HV HB
        go_wp2
        go_roundw
        case rel => exact ⟨k + 1, by omega, by go_num, hidden (O2.out.congr (fun i _ => by
          by_cases e2 : i = k
          · rw [if_pos e2, if_pos (by omega), e2, HX.out, HE.out]
          · rw [if_neg e2]
            by_cases e1 : i < k
            · rw [if_pos e1, if_pos (by omega)]
            · rw [if_neg e1, if_neg (by omega)])), V2, B2⟩
        case measure => simp [intOf]; omega
    · obtain rfl : k = m := by omega
      go_wp2
      go_ret
      exact ⟨⟨g, d, rfl, GB.out, HO.out.congr (fun i hi => by rw [if_pos hi])⟩, HB.out⟩

end Go.Proofs.Ytbgemmhkfbfooaa

/- Contracts: PlainEquation, as the program answers it. -/
namespace Go.Proofs.Ytbgemmhkfbfooaa
open Go.RowKit

/-- Three cells that may be written. -/
structure Own3 (w : World) (b : Nat) (x y z : Value) : Prop where
  blk : b < w.heap.size
  c0 : w.cell? ⟨b, 0, none⟩ = some x
  c1 : w.cell? ⟨b, 1, none⟩ = some y
  c2 : w.cell? ⟨b, 2, none⟩ = some z
  f0 : w.frozen? ⟨b, 0, none⟩ = false
  f1 : w.frozen? ⟨b, 1, none⟩ = false
  f2 : w.frozen? ⟨b, 2, none⟩ = false

theorem Own3.new (w : World) (x y z : Value) (t : TypeId) : Own3 (w.alloc (.cells #[x, y, z] t)) w.heap.size x y z := by
  refine ⟨by simp, ?_, ?_, ?_, ?_, ?_, ?_⟩ <;> simp [go_sem]

theorem Own3.keep {w w' : World} {b : Nat} {x y z : Value} (h : Own3 w b x y z) (hb : Below w.heap.size w w') : Own3 w' b x y z :=
  ⟨Nat.lt_of_lt_of_le h.blk hb.size, by rw [(bcell hb).1 _ _ h.blk]; exact h.c0, by rw [(bcell hb).1 _ _ h.blk]; exact h.c1, by rw [(bcell hb).1 _ _ h.blk]; exact h.c2, by rw [(bcell hb).2 _ _ h.blk]; exact h.f0, by rw [(bcell hb).2 _ _ h.blk]; exact h.f1, by rw [(bcell hb).2 _ _ h.blk]; exact h.f2⟩

/-- The variables of an equation. -/
def eqV (m1 : Nat) (L1 : Nat → Int) (m2 : Nat) (L2 : Nat → Int) : List Int := pv (both m1 L1 L2) (m1 + m2)

open Classical in
/-- What PlainEquation answers as its code. -/
noncomputable def plC (n : Nat) (N : Nat → ByteArray) (A : Nat → Int) (m1 : Nat) (L1 : Nat → Int) (m2 : Nat) (L2 : Nat → Int) : Int :=
  if sdF n N A m1 L1 m2 L2 = 0 then (if 6 < (eqV m1 L1 m2 L2).length then 2 else 0) else sdF n N A m1 L1 m2 L2

section
variable {n : Nat} {N : Nat → ByteArray} {A : Nat → Int} {m1 : Nat} {L1 : Nat → Int} {m2 : Nat} {L2 : Nat → Int}
theorem plC_fault (h : sdF n N A m1 L1 m2 L2 ≠ 0) : plC n N A m1 L1 m2 L2 = sdF n N A m1 L1 m2 L2 := by rw [plC, if_neg h]
theorem plC_many (h : sdF n N A m1 L1 m2 L2 = 0) (h6 : 6 < (eqV m1 L1 m2 L2).length) : plC n N A m1 L1 m2 L2 = 2 := by rw [plC, if_pos h, if_pos h6]
theorem plC_ok (h : sdF n N A m1 L1 m2 L2 = 0) (h6 : ¬ 6 < (eqV m1 L1 m2 L2).length) : plC n N A m1 L1 m2 L2 = 0 := by rw [plC, if_pos h, if_neg h6]
end

/-- An equation as an answer: a fault, or two lists in memory of their own. -/
def PAns (w : World) (C : Int) (k1 : Nat) (U1 : Nat → Int) (k2 : Nat) (U2 : Nat → Int) (e : Ending) (w' : World) : Prop :=
  (C ≠ 0 ∧ e = .returned (.agg #[.int .i64 C, .slice none 0 0, .slice none 0 0])) ∨
  (C = 0 ∧ ∃ g1 d1 g2 d2, e = .returned (.agg #[.int .i64 0, .slice (some ⟨g1, 0, none⟩) k1 d1, .slice (some ⟨g2, 0, none⟩) k2 d2]) ∧ w.heap.size ≤ g1 ∧ g1 < g2 ∧ OwnI w' w.heap.size g1 k1 d1 U1 k1 ∧ OwnI w' w.heap.size g2 k2 d2 U2 k2)

theorem both_node {n m1 m2 : Nat} {A L1 L2 : Nat → Int} (h1 : Nods n A m1 L1) (h2 : Nods n A m2 L2) : ∀ i, i < m1 + m2 → nodeB (both m1 L1 L2 i) n = true := by
  intro i hi
  unfold both
  split
  · exact h1.node i (by assumption)
  · exact h2.node _ (by omega)

theorem both_in1 {m1 m2 : Nat} {L1 L2 : Nat → Int} : ∀ i, i < m1 → L1 i < 0 → L1 i ∈ eqV m1 L1 m2 L2 := by
  intro i hi h0
  have e : both m1 L1 L2 i = L1 i := by unfold both; rw [if_pos hi]
  obtain ⟨r, hr⟩ := pv_more (both m1 L1 L2) (m1 + m2 - (i + 1)) (i + 1)
  rw [show i + 1 + (m1 + m2 - (i + 1)) = m1 + m2 by omega] at hr
  unfold eqV
  rw [hr, ← e]
  exact List.mem_append_left _ (pv_mem (by rw [e]; exact h0))

theorem both_in2 {m1 m2 : Nat} {L1 L2 : Nat → Int} : ∀ i, i < m2 → L2 i < 0 → L2 i ∈ eqV m1 L1 m2 L2 := by
  intro i hi h0
  have e : both m1 L1 L2 (m1 + i) = L2 i := by unfold both; rw [if_neg (by omega)]; congr 1; omega
  obtain ⟨r, hr⟩ := pv_more (both m1 L1 L2) (m1 + m2 - (m1 + i + 1)) (m1 + i + 1)
  rw [show m1 + i + 1 + (m1 + m2 - (m1 + i + 1)) = m1 + m2 by omega] at hr
  unfold eqV
  rw [hr, ← e]
  exact List.mem_append_left _ (pv_mem (by rw [e]; exact h0))

theorem eqV_length (m1 : Nat) (L1 : Nat → Int) (m2 : Nat) (L2 : Nat → Int) : (eqV m1 L1 m2 L2).length ≤ m1 + m2 := pv_length _ _

theorem VarSl.form {w : World} {B : Nat} {v : Value} {V : List Int} (h : VarSl w B v V) : ∃ a d, v = .slice a V.length d := by
  rcases h with ⟨rfl, rfl⟩ | ⟨g, d, rfl, _⟩
  · exact ⟨none, 0, rfl⟩
  · exact ⟨some ⟨g, 0, none⟩, d, rfl⟩

set_option maxRecDepth 20000 in
set_option maxHeartbeats 3200000 in
theorem implPlain_any (b off n c b1 o1 m1 c1 b2 o2 m2 c2 : Nat) (N : Nat → ByteArray) (A L1 L2 : Nat → Int) (w : World) (h : Syms w b off n N A) (h1 : Ints w b1 o1 m1 L1) (h2 : Ints w b2 o2 m2 L2) (hk : Kept n N A) (hm1 : m1 ≤ 1048576) (hm2 : m2 ≤ 1048576) :
    Calls Try.prog 6 #[.agg #[.slice (some ⟨b, off, none⟩) n c], .agg #[.slice (some ⟨b1, o1, none⟩) m1 c1, .slice (some ⟨b2, o2, none⟩) m2 c2]] w fun e w' => PAns w (plC n N A m1 L1 m2 L2) m1 (fun i => rn (eqV m1 L1 m2 L2) (L1 i)) m2 (fun i => rn (eqV m1 L1 m2 L2) (L2 i)) e w' ∧ Below w.heap.size w w' := by
  have A1 := hidden (alloc_below w (.cells #[.slice (some ⟨b, off, none⟩) n c] 26))
  have A2 := hidden (alloc_below (w.alloc (.cells #[.slice (some ⟨b, off, none⟩) n c] 26)) (.cells #[.slice (some ⟨b1, o1, none⟩) m1 c1, .slice (some ⟨b2, o2, none⟩) m2 c2] 29))
  have X := hidden (Two.new (w.alloc (.cells #[.slice (some ⟨b, off, none⟩) n c] 26)) (.slice (some ⟨b1, o1, none⟩) m1 c1) (.slice (some ⟨b2, o2, none⟩) m2 c2) 29)
  have A3 := hidden (alloc_below ((w.alloc (.cells #[.slice (some ⟨b, off, none⟩) n c] 26)).alloc (.cells #[.slice (some ⟨b1, o1, none⟩) m1 c1, .slice (some ⟨b2, o2, none⟩) m2 c2] 29)) (.cells #[.int .i64 0, .slice none 0 0, .slice none 0 0] 33))
  have R := hidden (Own3.new ((w.alloc (.cells #[.slice (some ⟨b, off, none⟩) n c] 26)).alloc (.cells #[.slice (some ⟨b1, o1, none⟩) m1 c1, .slice (some ⟨b2, o2, none⟩) m2 c2] 29)) (.int .i64 0) (.slice none 0 0) (.slice none 0 0) 33)
  have D := hidden (((One.new w (.slice (some ⟨b, off, none⟩) n c) 26).keep A2.out).keep A3.out)
  replace X := hidden (X.out.keep A3.out)
  simp only [World.size_alloc] at X R
  have B := hidden (keepB (keepB A1.out A2.out) A3.out)
  have Q := hidden (h.keep B.out)
  have I1 := hidden (h1.keep B.out)
  have I2 := hidden (h2.keep B.out)
  have HK := hidden hk
  clear h h1 h2 hk A1 A2 A3
  have d0 := D.out.c0
  have x0 := X.out.c0
  have x1 := X.out.c1
  go_enter Try.func6, Try.ntmps6
  go_wp2_with fail
  with_reducible refine (sides_any _ _ _ _ _ _ _ _ _ _ _ _ N A L1 L2 _ Q.out I1.out I2.out HK.out hm1 hm2).mono ?_
  rintro e w1 ⟨rfl, hb⟩
  replace X := hidden (X.out.keep hb)
  replace R := hidden (R.out.keep hb)
  replace B := hidden (keepB B.out hb)
  replace I1 := hidden (I1.out.keep hb)
  replace I2 := hidden (I2.out.keep hb)
  clear hb d0 x0 x1 D Q
  by_cases hf : sdF n N A m1 L1 m2 L2 = 0
  · have HF := hidden hf
    have T1 := hidden (term_right (sdF_both hf).1)
    have T2 := hidden (term_right (sdF_both hf).2)
    have h24 := T1.out.nods.most
    have h24' := T2.out.nods.most
    have hp1 := T1.out.pos
    have hp2 := T2.out.pos
    rw [hf]
    clear hf
    have x0 := X.out.c0
    have x1 := X.out.c1
    have A4 := hidden (alloc_below w1 (.cells #[.slice (some ⟨b1, o1, none⟩) m1 c1, .slice (some ⟨b2, o2, none⟩) m2 c2] 27))
    have Y := hidden (Two.new w1 (.slice (some ⟨b1, o1, none⟩) m1 c1) (.slice (some ⟨b2, o2, none⟩) m2 c2) 27)
    go_wp2_with fail
    with_reducible refine (concat2_any _ _ _ _ _ _ _ _ _ L1 L2 _ Y.out (I1.out.keep A4.out) (I2.out.keep A4.out) (by omega) ⟨by omega, by omega⟩).mono ?_
    rintro e w2 ⟨g, d, rfl, hgb, hrow, hb⟩
    rw [both_vals] at hrow
    replace hb := keepB A4.out hb
    replace X := hidden (X.out.keep hb)
    replace R := hidden (R.out.keep hb)
    replace B := hidden (keepB B.out hb)
    replace I1 := hidden (I1.out.keep hb)
    replace I2 := hidden (I2.out.keep hb)
    have HO := hidden (row_own hrow).ints
    clear hb x0 x1 A4 Y hrow hgb
    go_wp2_with fail
    with_reducible refine (variableNodes_any _ _ n _ _ (both m1 L1 L2) _ HO.out (by omega) (both_node T1.out.nods T2.out.nods)).mono ?_
    rintro e w3 ⟨⟨v, rfl, hv⟩, hb⟩
    replace X := hidden (X.out.keep hb)
    replace R := hidden (R.out.keep hb)
    replace B := hidden (keepB B.out hb)
    replace I1 := hidden (I1.out.keep hb)
    replace I2 := hidden (I2.out.keep hb)
    have HV := hidden (show VarSl w3 w2.heap.size v (eqV m1 L1 m2 L2) from hv)
    have HL := hidden (eqV_length m1 L1 m2 L2)
    clear hb hv HO
    obtain ⟨a, dv, hvf⟩ := HV.out.form
    subst hvf
    have hl48 : (eqV m1 L1 m2 L2).length ≤ 48 := by have := HL.out; omega
    by_cases h6 : 6 < (eqV m1 L1 m2 L2).length
    · have HA := hidden (plC_many HF.out h6)
      have h6' : (6 : Int) < (eqV m1 L1 m2 L2).length := by omega
      obtain ⟨_, q0, q1, q2, f0, f1, f2⟩ := id R.out
      clear h6 hl48
      generalize (eqV m1 L1 m2 L2).length = V at *
      go_wp2
      exact bodyPost_ret (v := .agg #[.int .i64 2, .slice none 0 0, .slice none 0 0]) (by simp [results, Try.results6, go_sem, q0, q1, q2]) rfl ⟨.inl ⟨by rw [HA.out]; decide, by rw [HA.out]⟩, ((B.out.setCell (by simp; omega) _).setCell (by simp; omega) _).setCell (by simp; omega) _⟩
    · have HA := hidden (plC_ok HF.out h6)
      have h6' : ¬ (6 : Int) < (eqV m1 L1 m2 L2).length := by omega
      have CK := hidden (show ∀ w', Below w3.heap.size w3 w' → (w'.cell? ⟨w.heap.size + 1, 0, none⟩ = some (.slice (some ⟨b1, o1, none⟩) m1 c1) ∧ w'.cell? ⟨w.heap.size + 1, 1, none⟩ = some (.slice (some ⟨b2, o2, none⟩) m2 c2)) from fun w' hb => ⟨(X.out.keep hb).c0, (X.out.keep hb).c1⟩)
      have RK := hidden (show ∀ w', Below w3.heap.size w3 w' → Own3 w' (w.heap.size + 1 + 1) (.int .i64 0) (.slice none 0 0) (.slice none 0 0) from fun w' hb => R.out.keep hb)
      have S1 := hidden (show ∀ wc, Below w3.heap.size w3 wc → Calls Try.prog 20 #[.slice (some ⟨b1, o1, none⟩) m1 c1, .slice a (eqV m1 L1 m2 L2).length dv] wc fun e w' => ∃ g1 d1, e = .returned (.slice (some ⟨g1, 0, none⟩) m1 d1) ∧ w3.heap.size ≤ g1 ∧ Hid (OwnI w' w3.heap.size g1 m1 d1 (fun i => rn (eqV m1 L1 m2 L2) (L1 i)) m1) ∧ Below w3.heap.size w3 w' ∧ (w'.cell? ⟨w.heap.size + 1, 0, none⟩ = some (.slice (some ⟨b1, o1, none⟩) m1 c1) ∧ w'.cell? ⟨w.heap.size + 1, 1, none⟩ = some (.slice (some ⟨b2, o2, none⟩) m2 c2)) from fun wc hc => by
        refine (renumbered_any _ _ _ n _ _ _ (eqV m1 L1 m2 L2) L1 _ (I1.out.keep hc) (HV.out.keep hc) (by omega) (by omega) T1.out.nods.node both_in1).mono ?_
        rintro e w' ⟨⟨g1, d1, rfl, hg, ho⟩, hb⟩
        exact ⟨g1, d1, rfl, Nat.le_trans hc.size hg, hidden (ho.base (Nat.le_trans hc.size hg)), keepB hc hb, CK.out _ (keepB hc hb)⟩)
      have S2 := hidden (show ∀ wc g1 d1, Below w3.heap.size w3 wc → Hid (OwnI wc w3.heap.size g1 m1 d1 (fun i => rn (eqV m1 L1 m2 L2) (L1 i)) m1) → Calls Try.prog 20 #[.slice (some ⟨b2, o2, none⟩) m2 c2, .slice a (eqV m1 L1 m2 L2).length dv] wc fun e w' => ∃ g2 d2, e = .returned (.slice (some ⟨g2, 0, none⟩) m2 d2) ∧ Hid (g1 < g2 ∧ OwnI w' w3.heap.size g1 m1 d1 (fun i => rn (eqV m1 L1 m2 L2) (L1 i)) m1 ∧ OwnI w' w3.heap.size g2 m2 d2 (fun i => rn (eqV m1 L1 m2 L2) (L2 i)) m2) ∧ Below w3.heap.size w3 w' ∧ (w'.cell? ⟨w.heap.size + 1, 0, none⟩ = some (.slice (some ⟨b1, o1, none⟩) m1 c1) ∧ w'.cell? ⟨w.heap.size + 1, 1, none⟩ = some (.slice (some ⟨b2, o2, none⟩) m2 c2)) from fun wc g1 d1 hc ho1 => by
        refine (renumbered_any _ _ _ n _ _ _ (eqV m1 L1 m2 L2) L2 _ (I2.out.keep hc) (HV.out.keep hc) (by omega) (by omega) T2.out.nods.node both_in2).mono ?_
        rintro e w' ⟨⟨g2, d2, rfl, hg, ho⟩, hb⟩
        exact ⟨g2, d2, rfl, hidden ⟨Nat.lt_of_lt_of_le ho1.out.lt hg, ho1.out.keep hb, ho.base (Nat.le_trans hc.size hg)⟩, keepB hc hb, CK.out _ (keepB hc hb)⟩)
      have x0 := X.out.c0
      have x1 := X.out.c1
      have BS := hidden B.out.size
      have RB := hidden R.out.blk
      clear h6 hl48 CK R X I1 I2 HV HL T1 T2
      generalize (eqV m1 L1 m2 L2).length = V at *
      go_wp2_with fail
      go_region_held3 (fun wz => wz.cell? ⟨w.heap.size + 1, 0, none⟩ = some (.slice (some ⟨b1, o1, none⟩) m1 c1) ∧ wz.cell? ⟨w.heap.size + 1, 1, none⟩ = some (.slice (some ⟨b2, o2, none⟩) m2 c2)) (first | exact ⟨by assumption, by assumption⟩ | go_keep) (first
        | (go_at_call 20; with_reducible refine (S1.out _ ?_).mono ?_; exact (Below.refl _ _).drew; rintro e v5 ⟨g5', d5', rfl, hg5, o5', b5', y5, y6⟩)
        | (go_at_call 20; with_reducible refine (S2.out _ _ _ b5' o5').mono ?_; rintro e v6 ⟨g6', d6', rfl, o6', b6', y7, y8⟩; obtain ⟨_, q0, q1, q2, f0, f1, f2⟩ := RK.out _ b6'))
      all_goals go_wp2
      all_goals (
        obtain ⟨l5, o5, o6⟩ := o6'.out
        have r1 := RB.out
        have r2 := BS.out
        refine bodyPost_ret (v := .agg #[.int .i64 0, .slice (some ⟨g5', 0, none⟩) m1 d5', .slice (some ⟨g6', 0, none⟩) m2 d6']) (by simp [results, Try.results6, go_sem, q0, q1, q2]) rfl ⟨.inr ⟨HA.out, g5', d5', g6', d6', rfl, by omega, l5, ?_, ?_⟩, ?_⟩
        · exact (((o5.other _ _ (by show g5' ≠ w.heap.size + 1 + 1; omega)).other _ _ (by show g5' ≠ w.heap.size + 1 + 1; omega)).other _ _ (by show g5' ≠ w.heap.size + 1 + 1; omega)).base (by omega)
        · exact (((o6.other _ _ (by show g6' ≠ w.heap.size + 1 + 1; omega)).other _ _ (by show g6' ≠ w.heap.size + 1 + 1; omega)).other _ _ (by show g6' ≠ w.heap.size + 1 + 1; omega)).base (by omega)
        · exact (((keepB B.out b6').setCell (by simp; omega) _).setCell (by simp; omega) _).setCell (by simp; omega) _)
  · have HA := hidden (plC_fault hf)
    have HC := hidden hf
    have hf' : (sdF n N A m1 L1 m2 L2 != 0) = true := by simpa using hf
    obtain ⟨z, hz⟩ : ∃ z, sdF n N A m1 L1 m2 L2 = z := ⟨_, rfl⟩
    rw [hz] at hf' ⊢
    have HZ := hidden hz
    clear hf hz
    obtain ⟨_, q0, q1, q2, f0, f1, f2⟩ := id R.out
    go_wp2
    exact bodyPost_ret (v := .agg #[.int .i64 z, .slice none 0 0, .slice none 0 0]) (by simp [results, Try.results6, go_sem, q0, q1, q2]) rfl ⟨.inl ⟨by rw [HA.out]; exact HC.out, by rw [HA.out, HZ.out]⟩, ((B.out.setCell (by simp; omega) _).setCell (by simp; omega) _).setCell (by simp; omega) _⟩

end Go.Proofs.Ytbgemmhkfbfooaa

/- Contracts: PlainEquation, as the model answers it. -/
namespace Go.Proofs.Ytbgemmhkfbfooaa
open Go.RowKit

theorem ownL_open2 {w1 : World} {B : Nat} {v' : Value} {l : List Int} {k : Nat} {xs : List Value} (h : w1.ownsRow B 2 1 v' k xs) (hk : k = l.length) (hx : xs = l.map (fun x => Value.int .i64 x)) (hnil : ¬ v' = .slice none 0 0) : ∃ g d, v' = .slice (some ⟨g, 0, none⟩) l.length d ∧ OwnL w1 B g d l := by
  subst hk hx
  rcases h.2 with ⟨hv, _⟩ | ⟨g, d, cur, hv, hg, _⟩
  · exact absurd hv hnil
  · subst hv; exact ⟨g, d, rfl, hg, h⟩

set_option maxRecDepth 20000 in
set_option maxHeartbeats 6400000 in
theorem l4Plain_any (E n b1 o1 m1 c1 b2 o2 m2 c2 : Nat) (A L1 L2 : Nat → Int) (w : World) (he : Two w E (.slice (some ⟨b1, o1, none⟩) m1 c1) (.slice (some ⟨b2, o2, none⟩) m2 c2)) (h1 : Ints w b1 o1 m1 L1) (h2 : Ints w b2 o2 m2 L2) (t1 : Trm n A m1 L1) (t2 : Trm n A m2 L2) :
    Calls Try.prog 23 #[.pointer (some ⟨E, 0, none⟩)] w fun e w' => ((6 < (eqV m1 L1 m2 L2).length ∧ e = .returned (.tuple #[.agg #[.slice none 0 0, .slice none 0 0], .bool false])) ∨
      (¬ 6 < (eqV m1 L1 m2 L2).length ∧ ∃ g1 d1 g2 d2, e = .returned (.tuple #[.agg #[.slice (some ⟨g1, 0, none⟩) m1 d1, .slice (some ⟨g2, 0, none⟩) m2 d2], .bool true]) ∧ w.heap.size ≤ g1 ∧ g1 < g2 ∧ OwnI w' w.heap.size g1 m1 d1 (fun i => rn (eqV m1 L1 m2 L2) (L1 i)) m1 ∧ OwnI w' w.heap.size g2 m2 d2 (fun i => rn (eqV m1 L1 m2 L2) (L2 i)) m2)) ∧ Below w.heap.size w w' := by
  have X := hidden (he.keep (alloc_below w (.cells #[.slice none 0 0, .slice none 0 0] 29)))
  have I1 := hidden (h1.keep (alloc_below w (.cells #[.slice none 0 0, .slice none 0 0] 29)))
  have I2 := hidden (h2.keep (alloc_below w (.cells #[.slice none 0 0, .slice none 0 0] 29)))
  have R := hidden (Own2.new w (.slice none 0 0) (.slice none 0 0) 29)
  have T1 := hidden t1
  have T2 := hidden t2
  have hm1 := t1.nods.most
  have hm2 := t2.nods.most
  have hp1 := t1.pos
  have hp2 := t2.pos
  have CK := hidden (show ∀ w', Below (w.heap.size + 1) (w.alloc (.cells #[.slice none 0 0, .slice none 0 0] 29)) w' → (w'.cell? ⟨E, 0, none⟩ = some (.slice (some ⟨b1, o1, none⟩) m1 c1) ∧ w'.cell? ⟨E, 1, none⟩ = some (.slice (some ⟨b2, o2, none⟩) m2 c2)) from fun w' hb => ⟨(X.out.keep (by simpa using hb)).c0, (X.out.keep (by simpa using hb)).c1⟩)
  have S1 := hidden (show ∀ wc, Below (w.heap.size + 1) (w.alloc (.cells #[.slice none 0 0, .slice none 0 0] 29)) wc → Calls Try.prog 46 #[.slice (some ⟨b1, o1, none⟩) m1 c1] wc fun e w' => ∃ g d, e = .returned (.slice (some ⟨g, 0, none⟩) m1 d) ∧ w.heap.size + 1 ≤ g ∧ Hid (w'.ownsRow w.heap.size 2 1 (.slice (some ⟨g, 0, none⟩) m1 d) m1 (valsI L1 m1)) ∧ Hid (Ints w' b2 o2 m2 L2) ∧ Below (w.heap.size + 1) (w.alloc (.cells #[.slice none 0 0, .slice none 0 0] 29)) w' ∧ (w'.cell? ⟨E, 0, none⟩ = some (.slice (some ⟨b1, o1, none⟩) m1 c1) ∧ w'.cell? ⟨E, 1, none⟩ = some (.slice (some ⟨b2, o2, none⟩) m2 c2)) from fun wc hc => by
    have hc' : Below (w.alloc (.cells #[.slice none 0 0, .slice none 0 0] 29)).heap.size (w.alloc (.cells #[.slice none 0 0, .slice none 0 0] 29)) wc := by simpa using hc
    refine (l1Ints_any _ _ _ _ L1 _ (I1.out.keep hc') (by omega)).mono ?_
    rintro e w' ⟨g, d, rfl, hg, ho, hb⟩
    have hsz := hc.size
    simp at hsz
    have hb2 := keepB hc' hb
    exact ⟨g, d, rfl, by omega, hidden (ho.base (by omega : w.heap.size ≤ g)).vals, hidden (I2.out.keep hb2), by simpa using hb2, CK.out _ (by simpa using hb2)⟩)
  have x0 := X.out.c0
  have x1 := X.out.c1
  clear he h1 h2 t1 t2
  go_enter Try.func23, Try.ntmps23
  go_wp2_with fail
  go_cut [4] (fun t wc => ∃ g d, t = .slice (some ⟨g, 0, none⟩) (m1 + m2) d ∧ w.heap.size + 1 ≤ g ∧ Hid (wc.ownsRow w.heap.size 2 1 (.slice (some ⟨g, 0, none⟩) (m1 + m2) d) (m1 + m2) (valsI (both m1 L1 L2) (m1 + m2)) ∧ Below (w.heap.size + 1) (w.alloc (.cells #[.slice none 0 0, .slice none 0 0] 29)) wc))
  case first =>
    refine wp_region_held_drew (S := fun wz => wz.cell? ⟨E, 0, none⟩ = some (.slice (some ⟨b1, o1, none⟩) m1 c1) ∧ wz.cell? ⟨E, 1, none⟩ = some (.slice (some ⟨b2, o2, none⟩) m2 c2)) (by kernel_rfl) ⟨x0, x1⟩ (fun hHeld => ?_)
    refine wpAnyH_take (i := 0) (oi := { dst := some 9, op := Op.move (Operand.tmp 0), type := 55, pos := "l04_text.go:162", after := #[], guard := none }) (v := ?_) rfl (by kernel_rfl) (by kernel_rfl) (by kernel_rfl) (fun _ _ _ h => h) (Or.inl ⟨by rfl, ?_⟩) (by assumption) ?_
    rotate_left
    · (intro wv hSw; (try dsimp only at hSw); go_simp; try with_reducible rfl)
    try simp only [Act.put, List.setIfInBounds_toArray, List.set_cons_zero, List.set_cons_succ]
    refine wpAnyH_take (i := 1) (oi := { dst := some 10, op := Op.nilCheck (Operand.tmp 9), type := 0, pos := "l04_text.go:162", after := #[{ on := 0, ground := Ground.data }], guard := none }) (v := ?_) rfl (by kernel_rfl) (by kernel_rfl) (by kernel_rfl) (fun _ _ _ h => h) (Or.inl ⟨by rfl, ?_⟩) (by assumption) ?_
    rotate_left
    · (intro wv hSw; (try dsimp only at hSw); go_simp; try with_reducible rfl)
    try simp only [Act.put, List.setIfInBounds_toArray, List.set_cons_zero, List.set_cons_succ]
    refine wpAnyH_take (i := 2) (oi := { dst := some 11, op := Op.fieldAddr 29 (Operand.tmp 10) 0, type := 0, pos := "l04_text.go:162", after := #[{ on := 1, ground := Ground.data }], guard := none }) (v := ?_) rfl (by kernel_rfl) (by kernel_rfl) (by kernel_rfl) (fun _ _ _ h => h) (Or.inl ⟨by rfl, ?_⟩) (by assumption) ?_
    rotate_left
    · (intro wv hSw; (try dsimp only at hSw); go_simp; try with_reducible rfl)
    try simp only [Act.put, List.setIfInBounds_toArray, List.set_cons_zero, List.set_cons_succ]
    refine wpAnyH_take (i := 3) (oi := { dst := some 12, op := Op.load 27 (Operand.tmp 11), type := 27, pos := "l04_text.go:162", after := #[{ on := 2, ground := Ground.data }], guard := none }) (v := ?_) rfl (by kernel_rfl) (by kernel_rfl) (by kernel_rfl) (fun _ _ _ h => h) (Or.inl ⟨by rfl, ?_⟩) (by assumption) ?_
    rotate_left
    · (intro wv hSw; (try dsimp only at hSw); go_simp; try with_reducible rfl)
    try simp only [Act.put, List.setIfInBounds_toArray, List.set_cons_zero, List.set_cons_succ]
    refine wpAnyH_take (i := 5) (oi := { dst := some 14, op := Op.move (Operand.tmp 0), type := 55, pos := "l04_text.go:162", after := #[], guard := none }) (v := ?_) rfl (by kernel_rfl) (by kernel_rfl) (by kernel_rfl) (fun _ _ _ h => h) (Or.inl ⟨by rfl, ?_⟩) (by assumption) ?_
    rotate_left
    · (intro wv hSw; (try dsimp only at hSw); go_simp; try with_reducible rfl)
    try simp only [Act.put, List.setIfInBounds_toArray, List.set_cons_zero, List.set_cons_succ]
    refine wpAnyH_take (i := 6) (oi := { dst := some 15, op := Op.nilCheck (Operand.tmp 14), type := 0, pos := "l04_text.go:162", after := #[{ on := 5, ground := Ground.data }], guard := none }) (v := ?_) rfl (by kernel_rfl) (by kernel_rfl) (by kernel_rfl) (fun _ _ _ h => h) (Or.inl ⟨by rfl, ?_⟩) (by assumption) ?_
    rotate_left
    · (intro wv hSw; (try dsimp only at hSw); go_simp; try with_reducible rfl)
    try simp only [Act.put, List.setIfInBounds_toArray, List.set_cons_zero, List.set_cons_succ]
    refine wpAnyH_take (i := 7) (oi := { dst := some 16, op := Op.fieldAddr 29 (Operand.tmp 15) 1, type := 0, pos := "l04_text.go:162", after := #[{ on := 6, ground := Ground.data }], guard := none }) (v := ?_) rfl (by kernel_rfl) (by kernel_rfl) (by kernel_rfl) (fun _ _ _ h => h) (Or.inl ⟨by rfl, ?_⟩) (by assumption) ?_
    rotate_left
    · (intro wv hSw; (try dsimp only at hSw); go_simp; try with_reducible rfl)
    try simp only [Act.put, List.setIfInBounds_toArray, List.set_cons_zero, List.set_cons_succ]
    refine wpAnyH_take (i := 8) (oi := { dst := some 17, op := Op.load 27 (Operand.tmp 16), type := 27, pos := "l04_text.go:162", after := #[{ on := 7, ground := Ground.data }], guard := none }) (v := ?_) rfl (by kernel_rfl) (by kernel_rfl) (by kernel_rfl) (fun _ _ _ h => h) (Or.inl ⟨by rfl, ?_⟩) (by assumption) ?_
    rotate_left
    · (intro wv hSw; (try dsimp only at hSw); go_simp; try with_reducible rfl)
    try simp only [Act.put, List.setIfInBounds_toArray, List.set_cons_zero, List.set_cons_succ]
    refine wpAnyH_ready (rs := [4]) (by kernel_rfl) (by simp) ?_
    refine AllReadyH.cons (o := { dst := some 13, op := Op.call { callee := Callee.value (Operand.func 46), args := #[Operand.tmp 12], argTypes := #[27] }, type := 27, pos := "l04_text.go:162", after := #[{ on := 3, ground := Ground.data }], guard := none }) rfl (fun K hK => ?_) AllReadyH.nil
    go_simp
    go_at_call 46; with_reducible refine (S1.out _ ?_).mono ?_; exact (Below.refl _ _).drew; rintro e v5 ⟨g5, d5, rfl, hg5, o5, i5, b5, y5⟩
    try go_wp2_with fail
    refine hK.out _ _ ?_ (fun hHeld => ?_)
    · exact y5
    clear hK K
    try simp only [Act.put, List.setIfInBounds_toArray, List.set_cons_zero, List.set_cons_succ]
    refine wpAnyH_ready (rs := [9]) (by kernel_rfl) (by simp) ?_
    refine AllReadyH.cons (o := { dst := some 18, op := Op.call { callee := Callee.builtin Builtin.append, args := #[Operand.tmp 13, Operand.tmp 17], argTypes := #[27, 27] }, type := 27, pos := "l04_text.go:162", after := #[{ on := 4, ground := Ground.data }, { on := 8, ground := Ground.data }, { on := 4, ground := Ground.chain }], guard := none }) rfl (fun K hK => ?_) AllReadyH.nil
    refine step_append_lies _ rfl _ _ 27 rfl w.heap.size 2 _ (.int .i64 0) 1 8 Try.underlying27 rfl rfl rfl rfl rfl (by decide) (.slice (some ⟨g5, 0, none⟩) m1 d5) m1 (valsI L1 m1) rfl o5.out ⟨b2, o2, none⟩ m2 c2 (valsI L2 m2) rfl (by simp [valsI]) i5.out.src0 (intNews _ _) hp2 (by unfold maxLen; omega) (by omega) (Nat.le_trans (by simp) b5.size) _ rfl ?_
    intro g6 d6 v6 hown hgrow hwh hlt6
    have hge : w.heap.size + 1 ≤ g6 := by
      rcases hwh with e | e
      · have e' : g5 = g6 := by simpa [Value.ownBlock] using e
        omega
      · have := b5.size; simp at this; omega
    have hjj : ∀ j, (Value.slice (some ⟨g5, 0, none⟩) m1 d5).ownBlock = some j → w.heap.size + 1 ≤ j := fun j hj => by
      have e' : g5 = j := by simpa [Value.ownBlock] using hj
      omega
    have b6 : Below (w.heap.size + 1) (w.alloc (.cells #[.slice none 0 0, .slice none 0 0] 29)) v6 := b5.grown hgrow (by have := b5.size; simp at this ⊢; omega) hjj
    refine hK.out _ _ ?_ (fun hHeld => ?_)
    · exact CK.out _ b6
    clear hK K
    try simp only [Act.put, List.setIfInBounds_toArray, List.set_cons_zero, List.set_cons_succ]
    refine wpAnyH_take (i := 10) (oi := { dst := some 4, op := Op.assign (Operand.tmp 18), type := 27, pos := "l04_text.go:162", after := #[{ on := 9, ground := Ground.data }, { on := 9, ground := Ground.chain }, { on := 0, ground := Ground.phase }, { on := 1, ground := Ground.phase }, { on := 2, ground := Ground.phase }, { on := 3, ground := Ground.phase }, { on := 4, ground := Ground.phase }, { on := 5, ground := Ground.phase }, { on := 6, ground := Ground.phase }, { on := 7, ground := Ground.phase }, { on := 8, ground := Ground.phase }, { on := 9, ground := Ground.phase }], guard := none }) (v := ?_) rfl (by kernel_rfl) (by kernel_rfl) (by kernel_rfl) (fun _ _ _ h => h) (Or.inl ⟨by rfl, ?_⟩) (by assumption) ?_
    rotate_left
    · (intro wv hSw; (try dsimp only at hSw); go_simp; try with_reducible rfl)
    try simp only [Act.put, List.setIfInBounds_toArray, List.set_cons_zero, List.set_cons_succ]
    refine wpAnyH_done (by kernel_rfl) ?_ _
    go_wp2_with fail
    go_meet
    rw [both_vals] at hown
    exact ⟨g6, d6, rfl, hge, hidden ⟨hown, b6⟩⟩
  case rest =>
    rename World => w1
    obtain ⟨g, d, rfl, hge, HOB⟩ := hcut
    have HO := hidden (row_own HOB.out.1)
    have HB := hidden HOB.out.2
    have hgl := HO.out.lt
    have HN := hidden (both_node T1.out.nods T2.out.nods)
    clear HOB x0 x1 S1
    obtain ⟨L, hL⟩ : ∃ L, both m1 L1 L2 = L := ⟨_, rfl⟩
    obtain ⟨M, hM⟩ : ∃ M, m1 + m2 = M := ⟨_, rfl⟩
    have HEV := hidden (show eqV m1 L1 m2 L2 = pv L M by rw [← hL, ← hM]; rfl)
    have hM48 : M ≤ 48 := by omega
    rw [hL, hM] at HO HN
    have EL := hidden hL
    have EM := hidden hM
    rw [hM]
    clear hL hM
    have HL0 := hidden (show OwnL (w1.alloc (.cells #[] 2)) w1.heap.size w1.heap.size 0 ([] : List Int) from ⟨Nat.le_refl _, World.ownsRow_made w1 #[] 0 (Nat.le_refl _) (Nat.zero_le _) rfl⟩)
    have HO0 := hidden (HO.out.keep (alloc_below w1 (.cells #[] 2)))
    have HB0 := hidden (show Below (w.heap.size + 1) (w.alloc (.cells #[.slice none 0 0, .slice none 0 0] 29)) (w1.alloc (.cells #[] 2)) from HB.out.alloc (by have := HB.out.size; simp at this; omega) _)
    go_wp2
    go_loopw [5, 6] (fun v i wr => ∃ k g' d', k ≤ M ∧ i = .int .i64 k ∧ v = .slice (some ⟨g', 0, none⟩) (pv L k).length d' ∧ Hid (OwnL wr w1.heap.size g' d' (pv L k)) ∧ Hid (OwnI wr w.heap.size g M d (fun i => if i < k then rn (pv L M) (L i) else L i) M) ∧ Hid (Below (w.heap.size + 1) (w.alloc (.cells #[.slice none 0 0, .slice none 0 0] 29)) wr)) (fun _ i _ => M - (intOf i).toNat)
    case atStart => exact ⟨0, w1.heap.size, 0, Nat.zero_le _, rfl, rfl, HL0, hidden (HO0.out.congr (fun i _ => by simp)), HB0⟩
    case round =>
      clear HL0 HO0 HB0 HO HB
      obtain ⟨k, g', d', hk, rfl, rfl, HV, HO, HB⟩ := hrel
      have hpl := pv_length L k
      have hgb := HV.out.base
      by_cases hlt : k < M
      · have c1 := HO.out.ints.cell k hlt
        simp only [Nat.lt_irrefl, if_false, Nat.zero_add] at c1
        by_cases h0 : 0 ≤ L k
        · have HE := hidden (pv_pos h0)
          have HR := hidden (show rn (pv L M) (L k) = L k from rn_pos h0)
          go_wp2
          go_roundw
          case rel => exact ⟨k + 1, g', d', by omega, by go_num, by rw [HE.out], hidden (by rw [HE.out]; exact HV.out), hidden (HO.out.congr (fun i _ => by
            by_cases e1 : i < k
            · rw [if_pos e1, if_pos (by omega)]
            · by_cases e2 : i = k
              · rw [if_neg e1, if_pos (by omega), e2, HR.out]
              · rw [if_neg e1, if_neg (by omega)])), HB⟩
          case measure => simp [intOf]; omega
        · have hneg : L k < 0 := by omega
          have h0' : decide (0 ≤ L k) = false := by simpa using h0
          have hfit : -12 ≤ L k := by
            rcases nodeB_cases (HN.out k hlt) with ⟨j, e, _⟩ | hv <;> omega
          by_cases hmem : L k ∈ pv L k
          · have HE := hidden (pv_old hmem)
            have HR := hidden (show rn (pv L M) (L k) = -1 - (ixL (pv L k) (L k) : Int) by rw [rn_var hneg, idx_more hlt hneg, pv_old hmem])
            have HRK := hidden (rk_list hmem)
            have hil := ixL_lt hmem
            clear hmem h0
            go_wp2_with fail
            with_reducible refine (l2Rank_any _ _ _ _ _ (L k) _ HV.out.ownI.ints (by omega)).mono ?_
            rintro e w2 ⟨rfl, hb⟩
            rw [HRK.out]
            replace HV := hidden (HV.out.keep hb)
            replace HO := hidden (HO.out.keep hb)
            have HBs := hidden HB.out.size
            replace HB := hidden (HB.out.trans (hb.mono (by have := HBs.out; simp at this; omega)))
            clear hb HRK
            generalize ixL (pv L k) (L k) = q at *
            have c2 := HO.out.ints.cell k hlt
            obtain ⟨⟨u0, p0⟩, f0, o2, g2⟩ := HO.out.set hlt (-1 - (q : Int))
            have O2 := hidden o2
            have V2 := hidden (show OwnL (w2.setCell ⟨g, k, none⟩ (.int .i64 (-1 - (q : Int)))) w1.heap.size g' d' (pv L k) from ⟨HV.out.base, HV.out.own.kept g2 (.inr (by simp [Value.ownBlock]; omega))⟩)
            have B2 := hidden (HB.out.grown g2 (by have := HB.out.size; simp at this; omega) (fun j hj => by cases hj; exact hge))
            clear o2 g2 HO HV HB c1 c2
            go_wp2
            go_roundw
            case rel => exact ⟨k + 1, g', d', by omega, by go_num, by rw [HE.out], hidden (by rw [HE.out]; exact V2.out), hidden (O2.out.congr (fun i _ => by
              by_cases e2 : i = k
              · rw [if_pos e2, if_pos (by omega), e2, HR.out]
              · rw [if_neg e2]
                by_cases e1 : i < k
                · rw [if_pos e1, if_pos (by omega)]
                · rw [if_neg e1, if_neg (by omega)])), B2⟩
            case measure => simp [intOf]; omega
          · have HE := hidden (pv_new hneg hmem)
            have HR := hidden (show rn (pv L M) (L k) = -1 - ((pv L k).length : Int) by rw [rn_var hneg, idx_more hlt hneg, idx_new hneg hmem])
            have HRK := hidden (rk_list_none hmem)
            clear hmem h0
            go_wp2_with fail
            with_reducible refine (l2Rank_any _ _ _ _ _ (L k) _ HV.out.ownI.ints (by omega)).mono ?_
            rintro e w2 ⟨rfl, hb⟩
            rw [HRK.out]
            replace HV := hidden (HV.out.keep hb)
            replace HO := hidden (HO.out.keep hb)
            have HBs := hidden HB.out.size
            replace HB := hidden (HB.out.trans (hb.mono (by have := HBs.out; simp at this; omega)))
            clear hb HRK
            have c2 := HO.out.ints.cell k hlt
            simp only [Nat.lt_irrefl, if_false, Nat.zero_add] at c2
            have O1 := hidden HV.out.own
            have W1 := hidden (show w1.heap.size ≤ w2.heap.size from Nat.le_trans HV.out.base (Nat.le_of_lt HV.out.lt))
            have HBz := hidden (show w.heap.size + 1 ≤ w2.heap.size by have := HB.out.size; simpa using this)
            clear HV c1
            generalize hx : L k = x at *
            have HX := hidden hx
            generalize hl : pv L k = l at *
            have HLL := hidden hl
            clear hx hl
            go_wp2_with (first | (at_builtin; refine wpList_append_own _ rfl _ _ 27 rfl w1.heap.size 2 _ (.int .i64 0) 1 8 Try.underlying27 rfl rfl rfl rfl rfl (by decide) _ _ _ rfl (O1.out.alloc _) ⟨w2.heap.size, 0, none⟩ 1 1 [.int .i64 x] rfl rfl (one_srcI _ _ _) (oneValI _) (by unfold maxLen; omega) (by omega) (by have := W1.out; simp; omega) ?_) | go_in)
            intro v' w4 hown hgrow hnil
            obtain ⟨g2, d2, rfl, V2⟩ := ownL_open2 (l := l ++ [x]) hown (by simp) (by simp) (by simpa using hnil)
            have hjk : ∀ j, (Value.slice (some ⟨g', 0, none⟩) l.length d').ownBlock = some j → w.heap.size + 1 ≤ j := fun j hj => by
              have e' : g' = j := by simpa [Value.ownBlock] using hj
              omega
            have O2 := hidden ((HO.out.keep (alloc_below w2 (.cells #[.int .i64 x] 2))).grown hgrow (by show g ≠ g'; omega))
            have B2 := hidden ((HB.out.alloc HBz.out (.cells #[.int .i64 x] 2)).grown hgrow (by have := HBz.out; simp; omega) hjk)
            have V3 := hidden V2
            have hg2 := V2.base
            clear hown hgrow hnil O1 V2 HO HB c2
            obtain ⟨⟨u0, p0⟩, f0, o2, g3⟩ := O2.out.set hlt (-1 - (l.length : Int))
            have O4 := hidden o2
            have V4 := hidden (show OwnL (w4.setCell ⟨g, k, none⟩ (.int .i64 (-1 - (l.length : Int)))) w1.heap.size g2 d2 (l ++ [x]) from ⟨V3.out.base, V3.out.own.kept g3 (.inr (by simp [Value.ownBlock]; omega))⟩)
            have B4 := hidden (B2.out.grown g3 (by have := B2.out.size; simp at this; omega) (fun j hj => by cases hj; exact hge))
            clear o2 g3 O2 V3 B2
            go_wp2
            go_roundw
            case rel => exact ⟨k + 1, g2, d2, by omega, by go_num, by rw [HE.out], hidden (by rw [HE.out]; exact V4.out), hidden (O4.out.congr (fun i _ => by
              by_cases e2 : i = k
              · rw [if_pos e2, if_pos (by omega), e2, HX.out, HR.out]
              · rw [if_neg e2]
                by_cases e1 : i < k
                · rw [if_pos e1, if_pos (by omega)]
                · rw [if_neg e1, if_neg (by omega)])), B4⟩
            case measure => simp [intOf]; omega
      · obtain rfl : k = M := by omega
        have HOM := hidden (HO.out.congr (M := fun i => rn (pv L k) (L i)) (fun i hi => by rw [if_pos hi]))
        have RR := hidden (R.out.keep (by simpa using HB.out))
        have XX := hidden (X.out.keep (by simpa using HB.out))
        have BW := hidden (show Below w.heap.size w wr from (alloc_below w _).trans (HB.out.mono (by omega)))
        obtain ⟨⟨_, q0, q1⟩, f0, f1⟩ := id RR.out
        by_cases h6 : 6 < (pv L k).length
        · have h6' : (6 : Int) < (pv L k).length := by omega
          have HR6 := hidden (show 6 < (eqV m1 L1 m2 L2).length by rw [HEV.out]; exact h6)
          clear h6
          generalize (pv L k).length = V at *
          go_wp2
          exact bodyPost_ret (v := .tuple #[.agg #[.slice none 0 0, .slice none 0 0], .bool false]) (by simp [results, Try.results23, go_sem, q0, q1]) rfl ⟨.inl ⟨HR6.out, rfl⟩, (BW.out.setCell (by simp) _).setCell (by simp) _⟩
        · have h6' : ¬ (6 : Int) < (pv L k).length := by omega
          have HR6 := hidden (show ¬ 6 < (eqV m1 L1 m2 L2).length by rw [HEV.out]; exact h6)
          clear h6
          generalize (pv L k).length = V at *
          have x0 := XX.out.c0
          have hem := EM.out
          subst hem
          have hkd : m1 + m2 ≤ d := by
            obtain ⟨xs, ho, _⟩ := HOM.out
            rcases ho.2 with ⟨e, _⟩ | ⟨g9, cap, cur, e, _, _, h3, _⟩
            · cases e
            · simp at e; rw [e.2]; exact h3
          have hgs := HOM.out.lt
          have EV := hidden (show pv L (m1 + m2) = eqV m1 L1 m2 L2 from HEV.out.symm)
          have U1 := hidden (show ∀ i, i < m1 → L i = L1 i from fun i hi => by rw [← EL.out]; unfold both; rw [if_pos hi])
          have U2 := hidden (show ∀ i, i < m2 → L (m1 + i) = L2 i from fun i hi => by rw [← EL.out]; unfold both; rw [if_neg (by omega)]; congr 1; omega)
          have S1 := hidden (show ∀ wc, Below wr.heap.size wr wc → Calls Try.prog 46 #[.slice (some ⟨g, 0, none⟩) m1 d] wc fun e w' => ∃ g1 d1, e = .returned (.slice (some ⟨g1, 0, none⟩) m1 d1) ∧ wr.heap.size ≤ g1 ∧ Hid (OwnI w' wr.heap.size g1 m1 d1 (fun i => rn (eqV m1 L1 m2 L2) (L1 i)) m1) ∧ Below wr.heap.size wr w' from fun wc hc => by
            have hp := (HOM.out.ints.keep hc).part (q := 0) (k := m1) (by omega)
            refine (l1Ints_any g 0 m1 d _ _ hp (by omega)).mono ?_
            rintro e w' ⟨g1, d1, rfl, hg, ho, hb⟩
            exact ⟨g1, d1, rfl, Nat.le_trans hc.size hg, hidden ((ho.base (Nat.le_trans hc.size hg)).congr (fun i hi => by rw [EV.out, Nat.zero_add, U1.out i hi])), keepB hc hb⟩)
          have S2 := hidden (show ∀ wc g1 d1, Below wr.heap.size wr wc → Hid (OwnI wc wr.heap.size g1 m1 d1 (fun i => rn (eqV m1 L1 m2 L2) (L1 i)) m1) → Calls Try.prog 46 #[.slice (some ⟨g, m1, none⟩) m2 (d - m1)] wc fun e w' => ∃ g2 d2, e = .returned (.slice (some ⟨g2, 0, none⟩) m2 d2) ∧ Hid (g1 < g2 ∧ OwnI w' wr.heap.size g1 m1 d1 (fun i => rn (eqV m1 L1 m2 L2) (L1 i)) m1 ∧ OwnI w' wr.heap.size g2 m2 d2 (fun i => rn (eqV m1 L1 m2 L2) (L2 i)) m2) ∧ Below wr.heap.size wr w' ∧ Own2 w' w.heap.size (.slice none 0 0) (.slice none 0 0) from fun wc g1 d1 hc ho1 => by
            have hp := (HOM.out.ints.keep hc).part (q := m1) (k := m2) (by omega)
            rw [Nat.zero_add] at hp
            refine (l1Ints_any g m1 m2 (d - m1) _ _ hp (by omega)).mono ?_
            rintro e w' ⟨g2, d2, rfl, hg, ho, hb⟩
            exact ⟨g2, d2, rfl, hidden ⟨Nat.lt_of_lt_of_le ho1.out.lt hg, ho1.out.keep hb, (ho.base (Nat.le_trans hc.size hg)).congr (fun i hi => by rw [EV.out, U2.out i hi])⟩, keepB hc hb, RR.out.keep (keepB hc hb)⟩)
          have i1 : (0 : Int) ≤ m1 := by omega
          have i2 : (m1 : Int) ≤ ((m1 + m2 : Nat) : Int) := by omega
          have i3 : ((m1 + m2 : Nat) : Int) ≤ d := by omega
          have i4 : (m1 : Int) ≤ d := by omega
          have HWS := hidden (Nat.lt_of_lt_of_le RR.out.two.blk (Nat.le_refl _))
          go_wp2_with fail
          go_region_with (first
            | (go_at_call 46; with_reducible refine (S1.out _ ?_).mono ?_; exact (Below.refl _ _).drew; rintro e v5 ⟨g5', d5', rfl, hg5, o5', b5'⟩)
            | (go_at_call 46; with_reducible refine (S2.out _ _ _ b5' o5').mono ?_; rintro e v6 ⟨g6', d6', rfl, o6', b6', ⟨⟨_, z0, z1⟩, z2, z3⟩⟩))
          all_goals go_wp2
          all_goals (
            obtain ⟨l5, o5, o6⟩ := o6'.out
            have r2 := BW.out.size
            have r3 := HWS.out
            refine bodyPost_ret (v := .tuple #[.agg #[.slice (some ⟨g5', 0, none⟩) m1 d5', .slice (some ⟨g6', 0, none⟩) m2 d6'], .bool true]) (by simp [results, Try.results23, go_sem, z0, z1]) rfl ⟨.inr ⟨HR6.out, g5', d5', g6', d6', rfl, by omega, l5, ?_, ?_⟩, ?_⟩
            · exact ((o5.other _ _ (by show g5' ≠ w.heap.size; omega)).other _ _ (by show g5' ≠ w.heap.size; omega)).base (by omega)
            · exact ((o6.other _ _ (by show g6' ≠ w.heap.size; omega)).other _ _ (by show g6' ≠ w.heap.size; omega)).base (by omega)
            · exact ((keepB BW.out b6').setCell (by simp) _).setCell (by simp) _)

end Go.Proofs.Ytbgemmhkfbfooaa

/- Contracts: PlainEquation, as the model answers it: the whole. -/
namespace Go.Proofs.Ytbgemmhkfbfooaa
open Go.RowKit

set_option maxRecDepth 20000 in
set_option maxHeartbeats 3200000 in
theorem specPlain_any (b off n c b1 o1 m1 c1 b2 o2 m2 c2 : Nat) (N : Nat → ByteArray) (A L1 L2 : Nat → Int) (w : World) (h : Syms w b off n N A) (h1 : Ints w b1 o1 m1 L1) (h2 : Ints w b2 o2 m2 L2) (hk : Kept n N A) (hm1 : m1 ≤ 1048576) (hm2 : m2 ≤ 1048576) :
    Calls Try.prog 7 #[.agg #[.slice (some ⟨b, off, none⟩) n c], .agg #[.slice (some ⟨b1, o1, none⟩) m1 c1, .slice (some ⟨b2, o2, none⟩) m2 c2]] w fun e w' => PAns w (plC n N A m1 L1 m2 L2) m1 (fun i => rn (eqV m1 L1 m2 L2) (L1 i)) m2 (fun i => rn (eqV m1 L1 m2 L2) (L2 i)) e w' ∧ Below w.heap.size w w' := by
  have A1 := hidden (alloc_below w (.cells #[.slice (some ⟨b, off, none⟩) n c] 26))
  have A2 := hidden (alloc_below (w.alloc (.cells #[.slice (some ⟨b, off, none⟩) n c] 26)) (.cells #[.slice (some ⟨b1, o1, none⟩) m1 c1, .slice (some ⟨b2, o2, none⟩) m2 c2] 29))
  have X := hidden (Two.new (w.alloc (.cells #[.slice (some ⟨b, off, none⟩) n c] 26)) (.slice (some ⟨b1, o1, none⟩) m1 c1) (.slice (some ⟨b2, o2, none⟩) m2 c2) 29)
  have A3 := hidden (alloc_below ((w.alloc (.cells #[.slice (some ⟨b, off, none⟩) n c] 26)).alloc (.cells #[.slice (some ⟨b1, o1, none⟩) m1 c1, .slice (some ⟨b2, o2, none⟩) m2 c2] 29)) (.cells #[.int .i64 0, .slice none 0 0, .slice none 0 0] 33))
  have R := hidden (Own3.new ((w.alloc (.cells #[.slice (some ⟨b, off, none⟩) n c] 26)).alloc (.cells #[.slice (some ⟨b1, o1, none⟩) m1 c1, .slice (some ⟨b2, o2, none⟩) m2 c2] 29)) (.int .i64 0) (.slice none 0 0) (.slice none 0 0) 33)
  have D := hidden (((One.new w (.slice (some ⟨b, off, none⟩) n c) 26).keep A2.out).keep A3.out)
  replace X := hidden (X.out.keep A3.out)
  simp only [World.size_alloc] at X R
  have B := hidden (keepB (keepB A1.out A2.out) A3.out)
  have Q := hidden (h.keep B.out)
  have I1 := hidden (h1.keep B.out)
  have I2 := hidden (h2.keep B.out)
  have HK := hidden hk
  clear h h1 h2 hk A1 A2 A3
  have d0 := D.out.c0
  have x0 := X.out.c0
  go_enter Try.func7, Try.ntmps7
  go_wp2_with fail
  with_reducible refine (specTerm_any _ _ _ _ _ _ _ _ N A L1 _ Q.out I1.out HK.out hm1).mono ?_
  rintro e w1 ⟨rfl, hb⟩
  replace X := hidden (X.out.keep hb)
  replace R := hidden (R.out.keep hb)
  replace D := hidden (D.out.keep hb)
  replace B := hidden (keepB B.out hb)
  replace I1 := hidden (I1.out.keep hb)
  replace I2 := hidden (I2.out.keep hb)
  replace Q := hidden (Q.out.keep hb)
  clear hb d0 x0
  by_cases hf : termF n N A m1 L1 = 0
  · have HF := hidden hf
    have F0 := hidden (show faultF n N A = 0 from Classical.byContradiction fun hc => by rw [term_fault hc] at hf; exact hc hf)
    have TL := hidden (term_l (m := m2) (T := L2) F0.out)
    rw [hf]
    clear hf
    have x1 := X.out.c1
    go_wp2_with fail
    with_reducible refine (l3Fault_all _ _ _ _ _ _ _ _ _ N A L2 _ D.out Q.out I2.out (fault_sound F0.out) hm2).mono ?_
    rintro e w2 ⟨rfl, hb⟩
    rw [← TL.out]
    replace X := hidden (X.out.keep hb)
    replace R := hidden (R.out.keep hb)
    replace B := hidden (keepB B.out hb)
    replace I1 := hidden (I1.out.keep hb)
    replace I2 := hidden (I2.out.keep hb)
    clear hb x1 D Q
    by_cases hf2 : termF n N A m2 L2 = 0
    · have SD := hidden (show sdF n N A m1 L1 m2 L2 = 0 by rw [sdF_right HF.out]; exact hf2)
      have T1 := hidden (term_right HF.out)
      have T2 := hidden (term_right hf2)
      rw [hf2]
      clear hf2
      go_wp2_with fail
      with_reducible refine (l4Plain_any _ n _ _ _ _ _ _ _ _ A L1 L2 _ X.out I1.out I2.out T1.out T2.out).mono ?_
      have RB := hidden (Nat.lt_of_lt_of_le R.out.blk (Nat.le_refl _))
      have BS := hidden B.out.size
      rintro e w3 ⟨ha, hb⟩
      replace R := hidden (R.out.keep hb)
      replace B := hidden (keepB B.out hb)
      rcases ha with ⟨h6, rfl⟩ | ⟨h6, g1, d1, g2, d2, rfl, hg1, hg2, ho1, ho2⟩
      · have HA := hidden (plC_many SD.out h6)
        clear h6 hb
        replace R := hidden (R.out.keep (alloc_below w3 (.cells #[.slice none 0 0, .slice none 0 0] 29)))
        replace B := hidden (keepB B.out (alloc_below w3 (.cells #[.slice none 0 0, .slice none 0 0] 29)))
        obtain ⟨_, q0, q1, q2, f0, f1, f2⟩ := id R.out
        go_wp2
        exact bodyPost_ret (v := .agg #[.int .i64 2, .slice none 0 0, .slice none 0 0]) (by simp [results, Try.results7, go_sem, q0, q1, q2]) rfl ⟨.inl ⟨by rw [HA.out]; decide, by rw [HA.out]⟩, ((B.out.setCell (by simp; omega) _).setCell (by simp; omega) _).setCell (by simp; omega) _⟩
      · have HA := hidden (plC_ok SD.out h6)
        have O1 := hidden (ho1.keep (alloc_below w3 (.cells #[.slice (some ⟨g1, 0, none⟩) m1 d1, .slice (some ⟨g2, 0, none⟩) m2 d2] 29)))
        have O2 := hidden (ho2.keep (alloc_below w3 (.cells #[.slice (some ⟨g1, 0, none⟩) m1 d1, .slice (some ⟨g2, 0, none⟩) m2 d2] 29)))
        have Y := hidden (Two.new w3 (.slice (some ⟨g1, 0, none⟩) m1 d1) (.slice (some ⟨g2, 0, none⟩) m2 d2) 29)
        replace R := hidden (R.out.keep (alloc_below w3 (.cells #[.slice (some ⟨g1, 0, none⟩) m1 d1, .slice (some ⟨g2, 0, none⟩) m2 d2] 29)))
        replace B := hidden (keepB B.out (alloc_below w3 (.cells #[.slice (some ⟨g1, 0, none⟩) m1 d1, .slice (some ⟨g2, 0, none⟩) m2 d2] 29)))
        have HG := hidden (And.intro hg1 hg2)
        clear h6 hb ho1 ho2 hg1 hg2
        obtain ⟨_, q0, q1, q2, f0, f1, f2⟩ := id R.out
        have y0 := Y.out.c0
        have y1 := Y.out.c1
        go_wp2
        have r1 := RB.out
        have r2 := BS.out
        have r3 := HG.out
        refine bodyPost_ret (v := .agg #[.int .i64 0, .slice (some ⟨g1, 0, none⟩) m1 d1, .slice (some ⟨g2, 0, none⟩) m2 d2]) (by simp [results, Try.results7, go_sem, q0, q1, q2]) rfl ⟨.inr ⟨HA.out, g1, d1, g2, d2, rfl, by omega, r3.2, ?_, ?_⟩, ((B.out.setCell (by simp; omega) _).setCell (by simp; omega) _).setCell (by simp; omega) _⟩
        · exact (((O1.out.other _ _ (by show g1 ≠ w.heap.size + 1 + 1; omega)).other _ _ (by show g1 ≠ w.heap.size + 1 + 1; omega)).other _ _ (by show g1 ≠ w.heap.size + 1 + 1; omega)).base (by omega)
        · exact (((O2.out.other _ _ (by show g2 ≠ w.heap.size + 1 + 1; omega)).other _ _ (by show g2 ≠ w.heap.size + 1 + 1; omega)).other _ _ (by show g2 ≠ w.heap.size + 1 + 1; omega)).base (by omega)
    · have SD := hidden (sdF_right (m2 := m2) (L2 := L2) HF.out)
      have HA := hidden (plC_fault (by rw [SD.out]; exact hf2))
      have HC := hidden hf2
      have hf' : (termF n N A m2 L2 != 0) = true := by simpa using hf2
      obtain ⟨z, hz⟩ : ∃ z, termF n N A m2 L2 = z := ⟨_, rfl⟩
      rw [hz] at hf' ⊢
      have HZ := hidden hz
      clear hf2 hz
      obtain ⟨_, q0, q1, q2, f0, f1, f2⟩ := id R.out
      go_wp2
      exact bodyPost_ret (v := .agg #[.int .i64 z, .slice none 0 0, .slice none 0 0]) (by simp [results, Try.results7, go_sem, q0, q1, q2]) rfl ⟨.inl ⟨by rw [HA.out, SD.out]; exact HC.out, by rw [HA.out, SD.out, HZ.out]⟩, ((B.out.setCell (by simp; omega) _).setCell (by simp; omega) _).setCell (by simp; omega) _⟩
  · have SD := hidden (sdF_left (m2 := m2) (L2 := L2) hf)
    have HA := hidden (plC_fault (by rw [SD.out]; exact hf))
    have HC := hidden hf
    have hf' : (termF n N A m1 L1 != 0) = true := by simpa using hf
    obtain ⟨z, hz⟩ : ∃ z, termF n N A m1 L1 = z := ⟨_, rfl⟩
    rw [hz] at hf' ⊢
    have HZ := hidden hz
    clear hf hz
    obtain ⟨_, q0, q1, q2, f0, f1, f2⟩ := id R.out
    go_wp2
    exact bodyPost_ret (v := .agg #[.int .i64 z, .slice none 0 0, .slice none 0 0]) (by simp [results, Try.results7, go_sem, q0, q1, q2]) rfl ⟨.inl ⟨by rw [HA.out, SD.out]; exact HC.out, by rw [HA.out, SD.out, HZ.out]⟩, ((B.out.setCell (by simp; omega) _).setCell (by simp; omega) _).setCell (by simp; omega) _⟩

end Go.Proofs.Ytbgemmhkfbfooaa
