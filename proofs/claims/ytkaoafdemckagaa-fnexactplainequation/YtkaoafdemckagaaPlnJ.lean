/- Contracts: two lists of nodes as one, and nodes numbered anew, as the program does it. -/
import Derived.Test.YtkaoafdemckagaaPlnI
namespace Go.Proofs.Ytkaoafdemckagaa
open Go.RowKit

set_option maxRecDepth 20000 in
set_option maxHeartbeats 3200000 in
theorem concat2_any (B b1 o1 q c1 b2 o2 k c2 : Nat) (L M : Nat → Int) (w : World) (h0 : Two w B (.slice (some ⟨b1, o1, none⟩) q c1) (.slice (some ⟨b2, o2, none⟩) k c2))
    (h1 : Ints w b1 o1 q L) (h2 : Ints w b2 o2 k M) (hq : q ≤ 24) (hk : 1 ≤ k ∧ k ≤ 24) :
    Calls Try.prog 53 #[.slice (some ⟨B, 0, none⟩) 2 2] w fun e w' => ∃ g d, e = .returned (.slice (some ⟨g, 0, none⟩) (q + k) d) ∧ w.heap.size ≤ g ∧ w'.ownsRow w.heap.size 2 1 (.slice (some ⟨g, 0, none⟩) (q + k) d) (q + k) (valsI L q ++ valsI M k) ∧ Below w.heap.size w w' := by
  have H0 := hidden h0
  have H1 := hidden h1
  have H2 := hidden h2
  have k0 := h0.c0
  have k1 := h0.c1
  have s1 : ¬ ((q : Int) < 0) := by omega
  have s2 : ¬ ((q : Int) + k < 0) := by omega
  have GC := hidden (grow_any (q + k) w (by omega) (by omega))
  rw [show ((q + k : Nat) : Int) = (q : Int) + k by omega] at GC
  clear h0 h1 h2
  go_enter Try.func53, Try.ntmps53
  go_wp2
  refine wp_loop_rounds 3 ?_
  rw [rounds_succ]
  go_wp2
  rw [rounds_succ]
  go_wp2
  rw [rounds_succ]
  go_wp2_with fail
  with_reducible refine GC.out.mono ?_
  rintro e w1 ⟨d, rfl, ho, hb⟩
  have T1 := hidden (H0.out.keep hb)
  have I1 := hidden (H1.out.keep hb)
  have I2 := hidden (H2.out.keep hb)
  have O1 := hidden ho
  have B1 := hidden hb
  clear hb ho GC k0 k1
  have t0 := T1.out.c0
  go_wp2_with fail
  refine wp_loop_rounds 3 ?_
  rw [rounds_succ]
  go_wp2_with (at_builtin; refine wpList_append_own _ rfl _ _ 25 rfl w.heap.size 2 _ (.int .i64 0) 1 8 Try.underlying25 rfl rfl rfl rfl rfl (by decide) _ _ _ rfl O1.out ⟨b1, o1, none⟩ q c1 (valsI L q) rfl (by simp [valsI]) I1.out.src0 (intNews _ _) (by unfold maxLen; omega) (by omega) (by have := B1.out.size; omega) ?_)
  intro v' w2 hown hgrow hnil
  obtain ⟨g2, d2, rfl, hg2, ho, hb⟩ := row_open hown (by simpa using hnil) (B1.out.grown hgrow B1.out.size (by intro x hx; simp [Value.ownBlock] at hx; omega))
  have T2 := hidden (H0.out.keep hb)
  have I1 := hidden (H1.out.keep hb)
  have I2 := hidden (H2.out.keep hb)
  have O2 := hidden ho
  have B2 := hidden hb
  clear hown hgrow hnil ho hb t0 T1 O1 B1
  go_wp2
  have t0 := T2.out.c1

  rw [rounds_succ]
  go_wp2_with (at_builtin; refine wpList_append_own _ rfl _ _ 25 rfl w.heap.size 2 _ (.int .i64 0) 1 8 Try.underlying25 rfl rfl rfl rfl rfl (by decide) _ _ _ rfl O2.out ⟨b2, o2, none⟩ k c2 (valsI M k) rfl (by simp [valsI]) I2.out.src0 (intNews _ _) (by unfold maxLen; omega) (by omega) (by have := B2.out.size; omega) ?_)
  intro v' w3 hown hgrow hnil
  obtain ⟨g3, d3, rfl, hg3, ho, hb⟩ := row_open hown (by simpa using hnil) (B2.out.grown hgrow B2.out.size (by intro x hx; simp [Value.ownBlock] at hx; omega))
  have T3 := hidden (H0.out.keep hb)
  have I1 := hidden (H1.out.keep hb)
  have I2 := hidden (H2.out.keep hb)
  have O3 := hidden ho
  have B3 := hidden hb
  clear hown hgrow hnil ho hb t0 T2 O2 B2
  go_wp2
  rw [rounds_succ]
  go_wp2
  go_ret
  exact ⟨g3, d3, rfl, hg3, O3.out, B3.out⟩


/-- Both sides, one behind the other. -/
def both (m1 : Nat) (L1 L2 : Nat → Int) : Nat → Int := fun i => if i < m1 then L1 i else L2 (i - m1)

theorem both_vals (m1 m2 : Nat) (L1 L2 : Nat → Int) : valsI L1 m1 ++ valsI L2 m2 = valsI (both m1 L1 L2) (m1 + m2) := by
  apply List.ext_getElem
  · simp [valsI]
  · intro i h1 h2
    have hi : i < m1 + m2 := by simpa [valsI] using h2
    by_cases h : i < m1
    · rw [List.getElem_append_left (by simpa [valsI] using h)]; simp [valsI, both, h]
    · rw [List.getElem_append_right (by simp [valsI]; omega)]; simp [valsI, both, h]

theorem OwnI.congr {w : World} {B g n c : Nat} {L M : Nat → Int} {k : Nat} (h : OwnI w B g n c L k) (e : ∀ i, i < k → L i = M i) : OwnI w B g n c M k := by
  obtain ⟨xs, ho, hx⟩ := h
  exact ⟨xs, ho, fun i hi => by rw [← e i hi]; exact hx i hi⟩

theorem OwnI.set {w : World} {B g n c : Nat} {L : Nat → Int} (h : OwnI w B g n c L n) {k : Nat} (hk : k < n) (x : Int) :
    (∃ u0, w.cell? ⟨g, k, none⟩ = some u0) ∧ w.frozen? ⟨g, k, none⟩ = false ∧ OwnI (w.setCell ⟨g, k, none⟩ (.int .i64 x)) B g n c (fun i => if i = k then x else L i) n ∧ w.grownBy (w.setCell ⟨g, k, none⟩ (.int .i64 x)) (some g) := by
  obtain ⟨xs, ho, hx⟩ := h
  obtain ⟨o1, g1⟩ := ho.stored k (.int .i64 x)
  have hl : xs.length = n * 1 := ho.1
  refine ⟨⟨_, (ho.cellAt k (by omega)).trans (List.getElem?_eq_getElem (by omega))⟩, ho.frozenAt _, ⟨_, o1, fun i hi => ?_⟩, g1⟩
  by_cases e : i = k
  · subst e; rw [List.getElem?_set_self (by omega)]; show _ = some (Value.int .i64 (if i = i then x else L i)); rw [if_pos rfl]
  · rw [List.getElem?_set_ne (by omega)]; show _ = some (Value.int .i64 (if i = k then x else L i)); rw [if_neg e]; exact hx i hi

theorem VarSl.grown {w w' : World} {B : Nat} {v : Value} {V : List Int} {g : Nat} (h : VarSl w B v V) (hg : w.grownBy w' (some g)) (hne : ∀ g' d, v = .slice (some ⟨g', 0, none⟩) V.length d → g' ≠ g) : VarSl w' B v V := by
  rcases h with h | ⟨g', d, e, ho⟩
  · exact .inl h
  · refine .inr ⟨g', d, e, ho.base, ho.own.kept hg (.inr ?_)⟩
    have := hne g' d e
    simpa [Value.ownBlock] using this

theorem VarSl.below {w : World} {B : Nat} {v : Value} {V : List Int} (h : VarSl w B v V) : ∀ g d, v = .slice (some ⟨g, 0, none⟩) V.length d → g < w.heap.size := by
  intro g d e
  rcases h with ⟨e', _⟩ | ⟨g', d', e', ho⟩
  · rw [e'] at e; cases e
  · rw [e'] at e; simp at e; rw [← e.1]; exact ho.lt

set_option maxRecDepth 20000 in
set_option maxHeartbeats 3200000 in
theorem renumbered_any (B b off n m c : Nat) (v : Value) (V : List Int) (L : Nat → Int) (w : World) (h : Ints w b off m L) (hv : VarSl w B v V) (hm : m ≤ 24) (hV : V.length ≤ 48) (hg : ∀ i, i < m → nodeB (L i) n = true) (hin : ∀ i, i < m → L i < 0 → L i ∈ V) :
    Calls Try.prog 54 #[.slice (some ⟨b, off, none⟩) m c, v] w fun e w' => (∃ g d, e = .returned (.slice (some ⟨g, 0, none⟩) m d) ∧ w.heap.size ≤ g ∧ OwnI w' w.heap.size g m d (fun i => rn V (L i)) m) ∧ Below w.heap.size w w' := by
  have H := hidden h
  have HV := hidden hv
  have HG := hidden hg
  have HI := hidden hin
  have HW := hidden hv.below
  clear h hv hg hin
  go_enter Try.func54, Try.ntmps54
  go_wp2_with fail
  with_reducible refine (clone_any _ _ _ _ L _ H.out (by omega)).mono ?_
  rintro e w1 ⟨g, d, rfl, hgb, ho, hb⟩
  have HO := hidden ho
  have HB := hidden hb
  have GB := hidden hgb
  clear ho hb hgb
  go_wp2
  go_loopw [12] (fun i wr => ∃ k : Nat, k ≤ m ∧ i = .int .i64 k ∧ Hid (OwnI wr w.heap.size g m d (fun i => if i < k then rn V (L i) else L i) m) ∧ Hid (VarSl wr B v V) ∧ Hid (Below w.heap.size w wr)) (fun i _ => m - (intOf i).toNat)
  case atStart => exact ⟨0, Nat.zero_le _, rfl, hidden (HO.out.congr (fun i _ => by simp)), hidden (HV.out.keep HB.out), HB⟩
  case round =>
    clear HO HV HB
    obtain ⟨k, hk, rfl, HO, HV, HB⟩ := hrel
    by_cases hlt : k < m
    · have c1 := HO.out.ints.cell k hlt
      simp only [Nat.lt_irrefl, if_false, Nat.zero_add] at c1
      rcases nodeB_cases (HG.out k hlt) with ⟨j, e, hj⟩ | hv
      · have HE := hidden (show rn V (L k) = L k from rn_pos (by omega))
        have hz : varB (L k) = false := by simp [varB]; omega
        clear e
        generalize hx : L k = x at *
        have HX := hidden hx
        clear hx
        go_wp2_with fail
        with_reducible refine (isVariable_any _ _).mono ?_
        rintro e w2 ⟨rfl, hb⟩
        rw [hz]
        replace HO := hidden (HO.out.keep hb)
        replace HV := hidden (HV.out.keep hb)
        replace HB := hidden (keepB HB.out hb)
        clear hb c1 hz
        go_wp2
        go_roundw
        case rel => exact ⟨k + 1, by omega, by go_num, hidden (HO.out.congr (fun i _ => by
          by_cases e1 : i < k
          · rw [if_pos e1, if_pos (by omega)]
          · by_cases e2 : i = k
            · rw [if_neg e1, if_pos (by omega), e2, HX.out, HE.out]
            · rw [if_neg e1, if_neg (by omega)])), HV, HB⟩
        case measure => simp [intOf]; omega
      · have hmem := HI.out k hlt (by omega)
        have hz : varB (L k) = true := by simp [varB]; omega
        have HE := hidden (show rn V (L k) = -1 - (ixL V (L k) : Int) from rn_var (by omega))
        have HIX := hidden (show ixV V (L k) = (ixL V (L k) : Int) from rk_list hmem)
        have hil := ixL_lt hmem
        clear hv hmem
        generalize hx : L k = x at *
        have HX := hidden hx
        clear hx
        go_wp2_with fail
        with_reducible refine (isVariable_any _ _).mono ?_
        rintro e w2 ⟨rfl, hb⟩
        rw [hz]
        replace HO := hidden (HO.out.keep hb)
        replace HV := hidden (HV.out.keep hb)
        replace HB := hidden (keepB HB.out hb)
        clear hb c1 hz
        go_wp2_with fail
        with_reducible refine (indexV_any B v V x _ HV.out (by omega)).mono ?_
        rintro e w3 ⟨rfl, hb⟩
        rw [HIX.out]
        replace HO := hidden (HO.out.keep hb)
        replace HV := hidden (HV.out.keep hb)
        replace HB := hidden (keepB HB.out hb)
        clear hb HIX
        generalize ixL V x = q at *
        go_wp2_with fail
        with_reducible refine (variableOf_any _ _ (by omega)).mono ?_
        rintro e w4 ⟨rfl, hb⟩
        replace HO := hidden (HO.out.keep hb)
        replace HV := hidden (HV.out.keep hb)
        replace HB := hidden (keepB HB.out hb)
        clear hb
        obtain ⟨⟨u0, p0⟩, f0, o2, g2⟩ := HO.out.set hlt (-1 - (q : Int))
        have O2 := hidden o2
        have V2 := hidden (HV.out.grown g2 (fun g' d' e => by have := HW.out g' d' e; have := GB.out; omega))
        have B2 := hidden (HB.out.grown g2 HB.out.size (fun j hj => by cases hj; exact GB.out))
        clear o2 g2 HO HV HB
        go_wp2
        go_roundw
        case rel => exact ⟨k + 1, by omega, by go_num, hidden (O2.out.congr (fun i _ => by
          by_cases e2 : i = k
          · rw [if_pos e2, if_pos (by omega), e2, HX.out, HE.out]
          · rw [if_neg e2]
            by_cases e1 : i < k
            · rw [if_pos e1, if_pos (by omega)]
            · rw [if_neg e1, if_neg (by omega)])), V2, B2⟩
        case measure => simp [intOf]; omega
    · obtain rfl : k = m := by omega
      go_wp2
      go_ret
      exact ⟨⟨g, d, rfl, GB.out, HO.out.congr (fun i hi => by rw [if_pos hi])⟩, HB.out⟩

end Go.Proofs.Ytkaoafdemckagaa
