/- Contracts: the variables of a term, as the program tells them: by marks. -/
import Derived.Test.YtbgemmhkfbfooaaPut
namespace Go.Proofs.Ytbgemmhkfbfooaa
open Go.RowKit

/-- The marks of the variables that the first k nodes are. -/
def MarksV (w : World) (b k : Nat) (T : Nat → Int) : Prop := ∀ j, j < 12 → w.cell? ⟨b, j, none⟩ = some (.bool (mkV T k j)) ∧ w.frozen? ⟨b, j, none⟩ = false

theorem MarksV.new (w : World) (T : Nat → Int) : MarksV (w.alloc (.cells #[.bool false, .bool false, .bool false, .bool false, .bool false, .bool false, .bool false, .bool false, .bool false, .bool false, .bool false, .bool false] 94)) w.heap.size 0 T := by
  intro j hj
  refine ⟨?_, ?_⟩
  · match j, hj with
    | 0, _ => simp [go_sem, mkV]
    | 1, _ => simp [go_sem, mkV]
    | 2, _ => simp [go_sem, mkV]
    | 3, _ => simp [go_sem, mkV]
    | 4, _ => simp [go_sem, mkV]
    | 5, _ => simp [go_sem, mkV]
    | 6, _ => simp [go_sem, mkV]
    | 7, _ => simp [go_sem, mkV]
    | 8, _ => simp [go_sem, mkV]
    | 9, _ => simp [go_sem, mkV]
    | 10, _ => simp [go_sem, mkV]
    | 11, _ => simp [go_sem, mkV]
    | j + 12, hj => omega
  · match j, hj with
    | 0, _ => simp [go_sem]
    | 1, _ => simp [go_sem]
    | 2, _ => simp [go_sem]
    | 3, _ => simp [go_sem]
    | 4, _ => simp [go_sem]
    | 5, _ => simp [go_sem]
    | 6, _ => simp [go_sem]
    | 7, _ => simp [go_sem]
    | 8, _ => simp [go_sem]
    | 9, _ => simp [go_sem]
    | 10, _ => simp [go_sem]
    | 11, _ => simp [go_sem]
    | j + 12, hj => omega

theorem MarksV.keep {w w' : World} {b k : Nat} {T : Nat → Int} (h : MarksV w b k T) (hb : Below w.heap.size w w') (hl : b < w.heap.size) : MarksV w' b k T := fun j hj => by
  rw [hb.cell (p := ⟨b, j, none⟩) hl, hb.frozen (p := ⟨b, j, none⟩) hl]; exact h j hj

theorem MarksV.step {w : World} {b k v : Nat} {T : Nat → Int} (h : MarksV w b k T) (hv : v < 12) (he : T k = -1 - (v : Int)) : MarksV (w.setCell ⟨b, v, none⟩ (.bool true)) b (k + 1) T := by
  intro j hj
  refine ⟨?_, by rw [World.frozen?_setCell]; exact (h j hj).2⟩
  by_cases e : j = v
  · subst e
    have : mkV T (k + 1) j = true := by simp [mkV, he]
    rw [this]
    exact World.cell?_setCell_same _ _ _ (h j hj).1
  · have : mkV T (k + 1) j = mkV T k j := by simp only [mkV, he]; have : decide ((-1 : Int) - v = -1 - j) = false := by simp; omega
                                             rw [this, Bool.or_false]
    rw [World.cell?_setCell_other _ _ _ _ (by simp), this]
    exact (h j hj).1

theorem MarksV.skip {w : World} {b k : Nat} {T : Nat → Int} (h : MarksV w b k T) (he : 0 ≤ T k) : MarksV w b (k + 1) T := by
  intro j hj
  have : mkV T (k + 1) j = mkV T k j := by
    simp only [mkV]
    have : decide (T k = -1 - (j : Int)) = false := by simp; omega
    rw [this, Bool.or_false]
  rw [this]; exact h j hj

set_option maxRecDepth 20000 in
set_option maxHeartbeats 400000 in
theorem variableOf_any (v : Nat) (w : World) (hv : v < 12) :
    Calls Try.prog 28 #[.int .i64 (-1 - (v : Int))] w fun e w' => e = .returned (.int .i64 (v : Int)) ∧ w' = w := by
  go_enter Try.func28, Try.ntmps28
  go_wp2
  go_ret
  have hw : (-1 : Int) - (-1 - (v : Int)) = v := by omega
  exact ⟨by show Ending.returned (Value.int .i64 (-1 - (-1 - (v : Int)))) = _; rw [hw], rfl⟩

theorem index_marks (P : Nat → Bool) (k : Nat) (hk : k < 12) (w : World) : (Instr.index 94 (.agg #[.bool (P 0), .bool (P 1), .bool (P 2), .bool (P 3), .bool (P 4), .bool (P 5), .bool (P 6), .bool (P 7), .bool (P 8), .bool (P 9), .bool (P 10), .bool (P 11)]) (.int .i64 (k : Int))).run Try.prog w = .ok (.bool (P k)) w := by
  match k, hk with
  | 0, _ => simp [Instr.index, run_underlying Try.underlying94, asIntOf, go_sem]
  | 1, _ => simp [Instr.index, run_underlying Try.underlying94, asIntOf, go_sem]
  | 2, _ => simp [Instr.index, run_underlying Try.underlying94, asIntOf, go_sem]
  | 3, _ => simp [Instr.index, run_underlying Try.underlying94, asIntOf, go_sem]
  | 4, _ => simp [Instr.index, run_underlying Try.underlying94, asIntOf, go_sem]
  | 5, _ => simp [Instr.index, run_underlying Try.underlying94, asIntOf, go_sem]
  | 6, _ => simp [Instr.index, run_underlying Try.underlying94, asIntOf, go_sem]
  | 7, _ => simp [Instr.index, run_underlying Try.underlying94, asIntOf, go_sem]
  | 8, _ => simp [Instr.index, run_underlying Try.underlying94, asIntOf, go_sem]
  | 9, _ => simp [Instr.index, run_underlying Try.underlying94, asIntOf, go_sem]
  | 10, _ => simp [Instr.index, run_underlying Try.underlying94, asIntOf, go_sem]
  | 11, _ => simp [Instr.index, run_underlying Try.underlying94, asIntOf, go_sem]
  | j + 12, hk => omega

/-- What variablesIn answers: no list, or one of its own. -/
def VarAns (w : World) (l : List Int) (e : Ending) (w' : World) : Prop :=
  (l = [] ∧ e = .returned (.slice none 0 0)) ∨ (l ≠ [] ∧ ∃ g d, e = .returned (.slice (some ⟨g, 0, none⟩) l.length d) ∧ OwnL w' w.heap.size g d l)

set_option maxRecDepth 20000 in
set_option maxHeartbeats 3200000 in
theorem variablesIn_any (b off n m c : Nat) (A T : Nat → Int) (w : World) (h : Ints w b off m T) (hg : Nods n A m T) :
    Calls Try.prog 51 #[.slice (some ⟨b, off, none⟩) m c] w fun e w' => VarAns w (flt (mkV T m) 0 12) e w' ∧ Below w.heap.size w w' := by
  have M0 := hidden (MarksV.new w T)
  have B0 := hidden (alloc_below w (.cells #[.bool false, .bool false, .bool false, .bool false, .bool false, .bool false, .bool false, .bool false, .bool false, .bool false, .bool false, .bool false] 94))
  have H := hidden h
  have HG := hidden hg
  have hm := hg.most
  clear h hg
  go_enter Try.func51, Try.ntmps51
  go_wp2
  go_loopw [11] (fun i wr => ∃ k : Nat, k ≤ m ∧ i = .int .i64 k ∧ Hid (MarksV wr w.heap.size k T) ∧ Hid (Below w.heap.size w wr) ∧ Hid (w.heap.size < wr.heap.size)) (fun i _ => m - (intOf i).toNat)
  case atStart => exact ⟨0, Nat.zero_le _, rfl, M0, B0, hidden (by simp)⟩
  case round =>
    clear M0 B0
    obtain ⟨k, hk, rfl, M, HB, HL⟩ := hrel
    by_cases hlt : k < m
    · have c1 := (H.out.keep HB.out).cell k hlt
      rcases nodeB_cases (HG.out.node k hlt) with ⟨j, e, hj⟩ | hv
      · have M2 := hidden (M.out.skip (show 0 ≤ T k by omega))
        rw [e] at c1
        clear e
        go_wp2_with fail
        with_reducible refine (isVariable_any _ _).mono ?_
        rintro e w1 ⟨rfl, hb⟩
        have hz : varB (j : Int) = false := by simp [varB]; omega
        rw [hz]
        have M3 := hidden (M2.out.keep hb HL.out)
        have B3 := hidden (keepB HB.out hb)
        have L3 := hidden (Nat.lt_of_lt_of_le HL.out hb.size)
        clear hb c1 M M2 HB HL hz
        go_wp2
        go_roundw
        case rel => exact ⟨k + 1, by omega, by go_num, M3, B3, L3⟩
        case measure => simp [intOf]; omega
      · obtain ⟨v, hv2⟩ : ∃ v : Nat, T k = -1 - (v : Int) := ⟨(-1 - T k).toNat, by omega⟩
        have hv12 : v < 12 := by omega
        have HE := hidden hv2
        rw [hv2] at c1
        clear hv hv2
        go_wp2_with fail
        with_reducible refine (isVariable_any _ _).mono ?_
        rintro e w1 ⟨rfl, hb⟩
        have hz : varB (-1 - (v : Int)) = true := by simp [varB]; omega
        rw [hz]
        have M3 := hidden (M.out.keep hb HL.out)
        have B3 := hidden (keepB HB.out hb)
        have L3 := hidden (Nat.lt_of_lt_of_le HL.out hb.size)
        clear hb c1 M HB HL hz
        go_wp2_with fail
        with_reducible refine (variableOf_any _ _ hv12).mono ?_
        rintro e w2 ⟨rfl, rfl⟩
        obtain ⟨c2, f2⟩ := M3.out v hv12
        have M4 := hidden (M3.out.step hv12 HE.out)
        have B4 := hidden (B3.out.setCell (p := ⟨w.heap.size, v, none⟩) (Nat.le_refl _) (.bool true))
        have L4 := hidden (show w.heap.size < (w2.setCell ⟨w.heap.size, v, none⟩ (.bool true)).heap.size by simp; exact L3.out)
        clear M3 B3 L3 HE
        generalize mkV T k v = mv at c2
        go_wp2
        go_roundw
        case rel => exact ⟨k + 1, by omega, by go_num, M4, B4, L4⟩
        case measure => simp [intOf]; omega
    · obtain rfl : k = m := by omega
      obtain ⟨P, hP⟩ : ∃ P, P = mkV T k := ⟨_, rfl⟩
      have HP := hidden hP
      have M5 : ∀ j, j < 12 → wr.cell? ⟨w.heap.size, j, none⟩ = some (.bool (P j)) := fun j hj => by rw [hP]; exact (M.out j hj).1
      have k0 := M5 0 (by omega)
      have k1 := M5 1 (by omega)
      have k2 := M5 2 (by omega)
      have k3 := M5 3 (by omega)
      have k4 := M5 4 (by omega)
      have k5 := M5 5 (by omega)
      have k6 := M5 6 (by omega)
      have k7 := M5 7 (by omega)
      have k8 := M5 8 (by omega)
      have k9 := M5 9 (by omega)
      have k10 := M5 10 (by omega)
      have k11 := M5 11 (by omega)
      clear hP hlt hk M5
      go_wp2
      clear k0 k1 k2 k3 k4 k5 k6 k7 k8 k9 k10 k11
      go_loopw [6, 22] (fun o i w3 => ∃ k : Nat, k ≤ 12 ∧ i = .int .i64 k ∧ ((o = .slice none 0 0 ∧ Hid (flt P 0 k = []) ∧ Hid (Below w.heap.size w w3)) ∨ ∃ g d, o = .slice (some ⟨g, 0, none⟩) (flt P 0 k).length d ∧ Hid (flt P 0 k ≠ []) ∧ Hid (OwnL w3 w.heap.size g d (flt P 0 k) ∧ Below w.heap.size w w3))) (fun _ i _ => 12 - (intOf i).toNat)
      case atStart => exact ⟨0, by omega, rfl, .inl ⟨rfl, hidden rfl, HB⟩⟩
      case round =>
        rename World => w3
        clear M HB HL
        obtain ⟨k, hk, rfl, ho⟩ := hrel
        by_cases hlt : k < 12
        · have hix := index_marks P k hlt
          have hln := flt_length P 0 k
          by_cases hp : P k = true
          · have HE := hidden (show flt P 0 (k + 1) = flt P 0 k ++ [(k : Int)] by rw [flt_snoc, if_pos hp])
            rw [hp] at hix
            clear hp
            rcases ho with ⟨rfl, HN, HB⟩ | ⟨g, d, rfl, HN, HI⟩
            · have O1 := hidden (World.ownsRow_nil w3 w.heap.size 2 1)
              have B1 := HB
              have W1 := hidden HB.out.size
              rw [HN.out] at HE
              clear HB HN hln
              go_wp2_with (first | (at_builtin; refine wpList_append_own _ rfl _ _ 27 rfl w.heap.size 2 _ (.int .i64 0) 1 8 Try.underlying27 rfl rfl rfl rfl rfl (by decide) _ _ _ rfl (O1.out.alloc _) ⟨w3.heap.size, 0, none⟩ 1 1 [.int .i64 (k : Int)] rfl rfl (one_srcI _ _ _) (oneValI _) (by unfold maxLen; omega) (by omega) (by have := W1.out; simp; omega) ?_) | go_in)
              intro v' w4 hown hgrow hnil
              obtain ⟨g2, d2, rfl, O2, B2⟩ := ownL_open (l := [] ++ [(k : Int)]) hown (by simp) (by simp) (by simpa using hnil) ((B1.out.alloc W1.out _).grown hgrow (by have := W1.out; simp; omega) (by intro q hq; simp [Value.ownBlock] at hq))
              have H2 := hidden (And.intro O2 B2)
              clear hown hgrow hnil O1 B1 W1 O2 B2 hix
              rw [← HE.out] at H2 ⊢
              have HNE := hidden (show flt P 0 (k + 1) ≠ [] by rw [HE.out]; simp)
              go_wp2
              go_roundw
              case rel => exact ⟨k + 1, by omega, by go_num, .inr ⟨g2, d2, rfl, HNE, H2⟩⟩
              case measure => simp [intOf]; omega
            · have O1 := hidden HI.out.1.own
              have G1 := HI.out.1.base
              have B1 := hidden HI.out.2
              have W1 := hidden HI.out.2.size
              clear HI HN
              generalize flt P 0 k = l at *
              go_wp2_with (first | (at_builtin; refine wpList_append_own _ rfl _ _ 27 rfl w.heap.size 2 _ (.int .i64 0) 1 8 Try.underlying27 rfl rfl rfl rfl rfl (by decide) _ _ _ rfl (O1.out.alloc _) ⟨w3.heap.size, 0, none⟩ 1 1 [.int .i64 (k : Int)] rfl rfl (one_srcI _ _ _) (oneValI _) (by unfold maxLen; omega) (by omega) (by have := W1.out; simp; omega) ?_) | go_in)
              intro v' w4 hown hgrow hnil
              obtain ⟨g2, d2, rfl, O2, B2⟩ := ownL_open (l := l ++ [(k : Int)]) hown (by simp) (by simp) (by simpa using hnil) ((B1.out.alloc W1.out _).grown hgrow (by have := W1.out; simp; omega) (by intro q hq; simp [Value.ownBlock] at hq; omega))
              have H2 := hidden (And.intro O2 B2)
              clear hown hgrow hnil O1 B1 W1 O2 B2 hix
              rw [← HE.out] at H2 ⊢
              have HNE := hidden (show flt P 0 (k + 1) ≠ [] by rw [HE.out]; simp)
              go_wp2
              go_roundw
              case rel => exact ⟨k + 1, by omega, by go_num, .inr ⟨g2, d2, rfl, HNE, H2⟩⟩
              case measure => simp [intOf]; omega
          · have HE := hidden (show flt P 0 (k + 1) = flt P 0 k by rw [flt_snoc, if_neg hp])
            have hp' : P k = false := by simpa using hp
            rw [hp'] at hix
            clear hp hp'
            rcases ho with ⟨rfl, HN, HB⟩ | ⟨g, d, rfl, HN, HI⟩
            · rw [← HE.out] at HN
              clear hln
              go_wp2
              go_roundw
              case rel => exact ⟨k + 1, by omega, by go_num, .inl ⟨rfl, HN, HB⟩⟩
              case measure => simp [intOf]; omega
            · rw [← HE.out] at HN HI hln ⊢
              go_wp2
              go_roundw
              case rel => exact ⟨k + 1, by omega, by go_num, .inr ⟨g, d, rfl, HN, HI⟩⟩
              case measure => simp [intOf]; omega
        · obtain rfl : k = 12 := by omega
          rcases ho with ⟨rfl, HN, HB⟩ | ⟨g, d, rfl, HN, HI⟩
          · go_wp2
            go_ret
            exact ⟨by rw [← HP.out]; exact .inl ⟨HN.out, rfl⟩, HB.out⟩
          · have HR := hidden (show VarAns w (flt P 0 12) (.returned (.slice (some ⟨g, 0, none⟩) (flt P 0 12).length d)) w3 from .inr ⟨HN.out, g, d, rfl, HI.out.1⟩)
            generalize (flt P 0 12).length = q at HR ⊢
            go_wp2
            go_ret
            exact ⟨by rw [← HP.out]; exact HR.out, HI.out.2⟩

end Go.Proofs.Ytbgemmhkfbfooaa
