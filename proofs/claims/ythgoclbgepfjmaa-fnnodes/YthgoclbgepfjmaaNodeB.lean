/- Several texts as one: VarsI, Vars, Count, DepthS, Args, Depth, Ground, NodeMath. -/
import Derived.Test.YthgoclbgepfjmaaPut
import Derived.Test.YthgoclbgepfjmaaTermF
import Derived.Test.YthgoclbgepfjmaaSizeAt
import Derived.Sort.CutIn
/- Contracts: the variables of a term, as the program tells them: by marks. -/
namespace Go.Proofs.Ythgoclbgepfjmaa
open Go.RowKit

/-- The marks of the variables that the first k nodes are. -/
def MarksV (w : World) (b k : Nat) (T : Nat → Int) : Prop := ∀ j, j < 12 → w.cell? ⟨b, j, none⟩ = some (.bool (mkV T k j)) ∧ w.frozen? ⟨b, j, none⟩ = false

theorem MarksV.new (w : World) (T : Nat → Int) : MarksV (w.alloc (.cells #[.bool false, .bool false, .bool false, .bool false, .bool false, .bool false, .bool false, .bool false, .bool false, .bool false, .bool false, .bool false] 114)) w.heap.size 0 T := by
  intro j hj
  refine ⟨?_, ?_⟩
  · match j, hj with
    | 0, _ => simp [go_sem, mkV]
    | 1, _ => simp [go_sem, mkV]
    | 2, _ => simp [go_sem, mkV]
    | 3, _ => simp [go_sem, mkV]
    | 4, _ => simp [go_sem, mkV]
    | 5, _ => simp [go_sem, mkV]
    | 6, _ => simp [go_sem, mkV]
    | 7, _ => simp [go_sem, mkV]
    | 8, _ => simp [go_sem, mkV]
    | 9, _ => simp [go_sem, mkV]
    | 10, _ => simp [go_sem, mkV]
    | 11, _ => simp [go_sem, mkV]
    | j + 12, hj => omega
  · match j, hj with
    | 0, _ => simp [go_sem]
    | 1, _ => simp [go_sem]
    | 2, _ => simp [go_sem]
    | 3, _ => simp [go_sem]
    | 4, _ => simp [go_sem]
    | 5, _ => simp [go_sem]
    | 6, _ => simp [go_sem]
    | 7, _ => simp [go_sem]
    | 8, _ => simp [go_sem]
    | 9, _ => simp [go_sem]
    | 10, _ => simp [go_sem]
    | 11, _ => simp [go_sem]
    | j + 12, hj => omega

theorem MarksV.keep {w w' : World} {b k : Nat} {T : Nat → Int} (h : MarksV w b k T) (hb : Below w.heap.size w w') (hl : b < w.heap.size) : MarksV w' b k T := fun j hj => by
  rw [hb.cell (p := ⟨b, j, none⟩) hl, hb.frozen (p := ⟨b, j, none⟩) hl]; exact h j hj

theorem MarksV.step {w : World} {b k v : Nat} {T : Nat → Int} (h : MarksV w b k T) (hv : v < 12) (he : T k = -1 - (v : Int)) : MarksV (w.setCell ⟨b, v, none⟩ (.bool true)) b (k + 1) T := by
  intro j hj
  refine ⟨?_, by rw [World.frozen?_setCell]; exact (h j hj).2⟩
  by_cases e : j = v
  · subst e
    have : mkV T (k + 1) j = true := by simp [mkV, he]
    rw [this]
    exact World.cell?_setCell_same _ _ _ (h j hj).1
  · have : mkV T (k + 1) j = mkV T k j := by simp only [mkV, he]; have : decide ((-1 : Int) - v = -1 - j) = false := by simp; omega
                                             rw [this, Bool.or_false]
    rw [World.cell?_setCell_other _ _ _ _ (by simp), this]
    exact (h j hj).1

theorem MarksV.skip {w : World} {b k : Nat} {T : Nat → Int} (h : MarksV w b k T) (he : 0 ≤ T k) : MarksV w b (k + 1) T := by
  intro j hj
  have : mkV T (k + 1) j = mkV T k j := by
    simp only [mkV]
    have : decide (T k = -1 - (j : Int)) = false := by simp; omega
    rw [this, Bool.or_false]
  rw [this]; exact h j hj

set_option maxRecDepth 20000 in
set_option maxHeartbeats 400000 in
theorem variableOf_any (v : Nat) (w : World) (hv : v < 12) :
    Calls Try.prog 93 #[.int .i64 (-1 - (v : Int))] w fun e w' => e = .returned (.int .i64 (v : Int)) ∧ w' = w := by
  go_enter Try.func93, Try.ntmps93
  go_wp2
  go_ret
  have hw : (-1 : Int) - (-1 - (v : Int)) = v := by omega
  exact ⟨by show Ending.returned (Value.int .i64 (-1 - (-1 - (v : Int)))) = _; rw [hw], rfl⟩

theorem index_marks (P : Nat → Bool) (k : Nat) (hk : k < 12) (w : World) : (Instr.index 114 (.agg #[.bool (P 0), .bool (P 1), .bool (P 2), .bool (P 3), .bool (P 4), .bool (P 5), .bool (P 6), .bool (P 7), .bool (P 8), .bool (P 9), .bool (P 10), .bool (P 11)]) (.int .i64 (k : Int))).run Try.prog w = .ok (.bool (P k)) w := by
  match k, hk with
  | 0, _ => simp [Instr.index, run_underlying Try.underlying114, asIntOf, go_sem]
  | 1, _ => simp [Instr.index, run_underlying Try.underlying114, asIntOf, go_sem]
  | 2, _ => simp [Instr.index, run_underlying Try.underlying114, asIntOf, go_sem]
  | 3, _ => simp [Instr.index, run_underlying Try.underlying114, asIntOf, go_sem]
  | 4, _ => simp [Instr.index, run_underlying Try.underlying114, asIntOf, go_sem]
  | 5, _ => simp [Instr.index, run_underlying Try.underlying114, asIntOf, go_sem]
  | 6, _ => simp [Instr.index, run_underlying Try.underlying114, asIntOf, go_sem]
  | 7, _ => simp [Instr.index, run_underlying Try.underlying114, asIntOf, go_sem]
  | 8, _ => simp [Instr.index, run_underlying Try.underlying114, asIntOf, go_sem]
  | 9, _ => simp [Instr.index, run_underlying Try.underlying114, asIntOf, go_sem]
  | 10, _ => simp [Instr.index, run_underlying Try.underlying114, asIntOf, go_sem]
  | 11, _ => simp [Instr.index, run_underlying Try.underlying114, asIntOf, go_sem]
  | j + 12, hk => omega

/-- What variablesIn answers: no list, or one of its own. -/
def VarAns (w : World) (l : List Int) (e : Ending) (w' : World) : Prop :=
  (l = [] ∧ e = .returned (.slice none 0 0)) ∨ (l ≠ [] ∧ ∃ g d, e = .returned (.slice (some ⟨g, 0, none⟩) l.length d) ∧ OwnL w' w.heap.size g d l)

set_option maxRecDepth 20000 in
set_option maxHeartbeats 3200000 in
theorem variablesIn_any (b off n m c : Nat) (A T : Nat → Int) (w : World) (h : Ints w b off m T) (hg : Nods n A m T) :
    Calls Try.prog 79 #[.slice (some ⟨b, off, none⟩) m c] w fun e w' => VarAns w (flt (mkV T m) 0 12) e w' ∧ Below w.heap.size w w' := by
  have M0 := hidden (MarksV.new w T)
  have B0 := hidden (alloc_below w (.cells #[.bool false, .bool false, .bool false, .bool false, .bool false, .bool false, .bool false, .bool false, .bool false, .bool false, .bool false, .bool false] 114))
  have H := hidden h
  have HG := hidden hg
  have hm := hg.most
  clear h hg
  go_enter Try.func79, Try.ntmps79
  go_wp2
  go_loopw [11] (fun i wr => ∃ k : Nat, k ≤ m ∧ i = .int .i64 k ∧ Hid (MarksV wr w.heap.size k T) ∧ Hid (Below w.heap.size w wr) ∧ Hid (w.heap.size < wr.heap.size)) (fun i _ => m - (intOf i).toNat)
  case atStart => exact ⟨0, Nat.zero_le _, rfl, M0, B0, hidden (by simp)⟩
  case round =>
    clear M0 B0
    obtain ⟨k, hk, rfl, M, HB, HL⟩ := hrel
    by_cases hlt : k < m
    · have c1 := (H.out.keep HB.out).cell k hlt
      rcases nodeB_cases (HG.out.node k hlt) with ⟨j, e, hj⟩ | hv
      · have M2 := hidden (M.out.skip (show 0 ≤ T k by omega))
        rw [e] at c1
        clear e
        go_wp2_with fail
        with_reducible refine (isVariable_any _ _).mono ?_
        rintro e w1 ⟨rfl, hb⟩
        have hz : varB (j : Int) = false := by simp [varB]; omega
        rw [hz]
        have M3 := hidden (M2.out.keep hb HL.out)
        have B3 := hidden (keepB HB.out hb)
        have L3 := hidden (Nat.lt_of_lt_of_le HL.out hb.size)
        clear hb c1 M M2 HB HL hz
        go_wp2
        go_roundw
        case rel => exact ⟨k + 1, by omega, by go_num, M3, B3, L3⟩
        case measure => simp [intOf]; omega
      · obtain ⟨v, hv2⟩ : ∃ v : Nat, T k = -1 - (v : Int) := ⟨(-1 - T k).toNat, by omega⟩
        have hv12 : v < 12 := by omega
        have HE := hidden hv2
        rw [hv2] at c1
        clear hv hv2
        go_wp2_with fail
        with_reducible refine (isVariable_any _ _).mono ?_
        rintro e w1 ⟨rfl, hb⟩
        have hz : varB (-1 - (v : Int)) = true := by simp [varB]; omega
        rw [hz]
        have M3 := hidden (M.out.keep hb HL.out)
        have B3 := hidden (keepB HB.out hb)
        have L3 := hidden (Nat.lt_of_lt_of_le HL.out hb.size)
        clear hb c1 M HB HL hz
        go_wp2_with fail
        with_reducible refine (variableOf_any _ _ hv12).mono ?_
        rintro e w2 ⟨rfl, rfl⟩
        obtain ⟨c2, f2⟩ := M3.out v hv12
        have M4 := hidden (M3.out.step hv12 HE.out)
        have B4 := hidden (B3.out.setCell (p := ⟨w.heap.size, v, none⟩) (Nat.le_refl _) (.bool true))
        have L4 := hidden (show w.heap.size < (w2.setCell ⟨w.heap.size, v, none⟩ (.bool true)).heap.size by simp; exact L3.out)
        clear M3 B3 L3 HE
        generalize mkV T k v = mv at c2
        go_wp2
        go_roundw
        case rel => exact ⟨k + 1, by omega, by go_num, M4, B4, L4⟩
        case measure => simp [intOf]; omega
    · obtain rfl : k = m := by omega
      obtain ⟨P, hP⟩ : ∃ P, P = mkV T k := ⟨_, rfl⟩
      have HP := hidden hP
      have M5 : ∀ j, j < 12 → wr.cell? ⟨w.heap.size, j, none⟩ = some (.bool (P j)) := fun j hj => by rw [hP]; exact (M.out j hj).1
      have k0 := M5 0 (by omega)
      have k1 := M5 1 (by omega)
      have k2 := M5 2 (by omega)
      have k3 := M5 3 (by omega)
      have k4 := M5 4 (by omega)
      have k5 := M5 5 (by omega)
      have k6 := M5 6 (by omega)
      have k7 := M5 7 (by omega)
      have k8 := M5 8 (by omega)
      have k9 := M5 9 (by omega)
      have k10 := M5 10 (by omega)
      have k11 := M5 11 (by omega)
      clear hP hlt hk M5
      go_wp2
      clear k0 k1 k2 k3 k4 k5 k6 k7 k8 k9 k10 k11
      go_loopw [6, 22] (fun o i w3 => ∃ k : Nat, k ≤ 12 ∧ i = .int .i64 k ∧ ((o = .slice none 0 0 ∧ Hid (flt P 0 k = []) ∧ Hid (Below w.heap.size w w3)) ∨ ∃ g d, o = .slice (some ⟨g, 0, none⟩) (flt P 0 k).length d ∧ Hid (flt P 0 k ≠ []) ∧ Hid (OwnL w3 w.heap.size g d (flt P 0 k) ∧ Below w.heap.size w w3))) (fun _ i _ => 12 - (intOf i).toNat)
      case atStart => exact ⟨0, by omega, rfl, .inl ⟨rfl, hidden rfl, HB⟩⟩
      case round =>
        rename World => w3
        clear M HB HL
        obtain ⟨k, hk, rfl, ho⟩ := hrel
        by_cases hlt : k < 12
        · have hix := index_marks P k hlt
          have hln := flt_length P 0 k
          by_cases hp : P k = true
          · have HE := hidden (show flt P 0 (k + 1) = flt P 0 k ++ [(k : Int)] by rw [flt_snoc, if_pos hp])
            rw [hp] at hix
            clear hp
            rcases ho with ⟨rfl, HN, HB⟩ | ⟨g, d, rfl, HN, HI⟩
            · have O1 := hidden (World.ownsRow_nil w3 w.heap.size 2 1)
              have B1 := HB
              have W1 := hidden HB.out.size
              rw [HN.out] at HE
              clear HB HN hln
              go_wp2_with (first | (at_builtin; refine wpList_append_own _ rfl _ _ 44 rfl w.heap.size 2 _ (.int .i64 0) 1 8 Try.underlying44 rfl rfl rfl rfl rfl (by decide) _ _ _ rfl (O1.out.alloc _) ⟨w3.heap.size, 0, none⟩ 1 1 [.int .i64 (k : Int)] rfl rfl (one_srcI _ _ _) (oneValI _) (by unfold maxLen; omega) (by omega) (by have := W1.out; simp; omega) ?_) | go_in)
              intro v' w4 hown hgrow hnil
              obtain ⟨g2, d2, rfl, O2, B2⟩ := ownL_open (l := [] ++ [(k : Int)]) hown (by simp) (by simp) (by simpa using hnil) ((B1.out.alloc W1.out _).grown hgrow (by have := W1.out; simp; omega) (by intro q hq; simp [Value.ownBlock] at hq))
              have H2 := hidden (And.intro O2 B2)
              clear hown hgrow hnil O1 B1 W1 O2 B2 hix
              rw [← HE.out] at H2 ⊢
              have HNE := hidden (show flt P 0 (k + 1) ≠ [] by rw [HE.out]; simp)
              go_wp2
              go_roundw
              case rel => exact ⟨k + 1, by omega, by go_num, .inr ⟨g2, d2, rfl, HNE, H2⟩⟩
              case measure => simp [intOf]; omega
            · have O1 := hidden HI.out.1.own
              have G1 := HI.out.1.base
              have B1 := hidden HI.out.2
              have W1 := hidden HI.out.2.size
              clear HI HN
              generalize flt P 0 k = l at *
              go_wp2_with (first | (at_builtin; refine wpList_append_own _ rfl _ _ 44 rfl w.heap.size 2 _ (.int .i64 0) 1 8 Try.underlying44 rfl rfl rfl rfl rfl (by decide) _ _ _ rfl (O1.out.alloc _) ⟨w3.heap.size, 0, none⟩ 1 1 [.int .i64 (k : Int)] rfl rfl (one_srcI _ _ _) (oneValI _) (by unfold maxLen; omega) (by omega) (by have := W1.out; simp; omega) ?_) | go_in)
              intro v' w4 hown hgrow hnil
              obtain ⟨g2, d2, rfl, O2, B2⟩ := ownL_open (l := l ++ [(k : Int)]) hown (by simp) (by simp) (by simpa using hnil) ((B1.out.alloc W1.out _).grown hgrow (by have := W1.out; simp; omega) (by intro q hq; simp [Value.ownBlock] at hq; omega))
              have H2 := hidden (And.intro O2 B2)
              clear hown hgrow hnil O1 B1 W1 O2 B2 hix
              rw [← HE.out] at H2 ⊢
              have HNE := hidden (show flt P 0 (k + 1) ≠ [] by rw [HE.out]; simp)
              go_wp2
              go_roundw
              case rel => exact ⟨k + 1, by omega, by go_num, .inr ⟨g2, d2, rfl, HNE, H2⟩⟩
              case measure => simp [intOf]; omega
          · have HE := hidden (show flt P 0 (k + 1) = flt P 0 k by rw [flt_snoc, if_neg hp])
            have hp' : P k = false := by simpa using hp
            rw [hp'] at hix
            clear hp hp'
            rcases ho with ⟨rfl, HN, HB⟩ | ⟨g, d, rfl, HN, HI⟩
            · rw [← HE.out] at HN
              clear hln
              go_wp2
              go_roundw
              case rel => exact ⟨k + 1, by omega, by go_num, .inl ⟨rfl, HN, HB⟩⟩
              case measure => simp [intOf]; omega
            · rw [← HE.out] at HN HI hln ⊢
              go_wp2
              go_roundw
              case rel => exact ⟨k + 1, by omega, by go_num, .inr ⟨g, d, rfl, HN, HI⟩⟩
              case measure => simp [intOf]; omega
        · obtain rfl : k = 12 := by omega
          rcases ho with ⟨rfl, HN, HB⟩ | ⟨g, d, rfl, HN, HI⟩
          · go_wp2
            go_ret
            exact ⟨by rw [← HP.out]; exact .inl ⟨HN.out, rfl⟩, HB.out⟩
          · have HR := hidden (show VarAns w (flt P 0 12) (.returned (.slice (some ⟨g, 0, none⟩) (flt P 0 12).length d)) w3 from .inr ⟨HN.out, g, d, rfl, HI.out.1⟩)
            generalize (flt P 0 12).length = q at HR ⊢
            go_wp2
            go_ret
            exact ⟨by rw [← HP.out]; exact HR.out, HI.out.2⟩

end Go.Proofs.Ythgoclbgepfjmaa

/- Contracts: the variables of a term: VarsOf, as the model and as the program tells them. -/
namespace Go.Proofs.Ythgoclbgepfjmaa
open Go.RowKit

theorem Nods.var {n m : Nat} {A T : Nat → Int} (h : Nods n A m T) : ∀ i, i < m → T i < 0 → -12 ≤ T i := fun i hi hx => by
  rcases nodeB_cases (h.node i hi) with ⟨j, e, _⟩ | hv <;> omega

theorem OwnL.res {w : World} {B B' g d : Nat} {l : List Int} (h : OwnL w B g d l) (hB : B' ≤ g) (a a' : Addr) (u u' : Value) (h1 : g ≠ a.block) (h2 : g ≠ a'.block) : OwnI ((w.setCell a u).setCell a' u') B' g l.length d (fun i => l.getD i 0) l.length :=
  ((h.ownI.other a u h1).other a' u' h2).base hB

set_option maxRecDepth 20000 in
set_option maxHeartbeats 1600000 in
theorem specVars_any (b off n c b' off' m c' : Nat) (N : Nat → ByteArray) (A T : Nat → Int) (w : World) (h : Syms w b off n N A) (h' : Ints w b' off' m T) (hk : Kept n N A) (hm : m ≤ 1048576) :
    Calls Try.prog 39 #[.agg #[.slice (some ⟨b, off, none⟩) n c], .slice (some ⟨b', off', none⟩) m c'] w fun e w' => ListAns w (termF n N A m T) (vl T m).length (fun i => (vl T m).getD i 0) e w' ∧ Below w.heap.size w w' := by
  have D := hidden ((One.new w (.slice (some ⟨b, off, none⟩) n c) 26).keep (alloc_below _ (.cells #[.int .i64 0, .slice none 0 0] 48)))
  have R := hidden (Res.new (w.alloc (.cells #[.slice (some ⟨b, off, none⟩) n c] 26)) (.int .i64 0) (.slice none 0 0) 48)
  have B := hidden (keepB (alloc_below w (.cells #[.slice (some ⟨b, off, none⟩) n c] 26)) (alloc_below _ (.cells #[.int .i64 0, .slice none 0 0] 48)))
  have Q := hidden (h.keep B.out)
  have I := hidden (h'.keep B.out)
  have HK := hidden hk
  rw [World.size_alloc] at R
  clear h h' hk
  go_enter Try.func39, Try.ntmps39
  go_wp2_with fail
  with_reducible refine (specTerm_any _ _ _ _ _ _ _ _ N A T _ Q.out I.out HK.out hm).mono ?_
  rintro e w1 ⟨rfl, hb⟩
  replace R := hidden (R.out.keep hb)
  replace B := hidden (keepB B.out hb)
  replace I := hidden (I.out.keep hb)
  clear hb Q D
  by_cases hf : termF n N A m T = 0
  · have HF := hidden hf
    rw [hf]
    clear hf
    go_wp2_with fail
    with_reducible refine (l3Vars_any _ _ _ _ T _ I.out (term_right HF.out).nods.most (term_right HF.out).nods.var).mono ?_
    rintro e w2 ⟨g, d, rfl, ho, hb⟩
    have O := hidden ho
    have hgb := ho.base
    have hR := R.out.blk
    have hBs := B.out.size
    replace R := hidden (R.out.keep hb)
    replace B := hidden (keepB B.out hb)
    clear hb I ho
    obtain ⟨_, q0, q1, f0, f1⟩ := id R.out
    have HA := hidden (show ∀ (w' : World), OwnI w' w.heap.size g (vl T m).length d (fun i => (vl T m).getD i 0) (vl T m).length → ListAns w (termF n N A m T) (vl T m).length (fun i => (vl T m).getD i 0) (.returned (.agg #[.int .i64 0, .slice (some ⟨g, 0, none⟩) (vl T m).length d])) w' from fun w' h => Or.inr ⟨HF.out, g, d, rfl, by omega, h⟩)
    have OR := hidden (fun a a' u u' => O.out.res (B' := w.heap.size) (by omega) a a' u u')
    clear O
    generalize hkk : (vl T m).length = k at *
    have HKE := hidden hkk
    clear hkk
    go_wp2
    exact bodyPost_ret (v := .agg #[.int .i64 0, .slice (some ⟨g, 0, none⟩) k d]) (by simp [results, Try.results39, go_sem, q0, q1]) rfl ⟨by rw [HKE.out]; exact HA.out _ (OR.out _ _ _ _ (by simp; omega) (by simp; omega)), (B.out.setCell (by simp) _).setCell (by simp) _⟩
  · have HN := hidden hf
    have hf' : (termF n N A m T != 0) = true := by simpa using hf
    generalize hz : termF n N A m T = z at *
    have HZ := hidden hz
    clear hf hz
    obtain ⟨_, q0, q1, f0, f1⟩ := id R.out
    go_wp2
    exact bodyPost_ret (v := .agg #[.int .i64 z, .slice none 0 0]) (by simp [results, Try.results39, go_sem, q0, q1]) rfl ⟨Or.inl ⟨by rw [HZ.out]; exact HN.out, by rw [HZ.out]⟩, (B.out.setCell (by simp) _).setCell (by simp) _⟩

/-- What VarsOf answers: as ListAns, but no list where there is no variable. -/
def VarsAns (w : World) (C : Int) (l : List Int) (e : Ending) (w' : World) : Prop :=
  (C ≠ 0 ∧ e = .returned (.agg #[.int .i64 C, .slice none 0 0])) ∨ (C = 0 ∧ l = [] ∧ e = .returned (.agg #[.int .i64 0, .slice none 0 0])) ∨
  (C = 0 ∧ l ≠ [] ∧ ∃ g d, e = .returned (.agg #[.int .i64 0, .slice (some ⟨g, 0, none⟩) l.length d]) ∧ w.heap.size ≤ g ∧ OwnI w' w.heap.size g l.length d (fun i => l.getD i 0) l.length)

set_option maxRecDepth 20000 in
set_option maxHeartbeats 1600000 in
theorem implVars_any (b off n c b' off' m c' : Nat) (N : Nat → ByteArray) (A T : Nat → Int) (w : World) (h : Syms w b off n N A) (h' : Ints w b' off' m T) (hk : Kept n N A) (hm : m ≤ 1048576) :
    Calls Try.prog 36 #[.agg #[.slice (some ⟨b, off, none⟩) n c], .slice (some ⟨b', off', none⟩) m c'] w fun e w' => VarsAns w (termF n N A m T) (vl T m) e w' ∧ Below w.heap.size w w' := by
  have D := hidden ((One.new w (.slice (some ⟨b, off, none⟩) n c) 26).keep (alloc_below _ (.cells #[.int .i64 0, .slice none 0 0] 48)))
  have R := hidden (Res.new (w.alloc (.cells #[.slice (some ⟨b, off, none⟩) n c] 26)) (.int .i64 0) (.slice none 0 0) 48)
  have B := hidden (keepB (alloc_below w (.cells #[.slice (some ⟨b, off, none⟩) n c] 26)) (alloc_below _ (.cells #[.int .i64 0, .slice none 0 0] 48)))
  have Q := hidden (h.keep B.out)
  have I := hidden (h'.keep B.out)
  have HK := hidden hk
  rw [World.size_alloc] at R
  clear h h' hk
  go_enter Try.func36, Try.ntmps36
  go_wp2_with fail
  with_reducible refine (implTerm_any _ _ _ _ _ _ _ _ N A T _ Q.out I.out HK.out hm).mono ?_
  rintro e w1 ⟨rfl, hb⟩
  replace R := hidden (R.out.keep hb)
  replace B := hidden (keepB B.out hb)
  replace I := hidden (I.out.keep hb)
  clear hb Q D
  by_cases hf : termF n N A m T = 0
  · have HF := hidden hf
    have HV := hidden (vl_flt m (term_right hf).nods.var)
    rw [hf]
    clear hf
    go_wp2_with fail
    with_reducible refine (variablesIn_any _ _ n _ _ A T _ I.out (term_right HF.out).nods).mono ?_
    rw [← HV.out]
    rintro e w2 ⟨ha, hb⟩
    have hR := R.out.blk
    have hBs := B.out.size
    replace R := hidden (R.out.keep hb)
    replace B := hidden (keepB B.out hb)
    clear hb I
    obtain ⟨_, q0, q1, f0, f1⟩ := id R.out
    rcases ha with ⟨hl, rfl⟩ | ⟨hl, g, d, rfl, ho⟩
    · have HL := hidden hl
      clear hl
      go_wp2
      exact bodyPost_ret (v := .agg #[.int .i64 0, .slice none 0 0]) (by simp [results, Try.results36, go_sem, q0, q1]) rfl ⟨Or.inr (Or.inl ⟨HF.out, HL.out, rfl⟩), (B.out.setCell (by simp) _).setCell (by simp) _⟩
    · have O := hidden ho
      have hgb := ho.base
      have HL := hidden hl
      have HA := hidden (show ∀ (w' : World), OwnI w' w.heap.size g (vl T m).length d (fun i => (vl T m).getD i 0) (vl T m).length → VarsAns w (termF n N A m T) (vl T m) (.returned (.agg #[.int .i64 0, .slice (some ⟨g, 0, none⟩) (vl T m).length d])) w' from fun w' h => Or.inr (Or.inr ⟨HF.out, HL.out, g, d, rfl, by omega, h⟩))
      have OR := hidden (fun a a' u u' => O.out.res (B' := w.heap.size) (by omega) a a' u u')
      clear O ho hl HV
      generalize (vl T m).length = k at *
      go_wp2
      exact bodyPost_ret (v := .agg #[.int .i64 0, .slice (some ⟨g, 0, none⟩) k d]) (by simp [results, Try.results36, go_sem, q0, q1]) rfl ⟨HA.out _ (OR.out _ _ _ _ (by simp; omega) (by simp; omega)), (B.out.setCell (by simp) _).setCell (by simp) _⟩
  · have HN := hidden hf
    have hf' : (termF n N A m T != 0) = true := by simpa using hf
    generalize hz : termF n N A m T = z at *
    have HZ := hidden hz
    clear hf hz
    obtain ⟨_, q0, q1, f0, f1⟩ := id R.out
    go_wp2
    exact bodyPost_ret (v := .agg #[.int .i64 z, .slice none 0 0]) (by simp [results, Try.results36, go_sem, q0, q1]) rfl ⟨Or.inl ⟨by rw [HZ.out]; exact HN.out, by rw [HZ.out]⟩, (B.out.setCell (by simp) _).setCell (by simp) _⟩

end Go.Proofs.Ythgoclbgepfjmaa

/- Contracts: how many nodes are a given one: CountOf, as the model and as the program tells it. -/
namespace Go.Proofs.Ythgoclbgepfjmaa
open Go.RowKit

/-- How many of the first k nodes are x. -/
def cntN (T : Nat → Int) (x : Int) : Nat → Nat
  | 0 => 0
  | k + 1 => cntN T x k + (if T k = x then 1 else 0)

theorem cnt_le (T : Nat → Int) (x : Int) : ∀ k, cntN T x k ≤ k
  | 0 => Nat.le_refl _
  | k + 1 => by have := cnt_le T x k; simp only [cntN]; split <;> omega

noncomputable def ctC (n : Nat) (N : Nat → ByteArray) (A : Nat → Int) (m : Nat) (T : Nat → Int) (x : Int) : Int := if termF n N A m T = 0 then (if nodeB x n = true then 0 else 3) else termF n N A m T
noncomputable def ctV (n : Nat) (N : Nat → ByteArray) (A : Nat → Int) (m : Nat) (T : Nat → Int) (x : Int) : Int := if termF n N A m T = 0 ∧ nodeB x n = true then (cntN T x m : Int) else 0

section
variable {n : Nat} {N : Nat → ByteArray} {A : Nat → Int} {m : Nat} {T : Nat → Int} {x : Int}
theorem ct_fault (h : termF n N A m T ≠ 0) : ctC n N A m T x = termF n N A m T ∧ ctV n N A m T x = 0 := by simp [ctC, ctV, h]
theorem ct_range (h : termF n N A m T = 0) (hx : nodeB x n = false) : ctC n N A m T x = 3 ∧ ctV n N A m T x = 0 := by simp [ctC, ctV, h, hx]
theorem ct_ok (h : termF n N A m T = 0) (hx : nodeB x n = true) : ctC n N A m T x = 0 ∧ ctV n N A m T x = (cntN T x m : Int) := by simp [ctC, ctV, h, hx]
end

set_option maxRecDepth 20000 in
set_option maxHeartbeats 1600000 in
theorem implCount_any (b off n c b' off' m c' : Nat) (N : Nat → ByteArray) (A T : Nat → Int) (x : Int) (w : World) (h : Syms w b off n N A) (h' : Ints w b' off' m T) (hk : Kept n N A) (hm : m ≤ 1048576) :
    Calls Try.prog 40 #[.agg #[.slice (some ⟨b, off, none⟩) n c], .slice (some ⟨b', off', none⟩) m c', .int .i64 x] w fun e w' => e = .returned (.agg #[.int .i64 (ctC n N A m T x), .int .i64 (ctV n N A m T x)]) ∧ Below w.heap.size w w' := by
  have D := hidden ((One.new w (.slice (some ⟨b, off, none⟩) n c) 26).keep (alloc_below _ (.cells #[.int .i64 0, .int .i64 0] 38)))
  have R := hidden (Res.new (w.alloc (.cells #[.slice (some ⟨b, off, none⟩) n c] 26)) (.int .i64 0) (.int .i64 0) 38)
  have B := hidden (keepB (alloc_below w (.cells #[.slice (some ⟨b, off, none⟩) n c] 26)) (alloc_below _ (.cells #[.int .i64 0, .int .i64 0] 38)))
  have Q := hidden (h.keep B.out)
  have I := hidden (h'.keep B.out)
  have HK := hidden hk
  rw [World.size_alloc] at R
  clear h h' hk
  go_enter Try.func40, Try.ntmps40
  go_wp2_with fail
  with_reducible refine (implTerm_any _ _ _ _ _ _ _ _ N A T _ Q.out I.out HK.out hm).mono ?_
  rintro e w1 ⟨rfl, hb⟩
  replace D := hidden (D.out.keep hb)
  replace R := hidden (R.out.keep hb)
  replace B := hidden (keepB B.out hb)
  replace I := hidden (I.out.keep hb)
  clear hb Q
  by_cases hf : termF n N A m T = 0
  · have HF := hidden hf
    rw [hf]
    clear hf
    have d0 := D.out.c0
    go_wp2_with fail
    with_reducible refine (isNode_any _ _ _ _ _).mono ?_
    rintro e w2 ⟨rfl, hb⟩
    clear d0
    replace R := hidden (R.out.keep hb)
    replace B := hidden (keepB B.out hb)
    replace I := hidden (I.out.keep hb)
    clear hb D
    generalize hx : nodeB x n = ib
    cases ib
    · have HA := hidden (ct_range HF.out hx)
      clear hx
      obtain ⟨_, q0, q1, f0, f1⟩ := id R.out
      go_wp2
      exact bodyPost_ret (v := .agg #[.int .i64 3, .int .i64 0]) (by simp [results, Try.results40, go_sem, q0, q1]) rfl ⟨by rw [HA.out.1, HA.out.2], (B.out.setCell (by simp) _).setCell (by simp) _⟩
    · have HA := hidden (ct_ok HF.out hx)
      clear hx
      have hm24 := (term_right HF.out).nods.most
      go_wp2
      go_loopw [8, 25] (fun z i wr => ∃ k r : Nat, k ≤ m ∧ i = .int .i64 k ∧ z = .int .i64 r ∧ r ≤ k ∧ Hid (r = cntN T x k) ∧ ∃ q, wr = w2.drewN q) (fun _ i _ => m - (intOf i).toNat)
      case atStart => exact ⟨0, 0, Nat.zero_le _, rfl, rfl, Nat.zero_le _, hidden rfl, 0, rfl⟩
      case round =>
        obtain ⟨k, r, hk, rfl, rfl, hr, HE, q, rfl⟩ := hrel
        by_cases hlt : k < m
        · have c1 := I.out.cell k hlt
          by_cases he : T k = x
          · have HR := hidden (show r + 1 = cntN T x (k + 1) by simp only [cntN, if_pos he]; rw [HE.out])
            rw [he] at c1
            clear he HE
            go_wp2
            go_roundw
            case rel => exact ⟨k + 1, r + 1, by omega, by go_num, by go_num, by omega, HR, _, rfl⟩
            case measure => simp [intOf]; omega
          · have he' : (T k == x) = false := by simpa using he
            have HR := hidden (show r = cntN T x (k + 1) by simp only [cntN, if_neg he]; rw [HE.out]; rfl)
            clear he HE
            go_wp2
            go_roundw
            case rel => exact ⟨k + 1, r, by omega, by go_num, rfl, by omega, HR, _, rfl⟩
            case measure => simp [intOf]; omega
        · obtain rfl : m = k := by omega
          replace R := hidden (R.out.keep (below_drewN (Below.refl _ _) q))
          replace B := hidden (below_drewN B.out q)
          rw [← HE.out] at HA
          obtain ⟨_, q0, q1, f0, f1⟩ := id R.out
          go_wp2
          exact bodyPost_ret (v := .agg #[.int .i64 0, .int .i64 (r : Int)]) (by simp [results, Try.results40, go_sem, q0, q1]) rfl ⟨by rw [HA.out.1, HA.out.2], (B.out.setCell (by simp) _).setCell (by simp) _⟩
  · have HA := hidden (ct_fault (x := x) hf)
    have hf' : (termF n N A m T != 0) = true := by simpa using hf
    generalize termF n N A m T = z at *
    clear hf
    obtain ⟨_, q0, q1, f0, f1⟩ := id R.out
    go_wp2
    exact bodyPost_ret (v := .agg #[.int .i64 z, .int .i64 0]) (by simp [results, Try.results40, go_sem, q0, q1]) rfl ⟨by rw [HA.out.1, HA.out.2], (B.out.setCell (by simp) _).setCell (by simp) _⟩

end Go.Proofs.Ythgoclbgepfjmaa

/- Contract: how deep the term at a place is, as the model tells it. -/
namespace Go.Proofs.Ythgoclbgepfjmaa
open Go.RowKit

/-- The depth of the term at a place. -/
def dpt (a : Nat → Nat) (m p : Nat) : Nat := depN a m (p + 1) (a p) + 1

theorem dpt_le (a : Nat → Nat) {m p : Nat} (h : p < m) : dpt a m p ≤ m := by
  have := depN_le a m _ (p + 1) (a p) (Nat.le_refl _)
  unfold dpt; omega

theorem dep_next {a : Nat → Nat} {m r r2 k : Nat} (h : skip a m r 1 = some r2) : depN a m r (k + 1) = max (dpt a m r) (depN a m r2 k) := by
  rw [depN_succ k h, dpt, Nat.add_comm]

end Go.Proofs.Ythgoclbgepfjmaa

/- Contracts: the places of a term's arguments, as the program goes through them. -/
namespace Go.Proofs.Ythgoclbgepfjmaa
open Go.RowKit Go.Shelf

attribute [local go_sem] Oper.semAt_some

/-- A place behind p. -/
abbrev Arg (p m : Nat) := { x : Nat // p < x ∧ x < m }

/-- Where the i-th argument of the term at p begins. -/
def argP (a : Nat → Nat) (m p i : Nat) : Nat := (skip a m (p + 1) i).getD 0

theorem argP_some {a : Nat → Nat} {m p i r : Nat} (h : skip a m (p + 1) i = some r) : argP a m p i = r := by simp [argP, h]

set_option maxRecDepth 20000 in
set_option maxHeartbeats 400000 in
theorem argumentsThere_any (p p' : Option Addr) (n c m c' : Nat) (x : Int) (w : World) :
    Calls Try.prog 96 #[.agg #[.slice p n c], .slice p' m c', .int .i64 x] w fun e w' => e = .returned (.func (.func 100) #[] #[.pointer (some ⟨w.heap.size + 1 + 1, 0, none⟩), .pointer (some ⟨w.heap.size, 0, none⟩), .pointer (some ⟨w.heap.size + 1, 0, none⟩)]) ∧ w' = ((w.alloc (.cells #[.slice p n c] 26)).alloc (.cells #[.slice p' m c'] 44)).alloc (.cells #[.int .i64 x] 2) := by
  have hmf : ∀ (fn : Fn) (first cap : Array Value) (w : World), (Instr.makeFunc fn first cap).run Try.prog w = .ok (.func fn first cap) w := fun _ _ _ _ => rfl
  go_enter Try.func96, Try.ntmps96
  go_wp2
  go_ret
  exact ⟨rfl, rfl⟩

set_option maxRecDepth 100000 in
set_option maxHeartbeats 8000000 in
theorem args1_in (k0 : Nat) (hn : 1 ≤ k0) (l Ba Bs Bt X B b off n c b' off' m c' p ar : Nat) (N : Nat → ByteArray) (A T : Nat → Int) (hg : Trm n A m T) (hp : p < m) (har : ar = aOf A T p) (hc' : m ≤ c')
    (hb : b < B ∧ b ≠ X) (hb' : b' < B ∧ b' ≠ X) (hBs : Bs < B ∧ Bs ≠ X) (hBt : Bt < B ∧ Bt ≠ X) (J Jx : List (Arg p m) → World → Prop)
    (hJ : ∀ s w w', J s w → Below w.heap.size w w' → J s w')
    (hY : ∀ pre (x : Arg p m) W, J pre W → pre.length < ar → YieldAt Fence.wide (k0 - 1) Try.prog l #[.int .i64 (x.1 : Int)] W fun e W' =>
      (e = .returned (.bool true) ∧ J (pre ++ [x]) W' ∧ But X B W W') ∨ (e = .returned (.bool false) ∧ Jx (pre ++ [x]) W'))
    (W : World) (hBW : B ≤ W.heap.size) (hca : W.cell? ⟨Ba, 0, none⟩ = some (.int .i64 p)) (hcs : W.cell? ⟨Bs, 0, none⟩ = some (.slice (some ⟨b, off, none⟩) n c)) (hct : W.cell? ⟨Bt, 0, none⟩ = some (.slice (some ⟨b', off', none⟩) m c')) (hs : Syms W b off n N A) (ht : Ints W b' off' m T) (h0 : J [] W) :
    CallsIn Fence.wide k0 Try.prog 100 #[.func (.yield l) #[] #[], .pointer (some ⟨Ba, 0, none⟩), .pointer (some ⟨Bs, 0, none⟩), .pointer (some ⟨Bt, 0, none⟩)] W fun e W' => (∃ v, e = .returned v) ∧
      ((∃ xs, xs.map (·.1) = upto (argP (aOf A T) m p) ar ∧ J xs W') ∨ (∃ pre, True ∧ Jx pre W')) := by
  refine callsIn_of_wp Try.func100 rfl trivial ?_ rfl
  simp only [Try.ntmps100, List.size_toArray, List.length_cons, List.length_nil, Nat.reduceAdd, Nat.reduceSub, Array.replicate_succ, Array.replicate_zero, List.push_toArray, List.append_toArray, List.nil_append, List.cons_append]
  have hm24 := hg.nods.most
  have hmx : Try.prog.follows .mixedOrders = true := by kernel_rfl
  have har2 : ar ≤ 2 := by rw [har]; exact hg.nods.aOf_le hp
  obtain ⟨en, hen, _, _⟩ := skip_inner hg.whole hp
  have HE := hidden (show skip (aOf A T) m (p + 1) ar = some en by rw [har, ← skip_one _ hp]; exact hen)
  have HG := hidden hg
  have HS := hidden hs
  have HT := hidden ht
  have HY := hidden hY
  have HJ := hidden hJ
  have H0 := hidden h0
  have HCS := hidden hcs
  have HCT := hidden hct
  have HBW := hidden hBW
  have c1 := ht.cell p hp
  have AC := hidden (argumentCount_any b off n c m N A T p W.drew (hs.keep (Below.refl _ _).drew) hg.nods hp)
  rw [← har] at AC
  clear hg hs ht hY hJ h0 har hen hBW
  generalize T p = x at c1 AC
  gi_wp2
  gi_cut [13, 14] from 27 (fun t z wc => t = .int .i64 ar ∧ z = .int .i64 0 ∧ Hid (Below W.heap.size W wc))
  case first =>
    first | gi_region_with_o (refine ⟨trivial, ?_⟩; gi_at_call 99; refine (callsIn_wide.2 AC.out).mono ?_; rintro e w1 ⟨rfl, hb1⟩) | fail
    all_goals gi_wp2
    all_goals gi_meet
    all_goals exact ⟨rfl, rfl, hidden ((Below.refl _ _).drew.trans hb1)⟩
  case rest =>
    rename World => w1
    obtain ⟨rfl, rfl, HB1⟩ := hcut
    clear AC c1
    have J1 := hidden (HJ.out _ _ _ H0.out HB1.out)
    clear H0
    gi_wp2
    gi_loopw [5, 14] (fun q i wr => ∃ (k r : Nat) (pre : List (Arg p m)), k ≤ ar ∧ r ≤ m ∧ p < r ∧ q = .int .i64 r ∧ i = .int .i64 k ∧ pre.length = k ∧ Hid (skip (aOf A T) m (p + 1) k = some r) ∧ Hid (pre.map (·.1) = upto (argP (aOf A T) m p) k) ∧ Hid (J pre wr) ∧ Hid (But X B W wr))
      (fun _ i _ => ar - (intOf i).toNat)
    case atStart => exact ⟨0, p + 1, [], Nat.zero_le _, by omega, by omega, by go_num, rfl, rfl, hidden (skip_zero _ _ _), hidden rfl, J1, hidden (But.of HB1.out HBW.out)⟩
    case round =>
      obtain ⟨k, r, pre, hk, hr, hpr, rfl, rfl, hpl, HK, HM, HI, HB⟩ := hrel
      by_cases hlt : k < ar
      · obtain ⟨r', r2, e1, e2, e3⟩ := skip_arg HE.out hlt
        obtain rfl : r = r' := by rw [HK.out] at e1; exact Option.some.inj e1
        have hr2 := (skip_le e2).2 (by omega)
        have hrm : r < m := by omega
        have HMN := hidden (manyN_some e2)
        have HK2 := hidden e3
        have HP := hidden (argP_some HK.out)
        obtain ⟨fn, tmps, assign, body, hy, hR⟩ := HY.out pre ⟨r, hpr, hrm⟩ wr HI.out (by omega)
        dsimp only at hy
        clear e1 e2 e3 HK HI
        gi_wp2
        refine hR.mono ?_
        rintro e W3 (⟨rfl, hJ3, hk3⟩ | ⟨rfl, hJx3⟩)
        · have HJ3 := hidden hJ3
          have HB3 := hidden (HB.out.trans hk3)
          have c2 : W3.cell? ⟨Bs, 0, none⟩ = some (.slice (some ⟨b, off, none⟩) n c) := (HB3.out.cell hBs.1 hBs.2).trans HCS.out
          have c3 : W3.cell? ⟨Bt, 0, none⟩ = some (.slice (some ⟨b', off', none⟩) m c') := (HB3.out.cell hBt.1 hBt.2).trans HCT.out
          have SC := hidden (sizeThere_any b off n c b' off' m c' r N A T W3 (HS.out.but HB3.out hb.1 hb.2) (HT.out.but HB3.out hb'.1 hb'.2) HG.out.nods HG.out.sig.least hrm hc')
          rw [HMN.out] at SC
          clear hJ3 hk3 hR hy HB
          gi_wp2_with (refine ⟨trivial, ?_⟩; gi_at_call 70; refine (callsIn_wide.2 SC.out).mono ?_; rintro e w4 ⟨rfl, hb4⟩; clear SC; have HJ4 := hidden (HJ.out _ _ _ HJ3.out hb4); have HB4 := hidden (HB3.out.trans (But.of hb4 (by have := HB3.out.size; have := HBW.out; omega))); clear hb4 c2 c3 HJ3 HB3)
          go_roundw
          case rel => exact ⟨k + 1, r2, pre ++ [⟨r, hpr, hrm⟩], by omega, by omega, by omega, by congr 1; omega, by go_num, by simp [hpl], HK2, hidden (by rw [List.map_append, HM.out, upto_succ, HP.out]; rfl), HJ4, HB4⟩
          case measure => simp [intOf]; omega
        · have HJ3 := hidden hJx3
          clear hJx3 hR hy
          gi_wp2
          refine bodyPost_ret (results_none rfl _ _ _) rfl ?_
          exact ⟨⟨_, rfl⟩, .inr ⟨_, trivial, HJ3.out⟩⟩
      · obtain rfl : k = ar := by omega
        gi_wp2
        go_end0
        exact ⟨⟨_, rfl⟩, .inl ⟨_, HM.out, HI.out⟩⟩

/-- The contract of argumentsThere's answer. -/
theorem args_stops (k0 : Nat) (hn : 1 ≤ k0) (Ba Bs Bt X B b off n c b' off' m c' p ar : Nat) (N : Nat → ByteArray) (A T : Nat → Int) (hg : Trm n A m T) (hp : p < m) (har : ar = aOf A T p) (hc' : m ≤ c')
    (hb : b < B ∧ b ≠ X) (hb' : b' < B ∧ b' ≠ X) (hBs : Bs < B ∧ Bs ≠ X) (hBt : Bt < B ∧ Bt ≠ X) (w : World) (hBa : Ba < w.heap.size) (hBW : B ≤ w.heap.size) (hca : w.cell? ⟨Ba, 0, none⟩ = some (.int .i64 p)) (hcs : w.cell? ⟨Bs, 0, none⟩ = some (.slice (some ⟨b, off, none⟩) n c)) (hct : w.cell? ⟨Bt, 0, none⟩ = some (.slice (some ⟨b', off', none⟩) m c')) (hs : Syms w b off n N A) (ht : Ints w b' off' m T) :
    SeqStopsK Fence.wide k0 Try.prog 100 #[.pointer (some ⟨Ba, 0, none⟩), .pointer (some ⟨Bs, 0, none⟩), .pointer (some ⟨Bt, 0, none⟩)] (fun x : Arg p m => #[Value.int .i64 (x.1 : Int)]) (But X B)
      (fun xs => xs.map (·.1) = upto (argP (aOf A T) m p) ar) (fun _ => True) ar w := fun l J Jx W hW hJ _ hY h0 =>
  args1_in k0 hn l Ba Bs Bt X B b off n c b' off' m c' p ar N A T hg hp har hc' hb hb' hBs hBt J Jx (fun s w w' h hb => AbidesFrom.below hJ h hb) hY W (Nat.le_trans hBW hW.size)
    ((hW.cell (p := ⟨Ba, 0, none⟩) hBa).trans hca) ((hW.cell (p := ⟨Bs, 0, none⟩) (by show Bs < w.heap.size; omega)).trans hcs) ((hW.cell (p := ⟨Bt, 0, none⟩) (by show Bt < w.heap.size; omega)).trans hct) (hs.keep hW) (ht.keep hW) h0

end Go.Proofs.Ythgoclbgepfjmaa

/- Contracts: how deep a term is: DepthOf, as the model and as the program tells it. -/
namespace Go.Proofs.Ythgoclbgepfjmaa
open Go.RowKit Go.Shelf

attribute [local go_sem] Oper.semAt_some

/-- The greatest depth of the terms at some places. -/
def mxD (a : Nat → Nat) (m : Nat) {p : Nat} (l : List (Arg p m)) : Nat := l.foldl (fun z x => max z (dpt a m x.1)) 0

theorem mxD_snoc (a : Nat → Nat) (m : Nat) {p : Nat} (l : List (Arg p m)) (x : Arg p m) : mxD a m (l ++ [x]) = max (mxD a m l) (dpt a m x.1) := by simp [mxD]

theorem mxD_le (a : Nat → Nat) (m : Nat) {p : Nat} (l : List (Arg p m)) : mxD a m l ≤ m := by
  have : ∀ (l : List (Arg p m)) (z : Nat), z ≤ m → l.foldl (fun z x => max z (dpt a m x.1)) z ≤ m := by
    intro l
    induction l with
    | nil => intro z hz; exact hz
    | cons x l ih => intro z hz; exact ih _ (by have := dpt_le a x.2.2; show max z (dpt a m x.1) ≤ m; omega)
  exact this l 0 (Nat.zero_le _)

theorem mxD_map (a : Nat → Nat) (m : Nat) {p : Nat} (l : List (Arg p m)) : mxD a m l = (l.map (·.1)).foldl (fun z x => max z (dpt a m x)) 0 := by
  rw [mxD, List.foldl_map]

/-- The arguments' greatest depth is the one that a walk over their places finds. -/
theorem mx_args {a : Nat → Nat} {m p e ar : Nat} (h : skip a m (p + 1) ar = some e) : ∀ k r, k ≤ ar → skip a m (p + 1) k = some r → max ((upto (argP a m p) k).foldl (fun z x => max z (dpt a m x)) 0) (depN a m r (ar - k)) = depN a m (p + 1) ar := by
  intro k
  induction k with
  | zero => intro r _ hr; rw [skip_zero] at hr; cases hr; simp [upto]
  | succ k ih =>
    intro r hk hr
    obtain ⟨q, r', e1, e2, e3⟩ := skip_arg h (i := k) (by omega)
    rw [hr] at e3
    obtain rfl : r = r' := Option.some.inj e3
    have h1 := ih q (by omega) e1
    rw [show ar - k = (ar - (k + 1)) + 1 by omega, dep_next e2] at h1
    rw [upto_succ, List.foldl_append, argP_some e1, ← h1]
    simp only [List.foldl_cons, List.foldl_nil]
    omega

theorem mxD_args {a : Nat → Nat} {m p e : Nat} (hp : p < m) (h : skip a m p 1 = some e) {xs : List (Arg p m)} (hx : xs.map (·.1) = upto (argP a m p) (a p)) : mxD a m xs + 1 = dpt a m p := by
  rw [skip_one a hp] at h
  have h1 := mx_args h (a p) e (Nat.le_refl _) h
  rw [Nat.sub_self, depN_zero, ← hx, ← mxD_map] at h1
  rw [dpt, ← h1]; omega

set_option maxRecDepth 100000 in
set_option maxHeartbeats 8000000 in
theorem depthThere_any (b off n c b' off' m c' : Nat) (N : Nat → ByteArray) (A T : Nat → Int) (hg : Trm n A m T) (hc' : m ≤ c') : ∀ (d p : Nat), m - p ≤ d → p < m → ∀ w : World, Syms w b off n N A → Ints w b' off' m T →
    Calls Try.prog 83 #[.agg #[.slice (some ⟨b, off, none⟩) n c], .slice (some ⟨b', off', none⟩) m c', .int .i64 p] w fun e w' => e = .returned (.int .i64 (dpt (aOf A T) m p)) ∧ Below w.heap.size w w' := by
  intro d
  induction d with
  | zero => intro p hd hp; omega
  | succ d ih =>
  intro p hd hp w h h'
  refine (callsIn_wide (n := 3)).1 ?_
  refine callsIn_of_wp_marks Try.func83 rfl trivial ?_ rfl
  simp only [Try.ntmps83, List.size_toArray, List.length_cons, List.length_nil, Nat.reduceAdd, Nat.reduceSub, Array.replicate_succ, Array.replicate_zero, List.push_toArray, List.append_toArray, List.nil_append, List.cons_append]
  have hb := h.blk hg.sig.least
  have hb' := h'.blk hg.pos
  have hm24 := hg.nods.most
  have hmx : Try.prog.follows .mixedOrders = true := by kernel_rfl
  obtain ⟨en, hen, _, _⟩ := skip_inner hg.whole hp
  have HEN := hidden hen
  have HS := hidden h
  have HT := hidden h'
  have HG := hidden hg
  have IH := hidden ih
  clear h h' hg ih hen
  gi_wp2_with (refine ⟨trivial, ?_⟩; gi_at_call 96; refine (callsIn_wide.2 (argumentsThere_any _ _ _ _ _ _ _ _)).mono ?_; rintro e w' ⟨rfl, rfl⟩)
  have b0 := Boxed.new w 26 (.slice (some ⟨b, off, none⟩) n c)
  have b1 := Boxed.new (w.alloc (.cells #[.slice (some ⟨b, off, none⟩) n c] 26)) 44 (.slice (some ⟨b', off', none⟩) m c')
  have b2 := Boxed.new ((w.alloc (.cells #[.slice (some ⟨b, off, none⟩) n c] 26)).alloc (.cells #[.slice (some ⟨b', off', none⟩) m c'] 44)) 2 (.int .i64 0)
  have b3 := Boxed.new (((w.alloc (.cells #[.slice (some ⟨b, off, none⟩) n c] 26)).alloc (.cells #[.slice (some ⟨b', off', none⟩) m c'] 44)).alloc (.cells #[.int .i64 0] 2)) 26 (.slice (some ⟨b, off, none⟩) n c)
  have b4 := Boxed.new ((((w.alloc (.cells #[.slice (some ⟨b, off, none⟩) n c] 26)).alloc (.cells #[.slice (some ⟨b', off', none⟩) m c'] 44)).alloc (.cells #[.int .i64 0] 2)).alloc (.cells #[.slice (some ⟨b, off, none⟩) n c] 26)) 44 (.slice (some ⟨b', off', none⟩) m c')
  have b5 := Boxed.new (((((w.alloc (.cells #[.slice (some ⟨b, off, none⟩) n c] 26)).alloc (.cells #[.slice (some ⟨b', off', none⟩) m c'] 44)).alloc (.cells #[.int .i64 0] 2)).alloc (.cells #[.slice (some ⟨b, off, none⟩) n c] 26)).alloc (.cells #[.slice (some ⟨b', off', none⟩) m c'] 44)) 2 (.int .i64 p)
  simp only [World.size_alloc] at b1 b2 b3 b4 b5
  have hB0 : Below w.heap.size w ((((((w.alloc (.cells #[.slice (some ⟨b, off, none⟩) n c] 26)).alloc (.cells #[.slice (some ⟨b', off', none⟩) m c'] 44)).alloc (.cells #[.int .i64 0] 2)).alloc (.cells #[.slice (some ⟨b, off, none⟩) n c] 26)).alloc (.cells #[.slice (some ⟨b', off', none⟩) m c'] 44)).alloc (.cells #[.int .i64 p] 2)) :=
    ((((((Below.refl _ w).alloc (Nat.le_refl _) _).alloc (by simp) _).alloc (by simp; omega) _).alloc (by simp; omega) _).alloc (by simp; omega) _).alloc (by simp; omega) _
  refine wpIn_rangeFunc_ownG rfl (by omega) (gf := 100) (lb := #[.pointer (some ⟨w.heap.size + 1 + 1 + 1 + 1 + 1, 0, none⟩), .pointer (some ⟨w.heap.size + 1 + 1 + 1, 0, none⟩), .pointer (some ⟨w.heap.size + 1 + 1 + 1 + 1, 0, none⟩)]) rfl trivial (enters_of Try.func100 (by kernel_rfl) rfl)
    (args_stops _ (by omega) (w.heap.size + 1 + 1 + 1 + 1 + 1) (w.heap.size + 1 + 1 + 1) (w.heap.size + 1 + 1 + 1 + 1) (w.heap.size + 1 + 1) (w.heap.size + 1 + 1 + 1 + 1 + 1) b off n c b' off' m c' p (aOf A T p) N A T HG.out hp rfl hc' ⟨by omega, by omega⟩ ⟨by omega, by omega⟩ ⟨by omega, by omega⟩ ⟨by omega, by omega⟩ _ (by simp) (by simp) b5.cell ((b3.alloc _).alloc _).cell (b4.alloc _).cell (HS.out.keep hB0) (HT.out.keep hB0))
    butK_t (butK_b (by simp)) (Below.refl _ _) (fun _ => rfl)
    (fun pre W => (W.cell? ⟨w.heap.size + 1 + 1, 0, none⟩ = some (.int .i64 (mxD (aOf A T) m pre : Nat)) ∧ W.frozen? ⟨w.heap.size + 1 + 1, 0, none⟩ = false ∧ W.cell? ⟨w.heap.size, 0, none⟩ = some (.slice (some ⟨b, off, none⟩) n c) ∧ W.cell? ⟨w.heap.size + 1, 0, none⟩ = some (.slice (some ⟨b', off', none⟩) m c') ∧ w.heap.size + 1 + 1 + 1 + 1 + 1 < W.heap.size) ∧ Below w.heap.size w W)
    (fun _ _ _ => False)
    (OwnFrom.and (Own.from (fun s A B row hs hg hr => ⟨cell_kept hs.1 hg hr, (frozen_kept hs.1 hg hr).trans hs.2.1, cell_kept hs.2.2.1 hg hr, cell_kept hs.2.2.2.1 hg hr, Nat.lt_of_lt_of_le hs.2.2.2.2 hg.size⟩) _) (ownFrom_below (Nat.le_refl _) (by simp; omega)))
    (fun _ _ _ _ _ hs _ _ => hs)
    ⟨⟨(((b2.alloc _).alloc _).alloc _).cell, (((b2.alloc _).alloc _).alloc _).frozen, (((((b0.alloc _).alloc _).alloc _).alloc _).alloc _).cell, ((((b1.alloc _).alloc _).alloc _).alloc _).cell, by simp⟩, hB0⟩
    (fun x => { tmps := #[.agg #[.slice (some ⟨b, off, none⟩) n c], .slice (some ⟨b', off', none⟩) m c', .int .i64 p, .pointer (some ⟨w.heap.size, 0, none⟩), .pointer (some ⟨w.heap.size + 1, 0, none⟩), undef, .int .i64 0, .pointer (some ⟨w.heap.size + 1 + 1, 0, none⟩), .int .i64 (x.1 : Int), .agg #[.slice (some ⟨b, off, none⟩) n c], .slice (some ⟨b', off', none⟩) m c', .int .i64 p, .func (.func 100) #[] #[.pointer (some ⟨w.heap.size + 1 + 1 + 1 + 1 + 1, 0, none⟩), .pointer (some ⟨w.heap.size + 1 + 1 + 1, 0, none⟩), .pointer (some ⟨w.heap.size + 1 + 1 + 1 + 1, 0, none⟩)], .int .i64 (x.1 : Int), undef, undef, undef, undef, undef, undef, undef, undef], defers := [] }) ?assign ?body ?done ?stop
  case assign =>
    intro l x W K hK
    gi_wp2
    exact hK
  case body =>
    rintro l pre x W ⟨⟨hcx, hfx, hcs, hct, hsW⟩, hB⟩ hl
    have hle := mxD_le (aOf A T) m pre
    have hdl := dpt_le (aOf A T) x.2.2
    have HM := hidden (mxD_snoc (aOf A T) m pre x)
    have HB := hidden hB
    have IC := hidden (IH.out x.1 (by have := x.2.1; omega) x.2.2 W.drew (HS.out.keep hB.drew) (HT.out.keep hB.drew))
    have hX : w.heap.size + 1 + 1 < W.heap.size := World.block_lt_of_cell? W _ hcx
    clear hB
    generalize mxD (aOf A T) m pre = z at *
    generalize dpt (aOf A T) m x.1 = u at *
    gi_wp2
    gi_region_with_o (refine ⟨trivial, ?_⟩; gi_at_call 83; refine (CallsIn.inRound l (callsIn_wide.2 IC.out)).mono ?_; rintro e w' ⟨rfl, hb1⟩; clear IC; have cX : w'.cell? ⟨w.heap.size + 1 + 1, 0, none⟩ = some (.int .i64 (z : Int)) := (hb1.cell (p := ⟨w.heap.size + 1 + 1, 0, none⟩) hX).trans hcx; have fX : w'.frozen? ⟨w.heap.size + 1 + 1, 0, none⟩ = false := (hb1.frozen (p := ⟨w.heap.size + 1 + 1, 0, none⟩) hX).trans hfx)
    all_goals gi_wp2
    all_goals (try go_bits)
    all_goals (
      have hbW : Below W.heap.size W w' := (Below.refl _ W).drew.trans hb1
      have hsz := HB.out.size
      refine ⟨(keepsFrom_below hbW).trans ((KeepsOthers.setCell _ _ _).from _), (But.of hbW (by omega)).trans (But.set _ _ _ _), ⟨?_, by rw [World.frozen?_setCell]; exact fX, ?_, ?_, ?_⟩, (HB.out.trans (hbW.mono hsz)).setCell (p := ⟨w.heap.size + 1 + 1, 0, none⟩) (by simp; omega) _⟩
      · rw [HM.out]
        first
          | (rw [show max z u = u by omega]; exact World.cell?_setCell_same' _ _ _ (by rw [cX]; rfl))
          | (rw [show max z u = z by omega]; exact World.cell?_setCell_same' _ _ _ (by rw [cX]; rfl))
      · rw [World.cell?_setCell_other _ _ _ _ (by simp)]; exact (hbW.cell (p := ⟨w.heap.size, 0, none⟩) (by show w.heap.size < W.heap.size; omega)).trans hcs
      · rw [World.cell?_setCell_other _ _ _ _ (by simp)]; exact (hbW.cell (p := ⟨w.heap.size + 1, 0, none⟩) (by show w.heap.size + 1 < W.heap.size; omega)).trans hct
      · have := hbW.size; simp; omega)
  case done =>
    rintro D ys W hD hys ⟨⟨hcx, _, _, _, _⟩, hB⟩ hK
    have HR := hidden (mxD_args hp HEN.out hys)
    have hle := mxD_le (aOf A T) m ys
    clear hys
    generalize mxD (aOf A T) m ys = z at *
    gi_wp2
    refine ⟨by simp, .inl ⟨_, _, rfl, run_takeDeferred hK, ?_⟩⟩
    exact ⟨_, results_tmp rfl _ _ _, by rw [← HR.out]; go_num, hB.trans (belowK_b (w := w) (Nat.le_refl _) W D _ _ (by simp at hD; omega) hK rfl rfl)⟩
  case stop =>
    rintro D c pre W _ _ h _
    exact h.elim

/-- What DepthOf answers beside the fault. -/
noncomputable def dpV (n : Nat) (N : Nat → ByteArray) (A : Nat → Int) (m : Nat) (T : Nat → Int) : Int := if termF n N A m T = 0 then (dpt (aOf A T) m 0 : Int) else 0

section
variable {n : Nat} {N : Nat → ByteArray} {A : Nat → Int} {m : Nat} {T : Nat → Int}
theorem dp_fault (h : termF n N A m T ≠ 0) : dpV n N A m T = 0 := by simp [dpV, h]
theorem dp_ok (h : termF n N A m T = 0) : dpV n N A m T = (dpt (aOf A T) m 0 : Int) := by simp [dpV, h]
end

set_option maxRecDepth 20000 in
set_option maxHeartbeats 1600000 in
theorem implDepth_any (b off n c b' off' m c' : Nat) (N : Nat → ByteArray) (A T : Nat → Int) (w : World) (h : Syms w b off n N A) (h' : Ints w b' off' m T) (hk : Kept n N A) (hm : m ≤ 1048576) (hc : m ≤ c') :
    Calls Try.prog 41 #[.agg #[.slice (some ⟨b, off, none⟩) n c], .slice (some ⟨b', off', none⟩) m c'] w fun e w' => e = .returned (.agg #[.int .i64 (termF n N A m T), .int .i64 (dpV n N A m T)]) ∧ Below w.heap.size w w' := by
  have D := hidden ((One.new w (.slice (some ⟨b, off, none⟩) n c) 26).keep (alloc_below _ (.cells #[.int .i64 0, .int .i64 0] 38)))
  have R := hidden (Res.new (w.alloc (.cells #[.slice (some ⟨b, off, none⟩) n c] 26)) (.int .i64 0) (.int .i64 0) 38)
  have B := hidden (keepB (alloc_below w (.cells #[.slice (some ⟨b, off, none⟩) n c] 26)) (alloc_below _ (.cells #[.int .i64 0, .int .i64 0] 38)))
  have Q := hidden (h.keep B.out)
  have I := hidden (h'.keep B.out)
  have HK := hidden hk
  rw [World.size_alloc] at R
  clear h h' hk
  go_enter Try.func41, Try.ntmps41
  go_wp2_with fail
  with_reducible refine (implTerm_any _ _ _ _ _ _ _ _ N A T _ Q.out I.out HK.out hm).mono ?_
  rintro e w1 ⟨rfl, hb⟩
  replace D := hidden (D.out.keep hb)
  replace R := hidden (R.out.keep hb)
  replace B := hidden (keepB B.out hb)
  replace I := hidden (I.out.keep hb)
  replace Q := hidden (Q.out.keep hb)
  clear hb
  by_cases hf : termF n N A m T = 0
  · have HF := hidden hf
    have HA := hidden (dp_ok hf)
    have DC := hidden (show Calls Try.prog 83 #[.agg #[.slice (some ⟨b, off, none⟩) n c], .slice (some ⟨b', off', none⟩) m c', .int .i64 0] w1 _ from depthThere_any b off n c b' off' m c' N A T (term_right hf) hc m 0 (by omega) (term_right hf).pos w1 Q.out I.out)
    have d0 := D.out.c0
    rw [hf]
    clear hf
    go_wp2_with fail
    with_reducible refine DC.out.mono ?_
    rintro e w2 ⟨rfl, hb⟩
    clear d0
    replace R := hidden (R.out.keep hb)
    replace B := hidden (keepB B.out hb)
    clear hb D I Q DC
    generalize dpt (aOf A T) m 0 = k at *
    obtain ⟨_, q0, q1, f0, f1⟩ := id R.out
    go_wp2
    exact bodyPost_ret (v := .agg #[.int .i64 0, .int .i64 (k : Int)]) (by simp [results, Try.results41, go_sem, q0, q1]) rfl ⟨by rw [HA.out, HF.out], (B.out.setCell (by simp) _).setCell (by simp) _⟩
  · have HA := hidden (dp_fault hf)
    have hf' : (termF n N A m T != 0) = true := by simpa using hf
    generalize hz : termF n N A m T = z at *
    have HZ := hidden hz
    clear hf hz
    obtain ⟨_, q0, q1, f0, f1⟩ := id R.out
    go_wp2
    exact bodyPost_ret (v := .agg #[.int .i64 z, .int .i64 0]) (by simp [results, Try.results41, go_sem, q0, q1]) rfl ⟨by rw [HA.out, HZ.out], (B.out.setCell (by simp) _).setCell (by simp) _⟩

end Go.Proofs.Ythgoclbgepfjmaa

/- Contracts: whether a term has no variable, as the model and as the program asks it. -/
namespace Go.Proofs.Ythgoclbgepfjmaa
open Go.RowKit

open Classical in
noncomputable def gndB (m : Nat) (T : Nat → Int) : Bool := decide (∀ i, i < m → 0 ≤ T i)
open Classical in
noncomputable def hasVar (m : Nat) (T : Nat → Int) : Bool := decide (∃ i, i < m ∧ varB (T i) = true)

open Classical in
/-- What IsGround answers. -/
noncomputable def grB (n : Nat) (N : Nat → ByteArray) (A : Nat → Int) (m : Nat) (T : Nat → Int) : Bool := decide (termF n N A m T = 0 ∧ ∀ i, i < m → 0 ≤ T i)

set_option maxRecDepth 20000 in
set_option maxHeartbeats 400000 in
theorem indexVar_any (b off m c : Nat) (T : Nat → Int) (w : World) (h : Ints w b off m T) (hm : m ≤ 1048576) :
    Calls Try.prog 94 #[.slice (some ⟨b, off, none⟩) m c, .func (Fn.func 81) #[] #[]] w fun e w' => (∃ r : Int, e = .returned (.int .i64 r) ∧ (decide (0 ≤ r) = hasVar m T)) ∧ Below w.heap.size w w' := by
  go_enter Try.func94, Try.ntmps94
  go_wp2_with fail
  go_loopw [8] (fun i wr => ∃ k : Nat, k ≤ m ∧ i = .int .i64 k ∧ Hid (∀ i, i < k → varB (T i) = false) ∧ Hid (Below w.heap.size w wr)) (fun i _ => m - (intOf i).toNat)
  case atStart => exact ⟨0, Nat.zero_le _, rfl, hidden (fun i hi => by omega), hidden (Below.refl _ _)⟩
  case round =>
    obtain ⟨k, hk, rfl, HE, HB⟩ := hrel
    by_cases hlt : k < m
    · have c1 := (h.keep HB.out).cell k hlt
      go_wp2_with fail
      with_reducible refine (isVariable_any _ _).mono ?_
      rintro e w1 ⟨rfl, hb⟩
      have B1 := hidden (keepB HB.out hb)
      clear hb c1 HB
      generalize hz : varB (T k) = ib
      cases ib
      · have HR := hidden hz
        clear hz
        go_wp2
        go_roundw
        case rel => exact ⟨k + 1, by omega, by go_num, hidden (fun j hj => by
          by_cases e : j = k
          · rw [e]; exact HR.out
          · exact HE.out j (by omega)), B1⟩
        case measure => simp [intOf]; omega
      · have HR := hidden (show hasVar m T = true by simp only [hasVar, decide_eq_true_eq]; exact ⟨k, hlt, hz⟩)
        clear hz
        go_wp2
        go_ret
        exact ⟨⟨_, rfl, by rw [HR.out]; simp⟩, B1.out⟩
    · have HR := hidden (show hasVar m T = false by
        simp only [hasVar, decide_eq_false_iff_not]
        rintro ⟨i, hi, e⟩
        rw [HE.out i (by omega)] at e; cases e)
      go_wp2
      go_ret
      exact ⟨⟨_, rfl, by rw [HR.out]; rfl⟩, HB.out⟩

set_option maxRecDepth 20000 in
set_option maxHeartbeats 400000 in
theorem containsVar_any (b off m c : Nat) (T : Nat → Int) (w : World) (h : Ints w b off m T) (hm : m ≤ 1048576) :
    Calls Try.prog 80 #[.slice (some ⟨b, off, none⟩) m c, .func (Fn.func 81) #[] #[]] w fun e w' => e = .returned (.bool (hasVar m T)) ∧ Below w.heap.size w w' := by
  go_enter Try.func80, Try.ntmps80
  go_wp2_with fail
  refine (indexVar_any b off m c T w h hm).mono ?_
  rintro e w1 ⟨⟨r, rfl, hr⟩, hb⟩
  have HR := hidden hr
  clear hr
  go_wp2
  go_ret
  exact ⟨by rw [← HR.out]; rfl, hb⟩

theorem gr_fault {n : Nat} {N : Nat → ByteArray} {A : Nat → Int} {m : Nat} {T : Nat → Int} (h : termF n N A m T ≠ 0) : grB n N A m T = false := by simp [grB, h]
theorem gr_gnd {n : Nat} {N : Nat → ByteArray} {A : Nat → Int} {m : Nat} {T : Nat → Int} (h : termF n N A m T = 0) : grB n N A m T = gndB m T := by simp [grB, gndB, h]
theorem gr_var {n : Nat} {N : Nat → ByteArray} {A : Nat → Int} {m : Nat} {T : Nat → Int} (h : termF n N A m T = 0) : grB n N A m T = !hasVar m T := by
  have hN := (term_right h).nods
  rw [gr_gnd h]
  cases e : hasVar m T with
  | true =>
    simp only [hasVar, decide_eq_true_eq] at e
    obtain ⟨i, hi, hv⟩ := e
    simp only [varB, decide_eq_true_eq] at hv
    simp only [gndB, Bool.not_true, decide_eq_false_iff_not]
    intro h; have := h i hi; omega
  | false =>
    simp only [hasVar, decide_eq_false_iff_not] at e
    simp only [gndB, Bool.not_false, decide_eq_true_eq]
    intro i hi
    rcases nodeB_cases (hN.node i hi) with ⟨j, ej, _⟩ | hv
    · omega
    · exact absurd ⟨i, hi, by simp only [varB, decide_eq_true_eq]; exact hv⟩ e

set_option maxRecDepth 20000 in
set_option maxHeartbeats 800000 in
theorem implGround_any (b off n c b' off' m c' : Nat) (N : Nat → ByteArray) (A T : Nat → Int) (w : World) (h : Syms w b off n N A) (h' : Ints w b' off' m T) (hk : Kept n N A) (hm : m ≤ 1048576) :
    Calls Try.prog 38 #[.agg #[.slice (some ⟨b, off, none⟩) n c], .slice (some ⟨b', off', none⟩) m c'] w fun e w' => e = .returned (.bool (grB n N A m T)) ∧ Below w.heap.size w w' := by
  have B := hidden (alloc_below w (.cells #[.slice (some ⟨b, off, none⟩) n c] 26))
  have Q := hidden (h.keep B.out)
  have I := hidden (h'.keep B.out)
  have HK := hidden hk
  clear h h' hk
  go_enter Try.func38, Try.ntmps38
  go_wp2_with fail
  with_reducible refine (implTerm_any _ _ _ _ _ _ _ _ N A T _ Q.out I.out HK.out hm).mono ?_
  rintro e w1 ⟨rfl, hb⟩
  replace B := hidden (keepB B.out hb)
  replace I := hidden (I.out.keep hb)
  clear hb Q
  by_cases hf : termF n N A m T = 0
  · have HR := hidden (gr_var hf)
    rw [hf]
    clear hf
    go_wp2_with fail
    with_reducible refine (containsVar_any _ _ _ _ T _ I.out hm).mono ?_
    rintro e w2 ⟨rfl, hb⟩
    replace B := hidden (keepB B.out hb)
    clear hb
    generalize hasVar m T = hv at *
    cases hv
    · go_wp2
      go_ret
      exact ⟨by rw [HR.out]; rfl, B.out⟩
    · go_wp2
      go_ret
      exact ⟨by rw [HR.out]; rfl, B.out⟩
  · have HR := hidden (gr_fault hf)
    have hf' : (termF n N A m T == 0) = false := by simpa using hf
    generalize termF n N A m T = z at *
    clear hf
    go_wp2
    go_ret
    exact ⟨by rw [HR.out]; rfl, B.out⟩

end Go.Proofs.Ythgoclbgepfjmaa

/- Plain facts: the nodes of a term, counted; its variables in their order. -/
namespace Go.Proofs.Ythgoclbgepfjmaa
open Go.RowKit

/-- How many of the nodes -12, .., k - 13 a list has. -/
def sumC (T : Nat → Int) (m : Nat) : Nat → Nat
  | 0 => 0
  | k + 1 => sumC T m k + cntN T ((k : Int) - 12) m

theorem sumC_zero (T : Nat → Int) : ∀ k, sumC T 0 k = 0
  | 0 => rfl
  | k + 1 => by simp only [sumC, cntN]; rw [sumC_zero T k]

theorem sumC_succ (T : Nat → Int) (m : Nat) : ∀ k : Nat, sumC T (m + 1) k = sumC T m k + (if -12 ≤ T m ∧ T m < (k : Int) - 12 then 1 else 0)
  | 0 => by
    rw [if_neg (by omega)]
    rfl
  | k + 1 => by
    simp only [sumC, cntN]
    rw [sumC_succ T m k]
    split <;> split <;> split <;> omega

theorem sumC_le (T : Nat → Int) (k : Nat) : ∀ m, sumC T m k ≤ m
  | 0 => by rw [sumC_zero]; exact Nat.le_refl _
  | m + 1 => by
    have := sumC_le T k m
    rw [sumC_succ]
    split <;> omega

theorem sumC_all (T : Nat → Int) (k : Nat) : ∀ m, (∀ i, i < m → -12 ≤ T i ∧ T i < (k : Int) - 12) → sumC T m k = m
  | 0, _ => sumC_zero T k
  | m + 1, h => by rw [sumC_succ, sumC_all T k m (fun i hi => h i (by omega)), if_pos (h m (by omega))]

theorem cnt_pos (T : Nat → Int) (x : Int) : ∀ {m q : Nat}, q < m → T q = x → 1 ≤ cntN T x m
  | m + 1, q, hq, e => by
    simp only [cntN]
    by_cases h : q = m
    · subst h; rw [if_pos e]; omega
    · have := cnt_pos T x (m := m) (q := q) (by omega) e
      omega

theorem mkV_in {T : Nat → Int} {j : Nat} : ∀ {k : Nat}, mkV T k j = true ↔ ∃ q, q < k ∧ T q = -1 - (j : Int)
  | 0 => by simp [mkV]
  | k + 1 => by
    simp only [mkV, Bool.or_eq_true, decide_eq_true_eq, mkV_in (k := k)]
    constructor
    · rintro (⟨q, hq, e⟩ | e)
      · exact ⟨q, by omega, e⟩
      · exact ⟨k, by omega, e⟩
    · rintro ⟨q, hq, e⟩
      by_cases h : q = k
      · subst h; exact Or.inr e
      · exact Or.inl ⟨q, by omega, e⟩

theorem flt_mem {P : Nat → Bool} {s n : Nat} {x : Int} : x ∈ flt P s n ↔ ∃ j : Nat, s ≤ j ∧ j < s + n ∧ P j = true ∧ x = (j : Int) := by
  simp only [flt, List.mem_map, List.mem_filter, List.mem_range'_1]
  constructor
  · rintro ⟨j, ⟨⟨h1, h2⟩, h3⟩, rfl⟩; exact ⟨j, h1, h2, h3, rfl⟩
  · rintro ⟨j, h1, h2, h3, rfl⟩; exact ⟨j, ⟨⟨h1, h2⟩, h3⟩, rfl⟩

theorem flt_rise (P : Nat → Bool) : ∀ n s : Nat, (flt P s n).Pairwise (· < ·)
  | 0, s => by simp [flt]
  | n + 1, s => by
    rw [flt_succ]
    split
    · refine List.Pairwise.cons (fun x hx => ?_) (flt_rise P n (s + 1))
      obtain ⟨j, h1, _, _, rfl⟩ := flt_mem.1 hx
      omega
    · exact flt_rise P n (s + 1)

section
variable {n m : Nat} {A T : Nat → Int}

theorem vl_in (h : Nods n A m T) {i : Nat} (hi : i < (vl T m).length) : ∃ j : Nat, j < 12 ∧ (vl T m).getD i 0 = (j : Int) ∧ 1 ≤ cntN T (-1 - (j : Int)) m := by
  have e := vl_flt m h.var
  have hm : (vl T m).getD i 0 ∈ flt (mkV T m) 0 12 := by
    rw [← e, ← List.getElem_eq_getD (h := hi) 0]
    exact List.getElem_mem hi
  obtain ⟨j, _, h2, h3, h4⟩ := flt_mem.1 hm
  obtain ⟨q, hq, hT⟩ := mkV_in.1 h3
  exact ⟨j, by omega, h4, cnt_pos T _ hq hT⟩

theorem vl_rise (h : Nods n A m T) {i : Nat} (hi : i + 1 < (vl T m).length) : (vl T m).getD i 0 < (vl T m).getD (i + 1) 0 := by
  have e := vl_flt m h.var
  have hp := flt_rise (mkV T m) 12 0
  rw [← e] at hp
  rw [← List.getElem_eq_getD (h := hi) 0, ← List.getElem_eq_getD (h := Nat.lt_of_succ_lt hi) 0]
  exact List.pairwise_iff_getElem.1 hp i (i + 1) (by omega) hi (by omega)

theorem vl_none (h : Nods n A m T) : (vl T m).length = 0 ↔ ∀ i, i < m → 0 ≤ T i := by
  have e := vl_flt m h.var
  constructor
  · intro h0 i hi
    refine Classical.byContradiction fun hneg => ?_
    have hv := h.var i hi (by omega)
    have : (-1 - T i) ∈ flt (mkV T m) 0 12 := flt_mem.2 ⟨(-1 - T i).toNat, by omega, by omega, mkV_in.2 ⟨i, hi, by omega⟩, by omega⟩
    rw [← e, List.eq_nil_of_length_eq_zero h0] at this
    cases this
  · intro h0
    rw [e]
    cases hl : flt (mkV T m) 0 12 with
    | nil => rfl
    | cons x l =>
      have hx : x ∈ flt (mkV T m) 0 12 := by rw [hl]; exact List.mem_cons_self
      obtain ⟨j, _, _, h3, _⟩ := flt_mem.1 hx
      obtain ⟨q, hq, hT⟩ := mkV_in.1 h3
      have := h0 q hq
      omega

theorem node_sum (h : Nods n A m T) : sumC T m (n + 12) = m := sumC_all T (n + 12) m (fun i hi => by
  rcases nodeB_cases (h.node i hi) with ⟨j, e, _⟩ | hv <;> omega)
end

theorem term_trm {n : Nat} {N : Nat → ByteArray} {A : Nat → Int} {m : Nat} {T : Nat → Int} (h : termF n N A m T = 0) : Trm n A m T := by
  unfold termF at h
  split at h
  · rename_i hf; exact lF_right (fault_sound hf) h
  · exact absurd h (by assumption)

theorem gr_vl {n : Nat} {N : Nat → ByteArray} {A : Nat → Int} {m : Nat} {T : Nat → Int} (h : termF n N A m T = 0) : grB n N A m T = decide ((vl T m).length = 0) := by
  unfold grB
  have := vl_none (term_trm h).nods
  by_cases h0 : (vl T m).length = 0
  · simp [h, h0]
    exact this.1 h0
  · have h1 : ¬ ∀ i, i < m → 0 ≤ T i := fun hx => h0 (this.2 hx)
    simp [h, h0, h1]

end Go.Proofs.Ythgoclbgepfjmaa
