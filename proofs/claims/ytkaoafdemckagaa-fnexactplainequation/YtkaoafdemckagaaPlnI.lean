/- Contracts: the variables of nodes, and nodes numbered anew, as the program does it. -/
import Derived.Test.YtkaoafdemckagaaPlnM
import Derived.Test.YtkaoafdemckagaaPut
import Derived.Test.YtkaoafdemckagaaCat
namespace Go.Proofs.Ytkaoafdemckagaa
open Go.RowKit

/-- A list in memory of its own, or none. -/
def VarSl (w : World) (B : Nat) (v : Value) (V : List Int) : Prop := (v = .slice none 0 0 ∧ V = []) ∨ ∃ g d, v = .slice (some ⟨g, 0, none⟩) V.length d ∧ OwnL w B g d V

theorem OwnL.keep {w w' : World} {B g d : Nat} {l : List Int} (h : OwnL w B g d l) (hb : Below w.heap.size w w') : OwnL w' B g d l :=
  ⟨h.base, ownsRow_later h.own hb h.lt⟩

theorem VarSl.keep {w w' : World} {B : Nat} {v : Value} {V : List Int} (h : VarSl w B v V) (hb : Below w.heap.size w w') : VarSl w' B v V :=
  h.imp id fun ⟨g, d, e, ho⟩ => ⟨g, d, e, ho.keep hb⟩

set_option maxRecDepth 20000 in
set_option maxHeartbeats 400000 in
theorem index_none (c : Nat) (x : Int) (w : World) :
    Calls Try.prog 83 #[.slice none 0 c, .int .i64 x] w fun e w' => e = .returned (.int .i64 (-1)) ∧ Below w.heap.size w w' := by
  go_enter Try.func83, Try.ntmps83
  go_wp2
  refine wp_loop_rounds 1 ?_
  rw [rounds_succ]
  go_wp2
  go_ret
  exact ⟨rfl, Below.refl _ _⟩

/-- What slices.Index answers. -/
noncomputable def ixV (V : List Int) (x : Int) : Int := rkF V.length (fun i => V.getD i 0) x

theorem indexV_any (B : Nat) (v : Value) (V : List Int) (x : Int) (w : World) (h : VarSl w B v V) (hm : V.length ≤ 1048576) :
    Calls Try.prog 83 #[v, .int .i64 x] w fun e w' => e = .returned (.int .i64 (ixV V x)) ∧ Below w.heap.size w w' := by
  rcases h with ⟨rfl, rfl⟩ | ⟨g, d, rfl, ho⟩
  · refine (index_none 0 x w).mono ?_
    rintro e w' ⟨rfl, hb⟩
    refine ⟨?_, hb⟩
    rw [ixV, rkF_none (fun j hj => by simp at hj)]
  · exact index_any g 0 V.length d _ x w ho.ownI.ints hm

set_option maxRecDepth 20000 in
set_option maxHeartbeats 400000 in
theorem containsV_any (B : Nat) (v : Value) (V : List Int) (x : Int) (w : World) (h : VarSl w B v V) (hm : V.length ≤ 1048576) :
    Calls Try.prog 80 #[v, .int .i64 x] w fun e w' => e = .returned (.bool (decide (x ∈ V))) ∧ Below w.heap.size w w' := by
  have HV := hidden h
  clear h
  go_enter Try.func80, Try.ntmps80
  go_wp2_with fail
  with_reducible refine (indexV_any B v V x _ HV.out hm).mono ?_
  rintro e w1 ⟨rfl, hb⟩
  have B1 := hidden hb
  clear hb
  by_cases hx : x ∈ V
  · have e1 : ixV V x = (ixL V x : Int) := rk_list hx
    have HX := hidden hx
    rw [e1]
    clear e1 hx
    go_wp2
    go_ret
    exact ⟨by simp [HX.out], B1.out⟩
  · have e1 : ixV V x = -1 := rk_list_none hx
    have HX := hidden hx
    rw [e1]
    clear e1 hx
    go_wp2
    go_ret
    exact ⟨by simp [HX.out], B1.out⟩

set_option maxRecDepth 20000 in
set_option maxHeartbeats 3200000 in
theorem variableNodes_any (b off n m c : Nat) (L : Nat → Int) (w : World) (h : Ints w b off m L) (hm : m ≤ 48) (hg : ∀ i, i < m → nodeB (L i) n = true) :
    Calls Try.prog 52 #[.slice (some ⟨b, off, none⟩) m c] w fun e w' => (∃ v, e = .returned v ∧ VarSl w' w.heap.size v (pv L m)) ∧ Below w.heap.size w w' := by
  have H := hidden h
  have HG := hidden hg
  clear h hg
  go_enter Try.func52, Try.ntmps52
  go_wp2
  go_loopw [3, 8] (fun o i wr => ∃ k : Nat, k ≤ m ∧ i = .int .i64 k ∧ Hid (VarSl wr w.heap.size o (pv L k)) ∧ Hid (Below w.heap.size w wr)) (fun _ i _ => m - (intOf i).toNat)
  case atStart => exact ⟨0, Nat.zero_le _, rfl, hidden (.inl ⟨rfl, rfl⟩), hidden (Below.refl _ _)⟩
  case round =>
    obtain ⟨k, hk, rfl, HV, HB⟩ := hrel
    have hpl := pv_length L k
    by_cases hlt : k < m
    · have c1 := (H.out.keep HB.out).cell k hlt
      rcases nodeB_cases (HG.out k hlt) with ⟨j, e, hj⟩ | hv
      · have HE := hidden (pv_pos (L := L) (k := k) (by omega))
        have hz : varB (L k) = false := by simp [varB]; omega
        clear e
        generalize L k = x at *
        go_wp2_with fail
        with_reducible refine (isVariable_any _ _).mono ?_
        rintro e w1 ⟨rfl, hb⟩
        rw [hz]
        replace HV := hidden (HV.out.keep hb)
        replace HB := hidden (keepB HB.out hb)
        clear hb c1 hz
        go_wp2
        go_roundw
        case rel => exact ⟨k + 1, by omega, by go_num, hidden (by rw [HE.out]; exact HV.out), HB⟩
        case measure => simp [intOf]; omega
      · have HX := hidden hv
        have hz : varB (L k) = true := by simp [varB]; omega
        have HO := hidden (fun h : L k ∈ pv L k => pv_old h)
        have HN := hidden (fun h : L k ∉ pv L k => pv_new (L := L) (k := k) (by omega) h)
        clear hv
        go_wp2_with fail
        with_reducible refine (isVariable_any _ _).mono ?_
        rintro e w1 ⟨rfl, hb⟩
        rw [hz]
        replace HV := hidden (HV.out.keep hb)
        replace HB := hidden (keepB HB.out hb)
        clear hb c1 hz
        go_wp2_with fail
        with_reducible refine (containsV_any w.heap.size _ (pv L k) (L k) _ HV.out (by omega)).mono ?_
        rintro e w2 ⟨rfl, hb⟩
        replace HV := hidden (HV.out.keep hb)
        replace HB := hidden (keepB HB.out hb)
        clear hb
        by_cases hx : L k ∈ pv L k
        · have HE := hidden (HO.out hx)
          rw [decide_eq_true hx]
          clear hx HO HN
          go_wp2
          go_roundw
          case rel => exact ⟨k + 1, by omega, by go_num, hidden (by rw [HE.out]; exact HV.out), HB⟩
          case measure => simp [intOf]; omega
        · have HE := hidden (HN.out hx)
          rw [decide_eq_false hx]
          clear hx HO HN
          have W1 := hidden HB.out.size
          rcases HV.out with ⟨rfl, hn⟩ | ⟨g, d, rfl, ho⟩
          · have O1 := hidden (World.ownsRow_nil w2 w.heap.size 2 1)
            have HNIL := hidden hn
            clear HV hpl hn
            generalize L k = x at *
            go_wp2_with (first | (at_builtin; refine wpList_append_own _ rfl _ _ 25 rfl w.heap.size 2 _ (.int .i64 0) 1 8 Try.underlying25 rfl rfl rfl rfl rfl (by decide) _ _ _ rfl (O1.out.alloc _) ⟨w2.heap.size, 0, none⟩ 1 1 [.int .i64 x] rfl rfl (one_srcI _ _ _) (oneValI _) (by unfold maxLen; omega) (by omega) (by have := W1.out; simp; omega) ?_) | go_in)
            intro v' w4 hown hgrow hnil
            obtain ⟨g2, d2, rfl, O2, B2⟩ := ownL_open (l := [] ++ [x]) hown (by simp) (by simp) (by simpa using hnil) ((HB.out.alloc W1.out _).grown hgrow (by have := W1.out; simp; omega) (by intro q hq; simp [Value.ownBlock] at hq))
            have H2 := hidden (show VarSl w4 w.heap.size (.slice (some ⟨g2, 0, none⟩) ([] ++ [x] : List Int).length d2) (pv L (k + 1)) by rw [HE.out, HNIL.out]; exact .inr ⟨g2, d2, rfl, O2⟩)
            have BB := hidden B2
            clear hown hgrow hnil O1 O2 B2 HB W1
            go_wp2
            go_roundw
            case rel => exact ⟨k + 1, by omega, by go_num, H2, BB⟩
            case measure => simp [intOf]; omega
          · have O1 := hidden ho.own
            have G1 := ho.base
            clear HV ho
            generalize L k = x at *
            generalize pv L k = l at *
            go_wp2_with (first | (at_builtin; refine wpList_append_own _ rfl _ _ 25 rfl w.heap.size 2 _ (.int .i64 0) 1 8 Try.underlying25 rfl rfl rfl rfl rfl (by decide) _ _ _ rfl (O1.out.alloc _) ⟨w2.heap.size, 0, none⟩ 1 1 [.int .i64 x] rfl rfl (one_srcI _ _ _) (oneValI _) (by unfold maxLen; omega) (by omega) (by have := W1.out; simp; omega) ?_) | go_in)
            intro v' w4 hown hgrow hnil
            obtain ⟨g2, d2, rfl, O2, B2⟩ := ownL_open (l := l ++ [x]) hown (by simp) (by simp) (by simpa using hnil) ((HB.out.alloc W1.out _).grown hgrow (by have := W1.out; simp; omega) (by intro q hq; simp [Value.ownBlock] at hq; omega))
            have H2 := hidden (show VarSl w4 w.heap.size (.slice (some ⟨g2, 0, none⟩) (l ++ [x]).length d2) (pv L (k + 1)) by rw [HE.out]; exact .inr ⟨g2, d2, rfl, O2⟩)
            have BB := hidden B2
            clear hown hgrow hnil O1 O2 B2 HB W1
            go_wp2
            go_roundw
            case rel => exact ⟨k + 1, by omega, by go_num, H2, BB⟩
            case measure => simp [intOf]; omega
    · obtain rfl : k = m := by omega
      go_wp2
      go_ret
      exact ⟨⟨_, rfl, HV.out⟩, HB.out⟩

end Go.Proofs.Ytkaoafdemckagaa
