/- Contracts: a term with what its variables stand for, as the program makes it by a function that tells it. -/
import Derived.Test.YtbdgnpjbmlcchaaPut
import Derived.Test.YtbdgnpjbmlcchaaVarsI
import Derived.Test.YtbdgnpjbmlcchaaCat
import Derived.Test.YtbdgnpjbmlcchaaBndF
namespace Go.Proofs.Ytbdgnpjbmlcchaa
open Go.RowKit

/-- What comes for a node. -/
def nodL (M : Nat → List Int) (x : Int) : List Int := if x < 0 ∧ M (-1 - x).toNat ≠ [] then M (-1 - x).toNat else [x]

/-- What comes for the first k nodes. -/
def putL (M : Nat → List Int) (T : Nat → Int) : Nat → List Int
  | 0 => []
  | k + 1 => putL M T k ++ nodL M (T k)

theorem nodL_sym {M : Nat → List Int} {x : Int} (h : 0 ≤ x) : nodL M x = [x] := by rw [nodL, if_neg]; omega
theorem nodL_var {M : Nat → List Int} {v : Nat} : nodL M (-1 - (v : Int)) = if M v ≠ [] then M v else [-1 - (v : Int)] := by
  have e : (-1 - (-1 - (v : Int))).toNat = v := by omega
  unfold nodL
  rw [e]
  by_cases h : M v ≠ []
  · rw [if_pos ⟨by omega, h⟩, if_pos h]
  · rw [if_neg (fun x => h x.2), if_neg h]

theorem nodL_len {M : Nat → List Int} (hM : ∀ v, (M v).length ≤ 24) (x : Int) : 1 ≤ (nodL M x).length ∧ (nodL M x).length ≤ 24 := by
  unfold nodL
  split
  · next h =>
    have := hM (-1 - x).toNat
    have : 0 < (M (-1 - x).toNat).length := List.length_pos_iff.2 h.2
    omega
  · simp

theorem putL_len {M : Nat → List Int} (hM : ∀ v, (M v).length ≤ 24) (T : Nat → Int) : ∀ k, k ≤ (putL M T k).length ∧ (putL M T k).length ≤ 24 * k
  | 0 => by simp [putL]
  | k + 1 => by
    have h1 := putL_len hM T k
    have h2 := nodL_len hM (T k)
    simp only [putL, List.length_append]
    omega

/-- A function that can be called. -/
def Enters (gf : Nat) : Prop := ∀ args w, Sem.run Try.prog (callFunc gf args) w = .ok (.enter gf args) w

/-- A function that tells what stands for a variable: M. -/
structure Mean (gf : Nat) (fr : Array Value) (M : Nat → List Int) (w : World) : Prop where
  ent : Enters gf
  call : ∀ (v : Nat) (w1 : World), v < 12 → Below w.heap.size w w1 → Calls Try.prog gf (#[.int .i64 (v : Int)] ++ fr) w1 fun e w2 => (∃ p c, e = .returned (.slice p (M v).length c) ∧ ((M v).length = 0 ∨ ∃ b off, p = some ⟨b, off, none⟩ ∧ Ints w2 b off (M v).length (fun i => (M v).getD i 0))) ∧ Below w1.heap.size w1 w2

theorem Mean.keep {gf : Nat} {fr : Array Value} {M : Nat → List Int} {w w' : World} (h : Mean gf fr M w) (hb : Below w.heap.size w w') : Mean gf fr M w' :=
  ⟨h.ent, fun v w1 hv h1 => h.call v w1 hv (keepB hb h1)⟩

theorem vals_list (l : List Int) : valsI (fun i => l.getD i 0) l.length = l.map (fun x => Value.int .i64 x) := by
  apply List.ext_getElem?
  intro i
  by_cases hi : i < l.length
  · rw [valsI_at _ _ _ hi]; simp [List.getElem?_eq_getElem hi]
  · rw [List.getElem?_eq_none (by simp [valsI]; omega), List.getElem?_eq_none (by simp; omega)]

theorem ownsRow_upon {w w' : World} {B e n : Nat} {v : Value} {xs : List Value} (h : w.ownsRow B e 1 v n xs) (hb : Below w.heap.size w w') : w'.ownsRow B e 1 v n xs := by
  refine ⟨h.1, h.2.imp id ?_⟩
  rintro ⟨g', cap, cur, h1, h2, h3, h4⟩
  exact ⟨g', cap, cur, h1, h2, by rw [hb.block g' (Array.getElem?_eq_some_iff.1 h3).1]; exact h3, h4⟩

theorem ownsRow_le {w : World} {B e n : Nat} {v : Value} {xs : List Value} (h : w.ownsRow B e 1 v n xs) : ∀ k, v.ownBlock = some k → B ≤ k := fun k hk => (h.lt k hk).1

set_option maxRecDepth 20000 in
set_option maxHeartbeats 1600000 in
theorem appendMeaning_any (gf : Nat) (fr : Array Value) (M : Nat → List Int) (v : Value) (l : List Int) (x : Int) (w0 w : World) (hM : Mean gf fr M w0) (hB : Below w0.heap.size w0 w) (ho : w.ownsRow w0.heap.size 2 1 v l.length (l.map (fun x => Value.int .i64 x))) (hx : -12 ≤ x) (hl : l.length ≤ 1048576) (hm : ∀ v, (M v).length ≤ 24) :
    Calls Try.prog 88 #[v, .int .i64 x, .func (Fn.func gf) #[] fr] w fun e w' => ∃ g d, e = .returned (.slice (some ⟨g, 0, none⟩) (l ++ nodL M x).length d) ∧ OwnL w' w0.heap.size g d (l ++ nodL M x) ∧ Below w0.heap.size w0 w' := by
  have HM := hidden hM
  have HO := hidden ho
  have HB := hidden hB
  have HL := hidden hm
  clear hM ho hB hm
  go_enter Try.func88, Try.ntmps88
  go_wp2_with fail
  with_reducible refine (isVariable_any _ _).mono ?_
  rintro e w1 ⟨rfl, hb⟩
  replace HO := hidden (ownsRow_upon HO.out hb)
  replace HB := hidden (HB.out.trans (hb.mono HB.out.size))
  clear hb
  by_cases hv : x < 0
  · obtain ⟨v', rfl, hv'⟩ : ∃ v' : Nat, x = -1 - (v' : Int) ∧ v' < 12 := ⟨(-1 - x).toNat, by omega, by omega⟩
    have HN := hidden (nodL_var (M := M) (v := v'))
    rw [show varB (-1 - (v' : Int)) = true by simp [varB]; omega]
    clear hv
    go_wp2_with fail
    with_reducible refine (variableOf_any _ _ hv').mono ?_
    rintro e w2 ⟨rfl, rfl⟩
    go_wp2_with fail
    rw [HM.out.ent, Oper.upon_enter]
    with_reducible refine (HM.out.call v' _ hv' HB.out).mono ?_
    rintro e w3 ⟨⟨p, c, rfl, hp⟩, hb⟩
    replace HO := hidden (ownsRow_upon HO.out hb)
    replace HB := hidden (HB.out.trans (hb.mono HB.out.size))
    have hl24 := HL.out v'
    clear hb
    by_cases h0 : M v' = []
    · replace HN := hidden (HN.out.trans (if_neg (fun x => x h0)))
      have hz : (M v').length = 0 := by rw [h0]; rfl
      rw [hz]
      clear hp hz h0 hl24
      go_wp2_with (at_builtin; refine wpList_append_own _ rfl _ _ 26 rfl w0.heap.size 2 _ (.int .i64 0) 1 8 Try.underlying26 rfl rfl rfl rfl rfl (by decide) _ _ _ rfl (HO.out.alloc _) ⟨_, 0, none⟩ 1 1 [.int .i64 (-1 - (v' : Int))] rfl (by simp) (one_srcI _ _ _) (oneValI _) (by unfold maxLen; omega) (by omega) (by have := HB.out.size; simp; omega) ?_)
      intro v2 w4 hown hgrow hnil
      obtain ⟨g, d, rfl, ho, hb⟩ := ownL_open (l := l ++ nodL M (-1 - (v' : Int))) hown (by rw [HN.out]; simp) (by rw [HN.out]; simp) (by simpa using hnil) ((HB.out.alloc HB.out.size _).grown hgrow (by have := HB.out.size; simp; omega) (ownsRow_le HO.out))
      have HE := hidden (And.intro ho hb)
      clear hown hgrow hnil ho hb
      go_wp2
      go_ret
      exact ⟨g, d, rfl, HE.out.1, HE.out.2⟩
    · replace HN := hidden (HN.out.trans (if_pos h0))
      have hz : 0 < (M v').length := List.length_pos_iff.2 h0
      rcases hp with hp | ⟨b, off, rfl, hi⟩
      · omega
      have HI := hidden hi
      have hz' : (0 : Int) < (M v').length := by omega
      obtain ⟨k, hk⟩ : ∃ k, k = (M v').length := ⟨_, rfl⟩
      have HK := hidden hk
      rw [← hk] at hz' hz hl24 ⊢
      clear h0 hi hk
      go_wp2_with (at_builtin; refine wpList_append_own _ rfl _ _ 26 rfl w0.heap.size 2 _ (.int .i64 0) 1 8 Try.underlying26 rfl rfl rfl rfl rfl (by decide) _ _ _ rfl HO.out ⟨b, off, none⟩ k c ((M v').map (fun x => Value.int .i64 x)) rfl (by simp [HK.out]) (by rw [← vals_list]; exact HI.out.src0) (by intro u hu; simp at hu; obtain ⟨a, _, rfl⟩ := hu; rfl) (by unfold maxLen; omega) (by omega) HB.out.size ?_)
      intro v2 w4 hown hgrow hnil
      obtain ⟨g, d, rfl, ho, hb⟩ := ownL_open (l := l ++ nodL M (-1 - (v' : Int))) hown (by rw [HN.out, HK.out]; simp) (by rw [HN.out]; simp) (by rw [hnil]; omega) (HB.out.grown hgrow HB.out.size (ownsRow_le HO.out))
      have HE := hidden (And.intro ho hb)
      clear hown hgrow hnil ho hb
      go_wp2
      go_ret
      exact ⟨g, d, rfl, HE.out.1, HE.out.2⟩
  · have HN := hidden (nodL_sym (M := M) (x := x) (by omega))
    rw [show varB x = false by simp [varB]; omega]
    clear hv
    go_wp2_with (at_builtin; refine wpList_append_own _ rfl _ _ 26 rfl w0.heap.size 2 _ (.int .i64 0) 1 8 Try.underlying26 rfl rfl rfl rfl rfl (by decide) _ _ _ rfl (HO.out.alloc _) ⟨_, 0, none⟩ 1 1 [.int .i64 x] rfl (by simp) (one_srcI _ _ _) (oneValI _) (by unfold maxLen; omega) (by omega) (by have := HB.out.size; simp; omega) ?_)
    intro v2 w4 hown hgrow hnil
    obtain ⟨g, d, rfl, ho, hb⟩ := ownL_open (l := l ++ nodL M x) hown (by rw [HN.out]; simp) (by rw [HN.out]; simp) (by simpa using hnil) ((HB.out.alloc HB.out.size _).grown hgrow (by have := HB.out.size; simp; omega) (ownsRow_le HO.out))
    have HE := hidden (And.intro ho hb)
    clear hown hgrow hnil ho hb
    go_wp2
    go_ret
    exact ⟨g, d, rfl, HE.out.1, HE.out.2⟩

set_option maxRecDepth 20000 in
set_option maxHeartbeats 1600000 in
theorem putIn_any (gf : Nat) (fr : Array Value) (M : Nat → List Int) (b off m c : Nat) (T : Nat → Int) (w : World) (hM : Mean gf fr M w) (h : Ints w b off m T) (h1 : 1 ≤ m) (h24 : m ≤ 24) (hx : ∀ i, i < m → -12 ≤ T i) (hm : ∀ v, (M v).length ≤ 24) :
    Calls Try.prog 65 #[.slice (some ⟨b, off, none⟩) m c, .func (Fn.func gf) #[] fr] w fun e w' => ListAns w (if 24 < (putL M T m).length then 2 else 0) (putL M T m).length (fun i => (putL M T m).getD i 0) e w' ∧ Below w.heap.size w w' := by
  generalize hC : (if 24 < (putL M T m).length then (2 : Int) else 0) = C
  generalize hU : (fun i => (putL M T m).getD i 0) = U
  generalize hK : (putL M T m).length = K
  have HC := hidden hC
  have HU := hidden hU
  have HKK := hidden hK
  clear hC hU hK
  have R := hidden (Res.new w (.int .i64 0) (.slice none 0 0) 85)
  have B0 := hidden (alloc_below w (.cells #[.int .i64 0, .slice none 0 0] 85))
  obtain ⟨wa, hwa⟩ : ∃ wa, wa = w.alloc (.cells #[.int .i64 0, .slice none 0 0] 85) := ⟨_, rfl⟩
  have HS := hidden (show wa.heap.size = w.heap.size + 1 by rw [hwa]; simp)
  have HM := hidden (hM.keep B0.out)
  have HI := hidden (h.keep B0.out)
  have HX := hidden hx
  have HL := hidden hm
  clear hM h hx hm
  go_enter Try.func65, Try.ntmps65
  go_wp2
  rw [← hwa] at R B0 HM HI ⊢
  clear hwa
  go_loopw [5, 10] (fun o i wr => ∃ k : Nat, k ≤ m ∧ i = .int .i64 k ∧ Hid (wr.ownsRow wa.heap.size 2 1 o (putL M T k).length ((putL M T k).map (fun x => Value.int .i64 x)) ∧ (0 < k → ¬ o = .slice none 0 0)) ∧ (o = .slice none 0 0 ∨ ∃ g d, o = .slice (some ⟨g, 0, none⟩) (putL M T k).length d) ∧ Hid (Below wa.heap.size wa wr)) (fun _ i _ => m - (intOf i).toNat)
  case atStart => exact ⟨0, Nat.zero_le _, rfl, hidden ⟨World.ownsRow_nil _ _ _ _, fun h => by omega⟩, Or.inl rfl, hidden (Below.refl _ _)⟩
  case round =>
    obtain ⟨k, hk, rfl, HO, HV, HB⟩ := hrel
    have HVV := hidden HV
    clear HV
    by_cases hlt : k < m
    · have c1 := (HI.out.keep HB.out).cell k hlt
      have hlen := (putL_len HL.out T k).2
      have HLN := hidden (show (putL M T k).length ≤ 1048576 by omega)
      clear hlen
      go_wp2_with fail
      with_reducible refine (appendMeaning_any gf fr M _ (putL M T k) (T k) wa _ HM.out HB.out HO.out.1 (HX.out k hlt) HLN.out HL.out).mono ?_
      rintro e w2 ⟨g, d, rfl, ho, hb⟩
      obtain ⟨n2, hn2⟩ : ∃ n2, n2 = (putL M T k ++ nodL M (T k)).length := ⟨_, rfl⟩
      have HE := hidden (And.intro ho hb)
      have HN2 := hidden hn2
      rw [← hn2]
      clear ho hb c1 HLN hn2
      go_wp2
      go_roundw
      case rel =>
        have e := HN2.out
        subst e
        exact ⟨k + 1, by omega, by go_num, hidden ⟨HE.out.1.own, fun _ => by simp⟩, Or.inr ⟨g, d, rfl⟩, hidden HE.out.2⟩
      case measure => simp [intOf]; omega
    · obtain rfl : m = k := by omega
      obtain ⟨g, d, hv, hg, ho, hb⟩ := row_open HO.out.1 (HO.out.2 h1) HB.out
      subst hv
      have hlen := (putL_len HL.out T m)
      have HR := hidden (R.out.keep HB.out)
      have HW := hidden ho
      have hkk := HKK.out
      rw [hkk] at hlen HW ⊢
      clear ho hb HVV HO hkk
      by_cases h2 : 24 < K
      · have h2' : (24 : Int) < K := by omega
        have HCC := hidden (show C = 2 by rw [← HC.out, if_pos (by rw [HKK.out]; exact h2)])
        obtain ⟨_, q0, q1, f0, f1⟩ := id HR.out
        go_wp2
        refine bodyPost_ret (v := .agg #[.int .i64 2, .slice none 0 0]) (by simp [results, Try.results65, go_sem, q0, q1]) rfl ⟨Or.inl ⟨by rw [HCC.out]; decide, by rw [HCC.out]⟩, ?_⟩
        exact ((keepB B0.out HB.out).setCell (by simp) _).setCell (by simp) _
      · have h2' : ¬ (24 : Int) < K := by omega
        have HCC := hidden (show C = 0 by rw [← HC.out, if_neg (by rw [HKK.out]; exact h2)])
        obtain ⟨_, q0, q1, f0, f1⟩ := id HR.out
        go_wp2
        have hs := HS.out
        refine bodyPost_ret (v := .agg #[.int .i64 0, .slice (some ⟨g, 0, none⟩) K d]) (by simp [results, Try.results65, go_sem, q0, q1]) rfl ⟨Or.inr ⟨HCC.out, g, d, rfl, by omega, ?_⟩, ?_⟩
        · have ow : OwnI wr wa.heap.size g K d U K := ⟨_, HW.out, fun i hi => by rw [← HU.out]; rw [← HKK.out] at hi; simp [List.getElem?_eq_getElem hi]⟩
          exact ((ow.other _ _ (by show g ≠ w.heap.size; omega)).other _ _ (by show g ≠ w.heap.size; omega)).base (by omega)
        · exact ((keepB B0.out HB.out).setCell (by simp) _).setCell (by simp) _

end Go.Proofs.Ytbdgnpjbmlcchaa
