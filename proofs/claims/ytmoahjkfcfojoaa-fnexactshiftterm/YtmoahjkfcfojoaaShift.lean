/- Contracts: a term with greater variables: ShiftTerm, as the model and as the program makes it. -/
import Derived.Test.YtmoahjkfcfojoaaPutIn
import Derived.Test.YtmoahjkfcfojoaaVars
namespace Go.Proofs.Ytmoahjkfcfojoaa
open Go.RowKit

/-- The nodes, each variable greater by y. -/
def shT (y : Int) (T : Nat → Int) : Nat → Int := fun i => if T i < 0 then T i - y else T i

/-- Whether a variable comes out of its bounds. -/
def shOut (y : Int) (m : Nat) (T : Nat → Int) : Prop := ∃ i, i < m ∧ T i < 0 ∧ T i - y < -12

open Classical in
/-- The code of ShiftTerm. -/
noncomputable def shC (n : Nat) (N : Nat → ByteArray) (A : Nat → Int) (m : Nat) (T : Nat → Int) (y : Int) : Int :=
  if termF n N A m T = 0 then (if (0 ≤ y ∧ y ≤ 11) ∧ ¬ shOut y m T then 0 else 3) else termF n N A m T

section
variable {n : Nat} {N : Nat → ByteArray} {A : Nat → Int} {m : Nat} {T : Nat → Int} {y : Int}
theorem sh_fault (h : termF n N A m T ≠ 0) : shC n N A m T y = termF n N A m T := by rw [shC, if_neg h]
theorem sh_range (h : termF n N A m T = 0) (hy : ¬ (0 ≤ y ∧ y ≤ 11)) : shC n N A m T y = 3 := by rw [shC, if_pos h, if_neg (fun x => hy x.1)]
theorem sh_out (h : termF n N A m T = 0) (ho : shOut y m T) : shC n N A m T y = 3 := by rw [shC, if_pos h, if_neg (fun x => x.2 ho)]
theorem sh_ok (h : termF n N A m T = 0) (hy : 0 ≤ y ∧ y ≤ 11) (ho : ¬ shOut y m T) : shC n N A m T y = 0 := by rw [shC, if_pos h, if_pos ⟨hy, ho⟩]

theorem sh_aOf (hy : 0 ≤ y) : aOf A (shT y T) = aOf A T := by
  funext p
  by_cases h : T p < 0
  · rw [aOf_var h, aOf_var (show shT y T p < 0 by simp only [shT, if_pos h]; omega)]
  · have e : shT y T p = T p := by simp only [shT, if_neg h]
    unfold aOf
    rw [e]

theorem sh_nodes (hg : Nods n A m T) : ∀ i, i < m → -12 ≤ T i ∧ T i ≤ 5 := fun i hi => by
  have := hg.few
  rcases nodeB_cases (hg.node i hi) with ⟨j, e, hj⟩ | hv <;> omega

theorem sh_lF (hg : Trm n A m T) (hy : 0 ≤ y ∧ y ≤ 11) : lF n A m (shT y T) = 0 ↔ ¬ shOut y m T := by
  have hb : ¬ (m < 1 ∨ 24 < m) := by have := hg.pos; have := hg.nods.most; omega
  constructor
  · rintro h ⟨i, hi, h0, h1⟩
    have : nodeB (shT y T i) n = false := by
      have e : shT y T i = T i - y := by simp [shT, h0]
      rw [e]
      simp only [nodeB, inB, varB, Bool.or_eq_false_iff, decide_eq_false_iff_not]
      omega
    rw [lF_out hb ⟨i, hi, this⟩] at h
    cases h
  · intro h
    refine lF_ok hb (fun i hi => ?_) (by rw [sh_aOf hy.1]; exact hg.whole)
    by_cases h0 : T i < 0
    · have e : shT y T i = T i - y := by simp [shT, h0]
      have : ¬ T i - y < -12 := fun h1 => h ⟨i, hi, h0, h1⟩
      rw [e]
      simp only [nodeB, inB, varB, Bool.or_eq_true, decide_eq_true_eq]
      right; omega
    · have e : shT y T i = T i := by simp [shT, h0]
      rw [e]; exact hg.nods.node i hi
end

set_option maxRecDepth 20000 in
set_option maxHeartbeats 1600000 in
theorem l6Shift_any (b off m c : Nat) (T : Nat → Int) (y : Int) (w : World) (h : Ints w b off m T) (h24 : m ≤ 24) (hx : ∀ i, i < m → -12 ≤ T i ∧ T i ≤ 5) (hy : 0 ≤ y ∧ y ≤ 11) :
    Calls Try.prog 71 #[.slice (some ⟨b, off, none⟩) m c, .int .i64 y] w fun e w' => ∃ g d, e = .returned (.slice (some ⟨g, 0, none⟩) m d) ∧ w.heap.size ≤ g ∧ OwnI w' w.heap.size g m d (shT y T) m ∧ Below w.heap.size w w' := by
  have HO := hidden (show OwnL (w.alloc (.cells #[] 2)) w.heap.size w.heap.size 0 [] from ⟨Nat.le_refl _, World.ownsRow_made w #[] 0 (Nat.le_refl _) (Nat.zero_le _) rfl⟩)
  have H := hidden h
  have HX := hidden hx
  clear h hx
  go_enter Try.func71, Try.ntmps71
  go_wp2
  go_loopw [5, 6] (fun o i wr => ∃ (k g d : Nat), k ≤ m ∧ i = .int .i64 k ∧ o = .slice (some ⟨g, 0, none⟩) k d ∧ Hid (OwnL wr w.heap.size g d (upto (shT y T) k) ∧ Below w.heap.size w wr)) (fun _ i _ => m - (intOf i).toNat)
  case atStart => exact ⟨0, _, _, Nat.zero_le _, rfl, rfl, hidden ⟨HO.out, alloc_below _ _⟩⟩
  case round =>
    clear HO
    obtain ⟨k, g, d, hk, rfl, rfl, HI⟩ := hrel
    by_cases hlt : k < m
    · have c1 := (H.out.keep HI.out.2).cell k hlt
      have O1 := hidden (show wr.ownsRow w.heap.size 2 1 (.slice (some ⟨g, 0, none⟩) k d) k ((upto (shT y T) k).map (fun x => Value.int .i64 x)) by have := HI.out.1.own; rw [upto_length] at this; exact this)
      have B1 := hidden HI.out.2
      have hxk := HX.out k hlt
      clear HI
      by_cases hv : T k < 0
      · have HE := hidden (show shT y T k = T k - y by simp [shT, hv])
        go_wp2_with (at_builtin; refine wpList_append_own _ rfl _ _ 25 rfl w.heap.size 2 _ (.int .i64 0) 1 8 Try.underlying25 rfl rfl rfl rfl rfl (by decide) _ _ _ rfl (O1.out.alloc _) ⟨_, 0, none⟩ 1 1 [.int .i64 (T k - y)] rfl (by simp) (one_srcI _ _ _) (oneValI _) (by unfold maxLen; omega) (by omega) (by have := B1.out.size; simp; omega) ?_)
        intro v2 w4 hown hgrow hnil
        obtain ⟨g2, d2, rfl, ho, hb⟩ := ownL_open (l := upto (shT y T) (k + 1)) hown (by rw [upto_length]) (by rw [upto_succ, HE.out]; simp) (by simpa using hnil) ((B1.out.alloc B1.out.size _).grown hgrow (by have := B1.out.size; simp; omega) (ownsRow_le O1.out))
        have HF := hidden (And.intro ho hb)
        rw [upto_length]
        clear hown hgrow hnil ho hb c1
        go_wp2
        go_roundw
        case rel => exact ⟨k + 1, g2, d2, by omega, by go_num, rfl, hidden ⟨HF.out.1, HF.out.2⟩⟩
        case measure => simp [intOf]; omega
      · have HE := hidden (show shT y T k = T k by simp [shT, hv])
        go_wp2_with (at_builtin; refine wpList_append_own _ rfl _ _ 25 rfl w.heap.size 2 _ (.int .i64 0) 1 8 Try.underlying25 rfl rfl rfl rfl rfl (by decide) _ _ _ rfl (O1.out.alloc _) ⟨_, 0, none⟩ 1 1 [.int .i64 (T k)] rfl (by simp) (one_srcI _ _ _) (oneValI _) (by unfold maxLen; omega) (by omega) (by have := B1.out.size; simp; omega) ?_)
        intro v2 w4 hown hgrow hnil
        obtain ⟨g2, d2, rfl, ho, hb⟩ := ownL_open (l := upto (shT y T) (k + 1)) hown (by rw [upto_length]) (by rw [upto_succ, HE.out]; simp) (by simpa using hnil) ((B1.out.alloc B1.out.size _).grown hgrow (by have := B1.out.size; simp; omega) (ownsRow_le O1.out))
        have HF := hidden (And.intro ho hb)
        rw [upto_length]
        clear hown hgrow hnil ho hb c1
        go_wp2
        go_roundw
        case rel => exact ⟨k + 1, g2, d2, by omega, by go_num, rfl, hidden ⟨HF.out.1, HF.out.2⟩⟩
        case measure => simp [intOf]; omega
    · obtain rfl : m = k := by omega
      go_wp2
      go_ret
      refine ⟨g, d, rfl, HI.out.1.base, ⟨_, by have := HI.out.1.own; rw [upto_length] at this; exact this, fun i hi => ?_⟩, HI.out.2⟩
      simp [upto, hi]

theorem mkV_true {T : Nat → Int} {j : Nat} : ∀ k, mkV T k j = true → ∃ i, i < k ∧ T i = -1 - (j : Int)
  | 0, h => by simp [mkV] at h
  | k + 1, h => by
    simp only [mkV, Bool.or_eq_true, decide_eq_true_eq] at h
    rcases h with h | h
    · obtain ⟨i, hi, e⟩ := mkV_true k h; exact ⟨i, by omega, e⟩
    · exact ⟨k, by omega, h⟩

theorem mkV_of {T : Nat → Int} {j i : Nat} (h : T i = -1 - (j : Int)) : ∀ k, i < k → mkV T k j = true
  | 0, hi => by omega
  | k + 1, hi => by
    simp only [mkV, Bool.or_eq_true, decide_eq_true_eq]
    by_cases e : i = k
    · right; rw [← e]; exact h
    · left; exact mkV_of h k (by omega)

theorem flt_mem {P : Nat → Bool} {n : Nat} {x : Int} : x ∈ flt P 0 n ↔ ∃ j : Nat, x = j ∧ j < n ∧ P j = true := by
  simp only [flt, List.mem_map, List.mem_filter, List.mem_range'_1]
  constructor
  · rintro ⟨j, ⟨⟨_, h1⟩, h2⟩, rfl⟩; exact ⟨j, rfl, by omega, h2⟩
  · rintro ⟨j, rfl, h1, h2⟩; exact ⟨j, ⟨⟨by omega, by omega⟩, h2⟩, rfl⟩

open Classical in
/-- Whether one of the numbers is too great. -/
noncomputable def anyOut (y : Int) (l : List Int) : Bool := decide (∃ i, i < l.length ∧ 12 ≤ l.getD i 0 + y)

theorem out_vars {m n : Nat} {A T : Nat → Int} {y : Int} (hg : Nods n A m T) : anyOut y (flt (mkV T m) 0 12) = true ↔ shOut y m T := by
  unfold anyOut
  simp only [decide_eq_true_eq]
  constructor
  · rintro ⟨i, hi, h⟩
    have hm : (flt (mkV T m) 0 12).getD i 0 ∈ flt (mkV T m) 0 12 := by
      rw [List.getD_eq_getElem?_getD, List.getElem?_eq_getElem hi]; exact List.getElem_mem hi
    obtain ⟨j, e, hj, hp⟩ := flt_mem.1 hm
    obtain ⟨k, hk, ek⟩ := mkV_true m hp
    exact ⟨k, hk, by omega, by omega⟩
  · rintro ⟨i, hi, h0, h1⟩
    have h12 := hg.var i hi h0
    obtain ⟨v, hv⟩ : ∃ v : Nat, T i = -1 - (v : Int) := ⟨(-1 - T i).toNat, by omega⟩
    have hm : ((v : Int)) ∈ flt (mkV T m) 0 12 := flt_mem.2 ⟨v, rfl, by omega, mkV_of hv m hi⟩
    obtain ⟨k, hk, e⟩ := List.getElem_of_mem hm
    refine ⟨k, hk, ?_⟩
    rw [List.getD_eq_getElem?_getD, List.getElem?_eq_getElem hk]
    simp only [Option.getD_some]
    omega

set_option maxRecDepth 20000 in
set_option maxHeartbeats 400000 in
theorem beyond1_any (b : Nat) (x y : Int) (w : World) (h : One w b (.int .i64 y)) (hx : 0 ≤ x ∧ x ≤ 11) (hy : 0 ≤ y ∧ y ≤ 11) :
    Calls Try.prog 113 #[.int .i64 x, .pointer (some ⟨b, 0, none⟩)] w fun e w' => e = .returned (.bool (decide (12 ≤ x + y))) ∧ Below w.heap.size w w' := by
  have c0 := h.c0
  go_enter Try.func113, Try.ntmps113
  go_wp2
  go_ret
  exact ⟨rfl, Below.refl _ _⟩

set_option maxRecDepth 20000 in
set_option maxHeartbeats 800000 in
theorem indexOut_any (p : Option Addr) (c bx : Nat) (l : List Int) (y : Int) (w : World) (h : l = [] ∨ ∃ b off, p = some ⟨b, off, none⟩ ∧ Ints w b off l.length (fun i => l.getD i 0)) (hl : l.length ≤ 24) (h1 : One w bx (.int .i64 y)) (hx : ∀ x ∈ l, 0 ≤ x ∧ x ≤ 11) (hy : 0 ≤ y ∧ y ≤ 11) :
    Calls Try.prog 124 #[.slice p l.length c, .func (Fn.func 113) #[] #[.pointer (some ⟨bx, 0, none⟩)]] w fun e w' => (∃ r : Int, e = .returned (.int .i64 r) ∧ (decide (0 ≤ r) = anyOut y l)) ∧ Below w.heap.size w w' := by
  obtain ⟨n, hn⟩ : ∃ n, n = l.length := ⟨_, rfl⟩
  have HN := hidden hn
  have H := hidden h
  have HX := hidden (show ∀ i, i < l.length → 0 ≤ l.getD i 0 ∧ l.getD i 0 ≤ 11 from fun i hi => hx _ (by rw [List.getD_eq_getElem?_getD, List.getElem?_eq_getElem hi]; exact List.getElem_mem hi))
  have H1 := hidden h1
  rw [← hn] at hl ⊢
  clear h h1 hn hx
  go_enter Try.func124, Try.ntmps124
  go_wp2_with fail
  go_loopw [8] (fun i wr => ∃ k : Nat, k ≤ n ∧ i = .int .i64 k ∧ Hid (∀ i, i < k → ¬ 12 ≤ l.getD i 0 + y) ∧ Hid (Below w.heap.size w wr)) (fun i _ => n - (intOf i).toNat)
  case atStart => exact ⟨0, Nat.zero_le _, rfl, hidden (fun i hi => by omega), hidden (Below.refl _ _)⟩
  case round =>
    obtain ⟨k, hk, rfl, HE, HB⟩ := hrel
    by_cases hlt : k < n
    · rcases H.out with h0 | ⟨b, off, rfl, hi⟩
      · have := HN.out; rw [h0] at this; simp at this; omega
      have c1 := (hi.keep HB.out).cell k (by rw [← HN.out]; exact hlt)
      have HXk := hidden (HX.out k (by rw [← HN.out]; exact hlt))
      obtain ⟨x, hx⟩ : ∃ x, x = l.getD k 0 := ⟨_, rfl⟩
      have HXX := hidden hx
      simp only [← hx] at c1 HXk
      clear hx hi
      go_wp2_with fail
      with_reducible refine (beyond1_any _ _ _ _ (H1.out.keep HB.out) HXk.out hy).mono ?_
      rintro e w1 ⟨rfl, hb⟩
      have B1 := hidden (keepB HB.out hb)
      clear hb c1 HB
      by_cases hz : 12 ≤ x + y
      · have HR := hidden (show anyOut y l = true by unfold anyOut; simp only [decide_eq_true_eq]; exact ⟨k, by rw [← HN.out]; exact hlt, by rw [← HXX.out]; exact hz⟩)
        rw [decide_eq_true hz]
        clear hz
        go_wp2
        go_ret
        exact ⟨⟨_, rfl, by rw [HR.out]; simp⟩, B1.out⟩
      · have HR := hidden hz
        rw [decide_eq_false hz]
        clear hz
        go_wp2
        go_roundw
        case rel => exact ⟨k + 1, by omega, by go_num, hidden (fun j hj => by
          by_cases e : j = k
          · rw [e, ← HXX.out]; have := HR.out; omega
          · have := HE.out j (by omega); omega), B1⟩
        case measure => simp [intOf]; omega
    · have HR := hidden (show anyOut y l = false by
        unfold anyOut
        simp only [decide_eq_false_iff_not]
        rintro ⟨i, hi, e⟩
        exact HE.out i (by rw [← HN.out] at hi; omega) e)
      go_wp2
      go_ret
      exact ⟨⟨_, rfl, by rw [HR.out]; rfl⟩, HB.out⟩

set_option maxRecDepth 20000 in
set_option maxHeartbeats 400000 in
theorem containsOut_any (p : Option Addr) (n c bx : Nat) (z : Bool) (w : World)
    (h : Calls Try.prog 124 #[.slice p n c, .func (Fn.func 113) #[] #[.pointer (some ⟨bx, 0, none⟩)]] w fun e w' => (∃ r : Int, e = .returned (.int .i64 r) ∧ (decide (0 ≤ r) = z)) ∧ Below w.heap.size w w') :
    Calls Try.prog 111 #[.slice p n c, .func (Fn.func 113) #[] #[.pointer (some ⟨bx, 0, none⟩)]] w fun e w' => e = .returned (.bool z) ∧ Below w.heap.size w w' := by
  have H := hidden h
  clear h
  go_enter Try.func111, Try.ntmps111
  go_wp2_with fail
  with_reducible refine H.out.mono ?_
  rintro e w1 ⟨⟨r, rfl, hr⟩, hb⟩
  have HR := hidden hr
  have B := hidden hb
  clear hr hb
  go_wp2
  go_ret
  exact ⟨by rw [← HR.out]; rfl, B.out⟩

set_option maxRecDepth 20000 in
set_option maxHeartbeats 800000 in
theorem isBeyond_any (b off m c n : Nat) (A T : Nat → Int) (y : Int) (w : World) (h : Ints w b off m T) (hg : Nods n A m T) (hy : 0 ≤ y ∧ y ≤ 11) :
    Calls Try.prog 72 #[.slice (some ⟨b, off, none⟩) m c, .int .i64 y] w fun e w' => e = .returned (.bool (anyOut y (flt (mkV T m) 0 12))) ∧ Below w.heap.size w w' := by
  have X := hidden (One.new w (.int .i64 y) 2)
  have B := hidden (alloc_below w (.cells #[.int .i64 y] 2))
  have H := hidden (h.keep B.out)
  obtain ⟨l, hl⟩ : ∃ l, l = flt (mkV T m) 0 12 := ⟨_, rfl⟩
  have HL := hidden hl
  have HLL := hidden (show l.length ≤ 24 by have := flt_length (mkV T m) 0 12; rw [hl]; omega)
  have HX := hidden (show ∀ x ∈ l, 0 ≤ x ∧ x ≤ 11 from fun x hx => by rw [hl] at hx; obtain ⟨j, e, hj, _⟩ := flt_mem.1 hx; omega)
  rw [← hl]
  clear h hl
  go_enter Try.func72, Try.ntmps72
  go_wp2_with fail
  with_reducible refine (variablesIn_any _ _ n _ _ A T _ H.out hg).mono ?_
  rintro e w1 ⟨ha, hb⟩
  rw [← HL.out] at ha
  replace X := hidden (X.out.keep hb)
  replace B := hidden (keepB B.out hb)
  clear hb H
  rcases ha with ⟨h0, rfl⟩ | ⟨_, g, d, rfl, ho⟩
  · have HI := hidden (indexOut_any none 0 _ l y _ (Or.inl h0) HLL.out X.out HX.out hy)
    rw [show l.length = 0 by rw [h0]; rfl] at HI
    clear h0
    go_wp2_with fail
    with_reducible refine (containsOut_any _ _ _ _ _ _ HI.out).mono ?_
    rintro e w2 ⟨rfl, hb⟩
    replace B := hidden (keepB B.out hb)
    clear hb
    go_wp2
    go_ret
    exact ⟨rfl, B.out⟩
  · have HI := hidden (indexOut_any (some ⟨g, 0, none⟩) d _ l y _ (Or.inr ⟨g, 0, rfl, ho.ownI.ints⟩) HLL.out X.out HX.out hy)
    clear ho
    go_wp2_with fail
    with_reducible refine (containsOut_any _ _ _ _ _ _ HI.out).mono ?_
    rintro e w2 ⟨rfl, hb⟩
    replace B := hidden (keepB B.out hb)
    clear hb
    go_wp2
    go_ret
    exact ⟨rfl, B.out⟩

set_option maxRecDepth 20000 in
set_option maxHeartbeats 3200000 in
theorem specShift_any (b off n c b' off' m c' : Nat) (N : Nat → ByteArray) (A T : Nat → Int) (y : Int) (w : World) (h : Syms w b off n N A) (h' : Ints w b' off' m T) (hk : Kept n N A) (hm : m ≤ 1048576) :
    Calls Try.prog 35 #[.agg #[.slice (some ⟨b, off, none⟩) n c], .slice (some ⟨b', off', none⟩) m c', .int .i64 y] w fun e w' => ListAns w (shC n N A m T y) m (shT y T) e w' ∧ Below w.heap.size w w' := by
  have D := hidden ((One.new w (.slice (some ⟨b, off, none⟩) n c) 34).keep (alloc_below _ (.cells #[.int .i64 0, .slice none 0 0] 42)))
  have R := hidden (Res.new (w.alloc (.cells #[.slice (some ⟨b, off, none⟩) n c] 34)) (.int .i64 0) (.slice none 0 0) 42)
  have B := hidden (keepB (alloc_below w (.cells #[.slice (some ⟨b, off, none⟩) n c] 34)) (alloc_below _ (.cells #[.int .i64 0, .slice none 0 0] 42)))
  have Q := hidden (h.keep B.out)
  have I := hidden (h'.keep B.out)
  have HK := hidden hk
  rw [World.size_alloc] at R
  clear h h' hk
  go_enter Try.func35, Try.ntmps35
  go_wp2_with fail
  with_reducible refine (specTerm_any _ _ _ _ _ _ _ _ N A T _ Q.out I.out HK.out hm).mono ?_
  rintro e w1 ⟨rfl, hb⟩
  replace D := hidden (D.out.keep hb)
  replace R := hidden (R.out.keep hb)
  replace B := hidden (keepB B.out hb)
  replace I := hidden (I.out.keep hb)
  replace Q := hidden (Q.out.keep hb)
  clear hb
  by_cases hf : termF n N A m T = 0
  · have HF := hidden hf
    rw [hf]
    clear hf
    go_wp2_with fail
    with_reducible refine (l1In_any _ _ _ _).mono ?_
    rintro e w2 ⟨rfl, hb⟩
    replace D := hidden (D.out.keep hb)
    replace R := hidden (R.out.keep hb)
    replace B := hidden (keepB B.out hb)
    replace I := hidden (I.out.keep hb)
    replace Q := hidden (Q.out.keep hb)
    clear hb
    by_cases hy : 0 ≤ y ∧ y ≤ 11
    · rw [decide_eq_true hy]
      have HY := hidden hy
      clear hy
      have HT := hidden (term_right HF.out)
      go_wp2_with fail
      with_reducible refine (l6Shift_any _ _ _ _ T y _ I.out HT.out.nods.most (sh_nodes HT.out.nods) HY.out).mono ?_
      rintro e w3 ⟨g, d, rfl, hg, ho, hb⟩
      have RB := hidden (Nat.lt_of_lt_of_le R.out.blk hg)
      replace D := hidden (D.out.keep hb)
      replace R := hidden (R.out.keep hb)
      replace B := hidden (keepB B.out hb)
      replace Q := hidden (Q.out.keep hb)
      have O := hidden ho
      have G := hidden hg
      clear hb I ho hg
      go_wp2_with fail
      with_reducible refine (l3Fault_all _ _ _ _ _ _ _ _ _ N A (shT y T) _ D.out Q.out O.out.ints HT.out.sig hm).mono ?_
      rintro e w4 ⟨rfl, hb⟩
      replace R := hidden (R.out.keep hb)
      replace B := hidden (keepB B.out hb)
      replace O := hidden (O.out.keep hb)
      clear hb D Q
      by_cases hz : lF n A m (shT y T) = 0
      · have HA := hidden (sh_ok (N := N) HF.out HY.out ((sh_lF HT.out HY.out).1 hz))
        rw [hz]
        clear hz
        obtain ⟨_, q0, q1, f0, f1⟩ := id R.out
        go_wp2
        have rb := RB.out
        refine bodyPost_ret (v := .agg #[.int .i64 0, .slice (some ⟨g, 0, none⟩) m d]) (by simp [results, Try.results35, go_sem, q0, q1]) rfl ⟨Or.inr ⟨HA.out, g, d, rfl, by omega, ?_⟩, (B.out.setCell (by simp) _).setCell (by simp) _⟩
        exact ((O.out.other _ _ (by show g ≠ w.heap.size + 1; omega)).other _ _ (by show g ≠ w.heap.size + 1; omega)).base (by omega)
      · have HA := hidden (sh_out (N := N) HF.out (Classical.byContradiction fun x => hz ((sh_lF HT.out HY.out).2 x)))
        have hz' : (lF n A m (shT y T) != 0) = true := by simpa using hz
        generalize lF n A m (shT y T) = z at *
        clear hz
        obtain ⟨_, q0, q1, f0, f1⟩ := id R.out
        go_wp2
        exact bodyPost_ret (v := .agg #[.int .i64 3, .slice none 0 0]) (by simp [results, Try.results35, go_sem, q0, q1]) rfl ⟨Or.inl ⟨by rw [HA.out]; decide, by rw [HA.out]⟩, (B.out.setCell (by simp) _).setCell (by simp) _⟩
    · have HA := hidden (sh_range HF.out hy)
      rw [decide_eq_false hy]
      clear hy
      obtain ⟨_, q0, q1, f0, f1⟩ := id R.out
      go_wp2
      exact bodyPost_ret (v := .agg #[.int .i64 3, .slice none 0 0]) (by simp [results, Try.results35, go_sem, q0, q1]) rfl ⟨Or.inl ⟨by rw [HA.out]; decide, by rw [HA.out]⟩, (B.out.setCell (by simp) _).setCell (by simp) _⟩
  · have HA := hidden (sh_fault (y := y) hf)
    have HN := hidden hf
    have hf' : (termF n N A m T != 0) = true := by simpa using hf
    generalize termF n N A m T = z at *
    clear hf
    obtain ⟨_, q0, q1, f0, f1⟩ := id R.out
    go_wp2
    exact bodyPost_ret (v := .agg #[.int .i64 z, .slice none 0 0]) (by simp [results, Try.results35, go_sem, q0, q1]) rfl ⟨Or.inl ⟨by rw [HA.out]; exact HN.out, by rw [HA.out]⟩, (B.out.setCell (by simp) _).setCell (by simp) _⟩

/-- What stands for a variable where all are greater by y. -/
def shM (y : Int) (v : Nat) : List Int := [-1 - ((v : Int) + y)]

theorem sh_putL {y : Int} {T : Nat → Int} : ∀ k, (∀ i, i < k → -12 ≤ T i) → putL (shM y) T k = upto (shT y T) k
  | 0, _ => rfl
  | k + 1, h => by
    have h12 := h k (by omega)
    rw [putL, sh_putL k (fun i hi => h i (by omega)), upto_succ]
    congr 1
    by_cases hx : T k < 0
    · obtain ⟨v, hv⟩ : ∃ v : Nat, T k = -1 - (v : Int) := ⟨(-1 - T k).toNat, by omega⟩
      rw [hv, nodL_var, if_pos (by simp [shM])]
      simp only [shM, shT, hv]
      rw [if_pos (by omega)]
      congr 1; omega
    · rw [nodL_sym (by omega)]
      simp only [shT, if_neg hx]

set_option maxRecDepth 20000 in
theorem enters_sh : Enters 73 := fun _ _ => rfl

set_option maxRecDepth 20000 in
set_option maxHeartbeats 400000 in
theorem shift1_any (b v : Nat) (y : Int) (w : World) (h : One w b (.int .i64 y)) (hx : v < 12) (hy : 0 ≤ y ∧ y ≤ 11) :
    Calls Try.prog 73 #[.int .i64 (v : Int), .pointer (some ⟨b, 0, none⟩)] w fun e w' => (∃ g, e = .returned (.slice (some ⟨g, 0, none⟩) 1 1) ∧ Ints w' g 0 1 (fun i => (shM y v).getD i 0)) ∧ Below w.heap.size w w' := by
  have c0 := h.c0
  go_enter Try.func73, Try.ntmps73
  go_wp2
  go_ret
  refine ⟨⟨_, rfl, ⟨fun _ => by simp, fun i hi => ?_⟩⟩, alloc_below _ _⟩
  obtain rfl : i = 0 := by omega
  simp [shM, go_sem]

theorem shift1_mean (b : Nat) (y : Int) (w : World) (h : One w b (.int .i64 y)) (hy : 0 ≤ y ∧ y ≤ 11) : Mean 73 #[.pointer (some ⟨b, 0, none⟩)] (shM y) w := by
  refine ⟨enters_sh, fun v w1 hv hb => ?_⟩
  refine (shift1_any b v y w1 (h.keep hb) hv hy).mono ?_
  rintro e w2 ⟨⟨g, rfl, hi⟩, hb2⟩
  exact ⟨⟨_, 1, rfl, Or.inr ⟨g, 0, rfl, hi⟩⟩, hb2⟩

set_option maxRecDepth 20000 in
set_option maxHeartbeats 3200000 in
theorem implShift_any (b off n c b' off' m c' : Nat) (N : Nat → ByteArray) (A T : Nat → Int) (y : Int) (w : World) (h : Syms w b off n N A) (h' : Ints w b' off' m T) (hk : Kept n N A) (hm : m ≤ 1048576) :
    Calls Try.prog 36 #[.agg #[.slice (some ⟨b, off, none⟩) n c], .slice (some ⟨b', off', none⟩) m c', .int .i64 y] w fun e w' => ListAns w (shC n N A m T y) m (shT y T) e w' ∧ Below w.heap.size w w' := by
  have D := hidden (One.new w (.slice (some ⟨b, off, none⟩) n c) 34)
  have B := hidden (alloc_below w (.cells #[.slice (some ⟨b, off, none⟩) n c] 34))
  obtain ⟨wa, hwa⟩ : ∃ wa, wa = w.alloc (.cells #[.slice (some ⟨b, off, none⟩) n c] 34) := ⟨_, rfl⟩
  have sa : wa.heap.size = w.heap.size + 1 := by rw [hwa]; simp
  rw [← hwa] at D B
  have Y := hidden (One.new wa (.int .i64 y) 2)
  have hb1 := alloc_below wa (.cells #[.int .i64 y] 2)
  obtain ⟨wb, hwb⟩ : ∃ wb, wb = wa.alloc (.cells #[.int .i64 y] 2) := ⟨_, rfl⟩
  have sb : wb.heap.size = w.heap.size + 1 + 1 := by rw [hwb]; simp [sa]
  rw [← hwb] at Y hb1
  have R := hidden (Res.new wb (.int .i64 0) (.slice none 0 0) 42)
  have hb2 := alloc_below wb (.cells #[.int .i64 0, .slice none 0 0] 42)
  replace D := hidden ((D.out.keep hb1).keep hb2)
  replace Y := hidden (Y.out.keep hb2)
  replace B := hidden (keepB (keepB B.out hb1) hb2)
  rw [sa] at Y
  rw [sb] at R
  rw [hwb, hwa] at D Y R B
  clear hb1 hb2 sa sb hwa hwb wa wb
  have Q := hidden (h.keep B.out)
  have I := hidden (h'.keep B.out)
  have HK := hidden hk
  clear h h' hk
  have d0 := D.out.c0
  go_enter Try.func36, Try.ntmps36
  go_wp2_with fail
  with_reducible refine (implTerm_any _ _ _ _ _ _ _ _ N A T _ Q.out I.out HK.out hm).mono ?_
  rintro e w1 ⟨rfl, hb⟩
  replace Y := hidden (Y.out.keep hb)
  replace R := hidden (R.out.keep hb)
  replace B := hidden (keepB B.out hb)
  replace I := hidden (I.out.keep hb)
  clear hb D Q d0
  by_cases hf : termF n N A m T = 0
  · have HF := hidden hf
    have HT := hidden (term_right hf)
    rw [hf]
    clear hf
    have y0 := Y.out.c0
    by_cases hy0 : y < 0
    · have HA := hidden (sh_range (y := y) HF.out (by omega))
      obtain ⟨_, q0, q1, f0, f1⟩ := id R.out
      go_wp2
      exact bodyPost_ret (v := .agg #[.int .i64 3, .slice none 0 0]) (by simp [results, Try.results36, go_sem, q0, q1]) rfl ⟨Or.inl ⟨by rw [HA.out]; decide, by rw [HA.out]⟩, (B.out.setCell (by simp; omega) _).setCell (by simp; omega) _⟩
    · by_cases hy1 : 12 ≤ y
      · have HA := hidden (sh_range (y := y) HF.out (by omega))
        obtain ⟨_, q0, q1, f0, f1⟩ := id R.out
        go_wp2
        exact bodyPost_ret (v := .agg #[.int .i64 3, .slice none 0 0]) (by simp [results, Try.results36, go_sem, q0, q1]) rfl ⟨Or.inl ⟨by rw [HA.out]; decide, by rw [HA.out]⟩, (B.out.setCell (by simp; omega) _).setCell (by simp; omega) _⟩
      · have HY := hidden (show 0 ≤ y ∧ y ≤ 11 by omega)
        go_wp2_with fail
        with_reducible refine (isBeyond_any _ _ _ _ n A T y _ I.out HT.out.nods HY.out).mono ?_
        rintro e w2 ⟨rfl, hb⟩
        replace Y := hidden (Y.out.keep hb)
        replace R := hidden (R.out.keep hb)
        replace B := hidden (keepB B.out hb)
        replace I := hidden (I.out.keep hb)
        clear hb y0
        generalize hz : anyOut y (flt (mkV T m) 0 12) = ib
        cases ib
        · have HA := hidden (sh_ok (N := N) HF.out HY.out (fun x => by rw [(out_vars HT.out.nods).2 x] at hz; cases hz))
          clear hz
          have HE := hidden (sh_putL (y := y) m (fun i hi => (sh_nodes HT.out.nods i hi).1))
          have S := hidden (putIn_any _ #[.pointer (some ⟨w.heap.size + 1, 0, none⟩)] (shM y) b' off' m c' T w2 (shift1_mean _ y w2 Y.out HY.out) I.out HT.out.pos HT.out.nods.most (fun i hi => (sh_nodes HT.out.nods i hi).1) (fun v => by simp [shM]))
          rw [HE.out, upto_length] at S
          have hm24 := HT.out.nods.most
          rw [if_neg (by omega)] at S
          go_wp2_with fail
          with_reducible refine S.out.mono ?_
          rintro e w3 ⟨ha, hb⟩
          rcases ha with ⟨ha, -⟩ | ⟨-, g, d, rfl, hg, ho⟩
          · exact absurd rfl ha
          have RB := hidden (Nat.lt_of_lt_of_le R.out.blk hg)
          replace R := hidden (R.out.keep hb)
          replace B := hidden (keepB B.out hb)
          have O := hidden ho
          clear ho hb hg S
          obtain ⟨_, q0, q1, f0, f1⟩ := id R.out
          go_wp2
          have rb := RB.out
          refine bodyPost_ret (v := .agg #[.int .i64 0, .slice (some ⟨g, 0, none⟩) m d]) (by simp [results, Try.results36, go_sem, q0, q1]) rfl ⟨Or.inr ⟨HA.out, g, d, rfl, by omega, ?_⟩, (B.out.setCell (by simp; omega) _).setCell (by simp; omega) _⟩
          have o2 : OwnI w3 w2.heap.size g m d (shT y T) m := by
            obtain ⟨xs, ow, hx⟩ := O.out
            exact ⟨xs, ow, fun i hi => by rw [hx i hi]; simp [upto, hi]⟩
          exact ((o2.other _ _ (by show g ≠ w.heap.size + 1 + 1; omega)).other _ _ (by show g ≠ w.heap.size + 1 + 1; omega)).base (by omega)
        · have HA := hidden (sh_out (N := N) HF.out ((out_vars HT.out.nods).1 hz))
          clear hz
          obtain ⟨_, q0, q1, f0, f1⟩ := id R.out
          go_wp2
          exact bodyPost_ret (v := .agg #[.int .i64 3, .slice none 0 0]) (by simp [results, Try.results36, go_sem, q0, q1]) rfl ⟨Or.inl ⟨by rw [HA.out]; decide, by rw [HA.out]⟩, (B.out.setCell (by simp; omega) _).setCell (by simp; omega) _⟩
  · have HA := hidden (sh_fault (y := y) hf)
    have HN := hidden hf
    have hf' : (termF n N A m T != 0) = true := by simpa using hf
    generalize termF n N A m T = z at *
    clear hf
    obtain ⟨_, q0, q1, f0, f1⟩ := id R.out
    go_wp2
    exact bodyPost_ret (v := .agg #[.int .i64 z, .slice none 0 0]) (by simp [results, Try.results36, go_sem, q0, q1]) rfl ⟨Or.inl ⟨by rw [HA.out]; exact HN.out, by rw [HA.out]⟩, (B.out.setCell (by simp; omega) _).setCell (by simp; omega) _⟩

end Go.Proofs.Ytmoahjkfcfojoaa
