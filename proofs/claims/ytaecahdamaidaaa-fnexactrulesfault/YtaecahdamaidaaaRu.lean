/- Contracts: the fault of rules, as the model and as the program tells it. -/
import Derived.Test.YtaecahdamaidaaaEqsF
import Derived.Test.YtaecahdamaidaaaCount
import Derived.Test.YtaecahdamaidaaaApplyI
namespace Go.Proofs.Ytaecahdamaidaaa
open Go.RowKit

/-- A variable that the left side has not. -/
def badV (L1 : Nat → Int) (m1 : Nat) (x : Int) : Prop := x < 0 ∧ ∀ i, i < m1 → L1 i ≠ x

/-- An equation that is no rule. -/
def noRu (D : EqL) (i : Nat) : Prop := D.L1 i 0 < 0 ∨ ∃ j, j < D.m2 i ∧ badV (D.L1 i) (D.m1 i) (D.L2 i j)

open Classical in
noncomputable def badB (L1 : Nat → Int) (m1 : Nat) (x : Int) : Bool := decide (badV L1 m1 x)
open Classical in
noncomputable def anyBad (L1 : Nat → Int) (m1 : Nat) (L2 : Nat → Int) (m2 : Nat) : Bool := decide (∃ j, j < m2 ∧ badV L1 m1 (L2 j))

open Classical in
theorem badB_iff {L1 : Nat → Int} {m1 : Nat} {x : Int} : badB L1 m1 x = true ↔ badV L1 m1 x := by unfold badB; exact decide_eq_true_iff
theorem badB_not {L1 : Nat → Int} {m1 : Nat} {x : Int} (h : ¬ badV L1 m1 x) : badB L1 m1 x = false := by
  cases hh : badB L1 m1 x with
  | false => rfl
  | true => exact absurd (badB_iff.1 hh) h
open Classical in
theorem anyBad_iff {L1 : Nat → Int} {m1 : Nat} {L2 : Nat → Int} {m2 : Nat} : anyBad L1 m1 L2 m2 = true ↔ ∃ j, j < m2 ∧ badV L1 m1 (L2 j) := by unfold anyBad; exact decide_eq_true_iff
theorem anyBad_not {L1 : Nat → Int} {m1 : Nat} {L2 : Nat → Int} {m2 : Nat} (h : ¬ ∃ j, j < m2 ∧ badV L1 m1 (L2 j)) : anyBad L1 m1 L2 m2 = false := by
  cases hh : anyBad L1 m1 L2 m2 with
  | false => rfl
  | true => exact absurd (anyBad_iff.1 hh) h

open Classical in
/-- The fault of rules. -/
noncomputable def ruF (n : Nat) (N : Nat → ByteArray) (A : Nat → Int) (m : Nat) (D : EqL) : Int :=
  if eqsF n N A m D = 0 then (if ∃ i, i < m ∧ noRu D i then 1 else 0) else eqsF n N A m D

section
variable {n : Nat} {N : Nat → ByteArray} {A : Nat → Int} {m : Nat} {D : EqL}
theorem ru_fault (h : eqsF n N A m D ≠ 0) : ruF n N A m D = eqsF n N A m D := by rw [ruF, if_neg h]
theorem ru_bad (h : eqsF n N A m D = 0) {i : Nat} (hi : i < m) (hb : noRu D i) : ruF n N A m D = 1 := by rw [ruF, if_pos h, if_pos ⟨i, hi, hb⟩]
theorem ru_ok (h : eqsF n N A m D = 0) (hb : ∀ i, i < m → ¬ noRu D i) : ruF n N A m D = 0 := by
  rw [ruF, if_pos h, if_neg]; rintro ⟨i, hi, e⟩; exact hb i hi e

theorem eqF_trm {m1 : Nat} {L1 : Nat → Int} {m2 : Nat} {L2 : Nat → Int} (h : eqF n N A m1 L1 m2 L2 = 0) : Trm n A m1 L1 ∧ Trm n A m2 L2 := by
  by_cases h1 : termF n N A m1 L1 = 0
  · by_cases h2 : termF n N A m2 L2 = 0
    · exact ⟨term_right h1, term_right h2⟩
    · rw [eqF_right h1 h2] at h; exact absurd h h2
  · rw [eqF_left h1] at h; exact absurd h h1

/-- Equations without a fault. -/
structure EqOk (n : Nat) (A : Nat → Int) (m : Nat) (D : EqL) : Prop where
  sig : Sound n A
  most : m ≤ 12
  trm : ∀ i, i < m → Trm n A (D.m1 i) (D.L1 i) ∧ Trm n A (D.m2 i) (D.L2 i)

theorem eqs_sig (h : eqsF n N A m D = 0) : faultF n N A = 0 := by
  refine Classical.byContradiction fun hf => ?_
  rw [eqs_fault hf] at h; exact hf h
theorem eqs_ok (h : eqsF n N A m D = 0) : EqOk n A m D := by
  have hf := eqs_sig h
  by_cases hm : 12 < m
  · rw [eqs_many hf hm] at h; omega
  · rw [eqs_to hf hm] at h
    exact ⟨fault_sound hf, by omega, fun i hi => eqF_trm (eqsTo_each m h i hi)⟩

/-- Rules without a fault. -/
structure RuOk (n : Nat) (A : Nat → Int) (m : Nat) (D : EqL) : Prop where
  eqs : EqOk n A m D
  rule : ∀ i, i < m → ¬ noRu D i

theorem ru_eqs (h : ruF n N A m D = 0) : eqsF n N A m D = 0 := by
  refine Classical.byContradiction fun hf => ?_
  rw [ru_fault hf] at h; exact hf h
theorem ru_right (h : ruF n N A m D = 0) : RuOk n A m D := by
  have he := ru_eqs h
  refine ⟨eqs_ok he, fun i hi hb => ?_⟩
  rw [ru_bad he hi hb] at h; omega
theorem ru_sig (h : faultF n N A ≠ 0) : ruF n N A m D = faultF n N A := by
  have e := eqs_fault (m := m) (D := D) h
  rw [ru_fault (by rw [e]; exact h), e]
end

theorem cntN_zero {T : Nat → Int} {x : Int} : ∀ k, cntN T x k = 0 ↔ ∀ i, i < k → T i ≠ x
  | 0 => by simp [cntN]
  | k + 1 => by
    have ih := cntN_zero (T := T) (x := x) k
    simp only [cntN]
    constructor
    · intro h i hi
      by_cases e : i = k
      · subst e
        intro e2
        rw [if_pos e2] at h
        omega
      · exact ih.1 (by omega) i (by omega)
    · intro h
      rw [ih.2 (fun i hi => h i (by omega)), if_neg (h k (by omega))]

theorem bdI_no {V : Nat → Int} {v : Int} : ∀ k, bdI V v k = none → ∀ i, i < k → V i ≠ v
  | 0, _, i, hi => by omega
  | k + 1, h, i, hi => by
    simp only [bdI] at h
    cases hb : bdI V v k with
    | some j => rw [hb] at h; simp at h
    | none =>
      rw [hb] at h
      simp only at h
      have hk : V k ≠ v := by
        intro e
        rw [if_pos e] at h
        cases h
      by_cases e : i = k
      · rw [e]; exact hk
      · exact bdI_no k hb i (by omega)

theorem ixV_no {V : Nat → Int} {v : Int} {m : Nat} : ixV V v m < 0 ↔ ∀ i, i < m → V i ≠ v := by
  cases hb : bdI V v m with
  | some i =>
    rw [ixV_some hb]
    have := bdI_some m i hb
    constructor
    · intro h; omega
    · intro h; exact absurd this.2 (h i this.1)
  | none =>
    rw [ixV_none hb]
    exact ⟨fun _ => bdI_no m hb, fun _ => by omega⟩

set_option maxRecDepth 20000 in
set_option maxHeartbeats 3200000 in
theorem l8Fault_any (B b off n c b' off' m c' : Nat) (N : Nat → ByteArray) (A : Nat → Int) (D : EqL) (w : World) (hd : One w B (.slice (some ⟨b, off, none⟩) n c)) (h : Syms w b off n N A) (h' : Eqs w b' off' m D) (hf : faultF n N A = 0) (hk : KeptE m D) :
    Calls Try.prog 56 #[.pointer (some ⟨B, 0, none⟩), .slice (some ⟨b', off', none⟩) m c'] w fun e w' => e = .returned (.int .i64 (ruF n N A m D)) ∧ Below w.heap.size w w' := by
  have hm := hk.most
  have Q := hidden h
  have X := hidden h'
  have HD := hidden hd
  have HF := hidden hf
  have HK := hidden hk
  clear h h' hd hf hk
  go_enter Try.func56, Try.ntmps56
  go_wp2_with fail
  with_reducible refine (l5Fault_any _ _ _ _ _ _ _ _ _ N A D _ HD.out Q.out X.out HF.out HK.out).mono ?_
  rintro e w1 ⟨rfl, hb⟩
  replace X := hidden (X.out.keep hb)
  have B1 := hidden hb
  clear hb HD Q HF HK
  by_cases hz : eqsF n N A m D = 0
  · have E := hidden (eqs_ok hz)
    have RB := hidden (fun i hi (hb : noRu D i) => ru_bad hz (i := i) hi hb)
    have RO := hidden (fun h => ru_ok hz h)
    rw [hz]
    clear hz
    go_wp2
    go_loopw [6] (fun i wr => ∃ k : Nat, k ≤ m ∧ i = .int .i64 (k : Nat) ∧ Hid ((∀ i, i < k → ¬ noRu D i) ∧ Below w1.heap.size w1 wr)) (fun i _ => m - (intOf i).toNat)
    case atStart => exact ⟨0, Nat.zero_le _, rfl, hidden ⟨fun i hi => by omega, Below.refl _ _⟩⟩
    case round =>
      obtain ⟨k, hk, rfl, HI⟩ := hrel
      by_cases hlt : k < m
      · obtain ⟨g1, o1, c1, g2, o2, c2, e1, e2, i1, i2⟩ := (X.out.keep HI.out.2).row k hlt
        have TA := hidden (TwoAt.mk (Nat.lt_of_lt_of_le (X.out.blk (by omega)) HI.out.2.size) e1 e2)
        have I1 := hidden i1
        have I2 := hidden i2
        have EK := hidden (E.out.trm k hlt)
        have z1 := i1.cell 0 EK.out.1.pos
        have hp1 := EK.out.1.pos
        have h24 := EK.out.1.nods.most
        have h242 := EK.out.2.nods.most
        have RBK := hidden (RB.out k hlt)
        obtain ⟨x, hx⟩ : ∃ x, x = D.L1 k 0 := ⟨_, rfl⟩
        have HX := hidden hx
        rw [← hx, Nat.add_zero] at z1
        clear hx i1 i2
        by_cases hx0 : x < 0
        · have HR := hidden (RBK.out (Or.inl (by rw [← HX.out]; exact hx0)))
          go_wp2
          go_ret
          exact ⟨by rw [HR.out]; rfl, keepB B1.out HI.out.2⟩
        · have HX0 := hidden hx0
          obtain ⟨mm1, hmm1⟩ : ∃ q, q = D.m1 k := ⟨_, rfl⟩
          obtain ⟨mm2, hmm2⟩ : ∃ q, q = D.m2 k := ⟨_, rfl⟩
          rw [← hmm1] at TA I1 e1 hp1 h24
          rw [← hmm2] at TA I2 e2 h242
          have HM1 := hidden hmm1
          have HM2 := hidden hmm2
          clear hmm1 hmm2
          go_wp2
          clear e1 e2 z1
          go_loopw [7] (fun i wr' => ∃ j : Nat, j ≤ mm2 ∧ i = .int .i64 (j : Nat) ∧ Hid ((∀ i, i < j → ¬ badV (D.L1 k) mm1 (D.L2 k i)) ∧ Below wr.heap.size wr wr')) (fun i _ => mm2 - (intOf i).toNat)
          case atStart => exact ⟨0, Nat.zero_le _, rfl, hidden ⟨fun i hi => by omega, (Below.refl _ _)⟩⟩
          case round =>
            rename_i wr2 _ _
            obtain ⟨j, hj, rfl, HJ⟩ := hrel
            have e1 := (TA.out.keep HJ.out.2).c0
            have e2 := (TA.out.keep HJ.out.2).c1
            by_cases hjlt : j < mm2
            · have z2 := (I2.out.keep HJ.out.2).cell j hjlt
              obtain ⟨y, hy⟩ : ∃ y, y = D.L2 k j := ⟨_, rfl⟩
              have HY := hidden hy
              rw [← hy] at z2
              clear hy
              by_cases hy0 : y < 0
              · go_wp2_with fail
                with_reducible refine (l3Count_any _ _ _ _ (D.L1 k) y _ (I1.out.keep HJ.out.2) (by omega)).mono ?_
                rintro e w3 ⟨rfl, hb⟩
                have B3 := hidden (keepB HJ.out.2 hb)
                clear hb e1 e2 z2
                by_cases hc : cntN (D.L1 k) y mm1 = 0
                · have HR := hidden (RBK.out (Or.inr ⟨j, by rw [← HM2.out]; exact hjlt, by rw [← HY.out]; exact ⟨hy0, by rw [← HM1.out]; exact (cntN_zero _).1 hc⟩⟩))
                  rw [hc]
                  clear hc
                  go_wp2
                  go_ret
                  exact ⟨by rw [HR.out]; rfl, keepB (keepB B1.out HI.out.2) B3.out⟩
                · have HC := hidden hc
                  have hc' : ((cntN (D.L1 k) y mm1 : Int) == 0) = false := by simp; omega
                  generalize (cntN (D.L1 k) y mm1 : Int) = z at *
                  clear hc
                  go_wp2
                  go_roundw
                  case rel => exact ⟨j + 1, by omega, by go_num, hidden ⟨fun i hi => by
                    by_cases e : i = j
                    · rw [e, ← HY.out]; intro hb; exact HC.out ((cntN_zero _).2 hb.2)
                    · exact HJ.out.1 i (by omega), B3.out⟩⟩
                  case measure => simp [intOf]; omega
              · have HC := hidden hy0
                go_wp2
                go_roundw
                case rel => exact ⟨j + 1, by omega, by go_num, hidden ⟨fun i hi => by
                  by_cases e : i = j
                  · rw [e, ← HY.out]; intro hb; exact HC.out hb.1
                  · exact HJ.out.1 i (by omega), HJ.out.2⟩⟩
                case measure => simp [intOf]; omega
            · have HN := hidden (show ¬ noRu D k by
                rintro (h | ⟨i, hi, hb⟩)
                · rw [← HX.out] at h; have := HX0.out; omega
                · rw [← HM2.out] at hi
                  rw [← HM1.out] at hb
                  exact HJ.out.1 i (by omega) hb)
              go_wp2
              go_roundw
              case rel => exact ⟨k + 1, by omega, by go_num, hidden ⟨fun i hi => by
                by_cases e : i = k
                · rw [e]; exact HN.out
                · exact HI.out.1 i (by omega), keepB HI.out.2 HJ.out.2⟩⟩
              case measure => simp [intOf]; omega
      · obtain rfl : m = k := by omega
        have HR := hidden (RO.out HI.out.1)
        go_wp2
        go_ret
        exact ⟨by rw [HR.out]; rfl, keepB B1.out HI.out.2⟩
  · have HR := hidden (ru_fault hz)
    have hz' : (eqsF n N A m D != 0) = true := by simpa using hz
    generalize eqsF n N A m D = z at *
    clear hz
    go_wp2
    go_ret
    exact ⟨by rw [HR.out]; rfl, B1.out⟩

set_option maxRecDepth 20000 in
set_option maxHeartbeats 800000 in
theorem specRu_any (b off n c b' off' m c' : Nat) (N : Nat → ByteArray) (A : Nat → Int) (D : EqL) (w : World) (h : Syms w b off n N A) (h' : Eqs w b' off' m D) (hk : Kept n N A) (hk' : KeptE m D) :
    Calls Try.prog 22 #[.agg #[.slice (some ⟨b, off, none⟩) n c], .slice (some ⟨b', off', none⟩) m c'] w fun e w' => e = .returned (.int .i64 (ruF n N A m D)) ∧ Below w.heap.size w w' := by
  have X := hidden (One.new w (.slice (some ⟨b, off, none⟩) n c) 35)
  have B := hidden (alloc_below w (.cells #[.slice (some ⟨b, off, none⟩) n c] 35))
  have Q := hidden (h.keep B.out)
  have I := hidden (h'.keep B.out)
  have HK := hidden hk
  have HK' := hidden hk'
  clear h h' hk hk'
  go_enter Try.func22, Try.ntmps22
  go_wp2_with fail
  with_reducible refine (specFault_all _ _ _ _ N A _ Q.out HK.out).mono ?_
  rintro e w1 ⟨rfl, hb⟩
  replace X := hidden (X.out.keep hb)
  replace B := hidden (keepB B.out hb)
  replace I := hidden (I.out.keep hb)
  replace Q := hidden (Q.out.keep hb)
  clear hb
  by_cases hf : faultF n N A = 0
  · have HF := hidden hf
    rw [hf]
    clear hf
    go_wp2_with fail
    with_reducible refine (l8Fault_any _ _ _ _ _ _ _ _ _ N A D _ X.out Q.out I.out HF.out HK'.out).mono ?_
    rintro e w2 ⟨rfl, hb⟩
    replace B := hidden (keepB B.out hb)
    clear hb
    go_wp2
    go_ret
    exact ⟨rfl, B.out⟩
  · have HR := hidden (ru_sig (m := m) (D := D) hf)
    have hf' : (faultF n N A != 0) = true := by simpa using hf
    generalize faultF n N A = z at *
    clear hf
    go_wp2
    go_ret
    exact ⟨by rw [HR.out]; rfl, B.out⟩

set_option maxRecDepth 20000 in
set_option maxHeartbeats 400000 in
theorem containsI_any (b off m c : Nat) (V : Nat → Int) (v : Int) (w : World) (h : Ints w b off m V) (hm : m ≤ 1048576) :
    Calls Try.prog 100 #[.slice (some ⟨b, off, none⟩) m c, .int .i64 v] w fun e w' => e = .returned (.bool (decide (0 ≤ ixV V v m))) ∧ Below w.heap.size w w' := by
  have H := hidden h
  clear h
  go_enter Try.func100, Try.ntmps100
  go_wp2_with fail
  with_reducible refine (ixAt_any _ _ _ _ V v _ H.out hm).mono ?_
  rintro e w1 ⟨rfl, hb⟩
  have B := hidden hb
  obtain ⟨z, hz⟩ : ∃ z, z = ixV V v m := ⟨_, rfl⟩
  have HZ := hidden hz
  rw [← hz]
  clear hb hz
  go_wp2
  go_ret
  exact ⟨by rw [← HZ.out]; rfl, B.out⟩

set_option maxRecDepth 20000 in
theorem enters_ru : Enters 99 := fun _ _ => rfl

set_option maxRecDepth 20000 in
set_option maxHeartbeats 800000 in
theorem isRule1_any (Bx b1 o1 m1 c1 : Nat) (y : Value) (L1 : Nat → Int) (x : Int) (w : World) (he : Two w Bx (.slice (some ⟨b1, o1, none⟩) m1 c1) y) (h1 : Ints w b1 o1 m1 L1) (hm : m1 ≤ 1048576) (hx : -12 ≤ x) :
    Calls Try.prog 99 #[.int .i64 x, .pointer (some ⟨Bx, 0, none⟩)] w fun e w' => e = .returned (.bool (badB L1 m1 x)) ∧ Below w.heap.size w w' := by
  have X := hidden he
  have I := hidden h1
  clear he h1
  go_enter Try.func99, Try.ntmps99
  go_wp2_with fail
  with_reducible refine (isVariable_any _ _).mono ?_
  rintro e w1 ⟨rfl, hb⟩
  replace X := hidden (X.out.keep hb)
  replace I := hidden (I.out.keep hb)
  have B := hidden hb
  clear hb
  by_cases hv : x < 0
  · rw [show varB x = true by simp [varB]; omega]
    have x0 := X.out.c0
    go_wp2_with fail
    with_reducible refine (containsI_any _ _ _ _ L1 x _ I.out hm).mono ?_
    rintro e w2 ⟨rfl, hb⟩
    replace B := hidden (keepB B.out hb)
    have HR := hidden (show badB L1 m1 x = !decide (0 ≤ ixV L1 x m1) by
      by_cases hi : ixV L1 x m1 < 0
      · rw [badB_iff.2 ⟨hv, ixV_no.1 hi⟩, decide_eq_false (by omega)]; rfl
      · rw [badB_not (fun hh => hi (ixV_no.2 hh.2)), decide_eq_true (by omega)]; rfl)
    clear hb x0
    generalize decide (0 ≤ ixV L1 x m1) = z at *
    go_wp2
    go_ret
    exact ⟨by rw [HR.out]; rfl, B.out⟩
  · rw [show varB x = false by simp [varB]; omega]
    have HR := hidden (show badB L1 m1 x = false from badB_not (fun hh => hv hh.1))
    clear hv
    go_wp2
    go_ret
    exact ⟨by rw [HR.out]; rfl, B.out⟩

set_option maxRecDepth 20000 in
set_option maxHeartbeats 800000 in
theorem indexRu_any (b2 o2 m2 c2 Bx b1 o1 m1 c1 : Nat) (y : Value) (L1 L2 : Nat → Int) (w : World) (h2 : Ints w b2 o2 m2 L2) (he : Two w Bx (.slice (some ⟨b1, o1, none⟩) m1 c1) y) (h1 : Ints w b1 o1 m1 L1) (hm1 : m1 ≤ 24) (hm2 : m2 ≤ 24) (hx : ∀ i, i < m2 → -12 ≤ L2 i) :
    Calls Try.prog 124 #[.slice (some ⟨b2, o2, none⟩) m2 c2, .func (Fn.func 99) #[] #[.pointer (some ⟨Bx, 0, none⟩)]] w fun e w' => (∃ r : Int, e = .returned (.int .i64 r) ∧ (decide (0 ≤ r) = anyBad L1 m1 L2 m2)) ∧ Below w.heap.size w w' := by
  have H := hidden h2
  have X := hidden he
  have I := hidden h1
  have HX := hidden hx
  clear h2 he h1 hx
  go_enter Try.func124, Try.ntmps124
  go_wp2_with fail
  go_loopw [8] (fun i wr => ∃ k : Nat, k ≤ m2 ∧ i = .int .i64 k ∧ Hid (∀ i, i < k → ¬ badV L1 m1 (L2 i)) ∧ Hid (Below w.heap.size w wr)) (fun i _ => m2 - (intOf i).toNat)
  case atStart => exact ⟨0, Nat.zero_le _, rfl, hidden (fun i hi => by omega), hidden (Below.refl _ _)⟩
  case round =>
    obtain ⟨k, hk, rfl, HE, HB⟩ := hrel
    by_cases hlt : k < m2
    · have c1 := (H.out.keep HB.out).cell k hlt
      have HXk := hidden (HX.out k hlt)
      obtain ⟨x, hx⟩ : ∃ x, x = L2 k := ⟨_, rfl⟩
      have HXX := hidden hx
      simp only [← hx] at c1 HXk
      clear hx
      go_wp2_with fail
      with_reducible refine (isRule1_any _ _ _ _ _ _ _ x _ (X.out.keep HB.out) (I.out.keep HB.out) (by omega) HXk.out).mono ?_
      rintro e w1 ⟨rfl, hb⟩
      have B1 := hidden (keepB HB.out hb)
      clear hb c1 HB
      by_cases hz : badV L1 m1 x
      · have HR := hidden (show anyBad L1 m1 L2 m2 = true from anyBad_iff.2 ⟨k, hlt, by rw [← HXX.out]; exact hz⟩)
        rw [badB_iff.2 hz]
        clear hz
        go_wp2
        go_ret
        exact ⟨⟨_, rfl, by rw [HR.out]; simp⟩, B1.out⟩
      · have HR := hidden hz
        rw [badB_not hz]
        clear hz
        go_wp2
        go_roundw
        case rel => exact ⟨k + 1, by omega, by go_num, hidden (fun j hj => by
          by_cases e : j = k
          · rw [e, ← HXX.out]; exact HR.out
          · exact HE.out j (by omega)), B1⟩
        case measure => simp [intOf]; omega
    · have HR := hidden (show anyBad L1 m1 L2 m2 = false from anyBad_not (by
        rintro ⟨i, hi, e⟩
        exact HE.out i (by omega) e))
      go_wp2
      go_ret
      exact ⟨⟨_, rfl, by rw [HR.out]; rfl⟩, HB.out⟩

set_option maxRecDepth 20000 in
set_option maxHeartbeats 400000 in
theorem containsRu_any (p : Option Addr) (n c bx : Nat) (z : Bool) (w : World)
    (h : Calls Try.prog 124 #[.slice p n c, .func (Fn.func 99) #[] #[.pointer (some ⟨bx, 0, none⟩)]] w fun e w' => (∃ r : Int, e = .returned (.int .i64 r) ∧ (decide (0 ≤ r) = z)) ∧ Below w.heap.size w w') :
    Calls Try.prog 98 #[.slice p n c, .func (Fn.func 99) #[] #[.pointer (some ⟨bx, 0, none⟩)]] w fun e w' => e = .returned (.bool z) ∧ Below w.heap.size w w' := by
  have H := hidden h
  clear h
  go_enter Try.func98, Try.ntmps98
  go_wp2_with fail
  with_reducible refine H.out.mono ?_
  rintro e w1 ⟨⟨r, rfl, hr⟩, hb⟩
  have HR := hidden hr
  have B := hidden hb
  clear hr hb
  go_wp2
  go_ret
  exact ⟨by rw [← HR.out]; rfl, B.out⟩

noncomputable def ruB (L1 : Nat → Int) (m1 : Nat) (L2 : Nat → Int) (m2 : Nat) : Bool := decide (¬ L1 0 < 0) && !anyBad L1 m1 L2 m2

theorem ruB_no {D : EqL} {k : Nat} : ruB (D.L1 k) (D.m1 k) (D.L2 k) (D.m2 k) = true ↔ ¬ noRu D k := by
  unfold ruB noRu
  rw [Bool.and_eq_true, decide_eq_true_iff, Bool.not_eq_true']
  constructor
  · rintro ⟨h1, h2⟩ (hh | hh)
    · exact h1 hh
    · rw [anyBad_iff.2 hh] at h2; cases h2
  · intro h
    exact ⟨fun x => h (Or.inl x), anyBad_not (fun x => h (Or.inr x))⟩

set_option maxRecDepth 20000 in
set_option maxHeartbeats 1600000 in
theorem isRule_any (b1 o1 m1 c1 b2 o2 m2 c2 : Nat) (L1 L2 : Nat → Int) (w : World) (h1 : Ints w b1 o1 m1 L1) (h2 : Ints w b2 o2 m2 L2) (hp : 0 < m1) (hm1 : m1 ≤ 24) (hm2 : m2 ≤ 24) (hx0 : -12 ≤ L1 0) (hx : ∀ i, i < m2 → -12 ≤ L2 i) :
    Calls Try.prog 59 #[.agg #[.slice (some ⟨b1, o1, none⟩) m1 c1, .slice (some ⟨b2, o2, none⟩) m2 c2]] w fun e w' => e = .returned (.bool (ruB L1 m1 L2 m2)) ∧ Below w.heap.size w w' := by
  have hmf : ∀ (fn : Fn) (first cap : Array Value) (w : World), (Instr.makeFunc fn first cap).run Try.prog w = .ok (.func fn first cap) w := fun _ _ _ _ => rfl
  have X := hidden (Two.new w (.slice (some ⟨b1, o1, none⟩) m1 c1) (.slice (some ⟨b2, o2, none⟩) m2 c2) 79)
  have B := hidden (alloc_below w (.cells #[.slice (some ⟨b1, o1, none⟩) m1 c1, .slice (some ⟨b2, o2, none⟩) m2 c2] 79))
  have I1 := hidden (h1.keep B.out)
  have I2 := hidden (h2.keep B.out)
  have HX := hidden hx
  have z1 := I1.out.cell 0 hp
  obtain ⟨x, hxx⟩ : ∃ x, x = L1 0 := ⟨_, rfl⟩
  have HXX := hidden hxx
  rw [← hxx] at z1 hx0
  rw [Nat.add_zero] at z1
  clear h1 h2 hx hxx
  go_enter Try.func59, Try.ntmps59
  go_wp2_with fail
  with_reducible refine (isVariable_any _ _).mono ?_
  rintro e w1 ⟨rfl, hb⟩
  replace X := hidden (X.out.keep hb)
  replace I1 := hidden (I1.out.keep hb)
  replace I2 := hidden (I2.out.keep hb)
  replace B := hidden (keepB B.out hb)
  clear hb z1
  by_cases hv : x < 0
  · have HR := hidden (show ruB L1 m1 L2 m2 = false by unfold ruB; rw [decide_eq_false (by rw [← HXX.out]; exact fun h => h hv)]; rfl)
    rw [show varB x = true by simp [varB]; omega]
    clear hv
    go_wp2
    go_ret
    exact ⟨by rw [HR.out]; rfl, B.out⟩
  · have HR := hidden (show ruB L1 m1 L2 m2 = !anyBad L1 m1 L2 m2 by unfold ruB; rw [decide_eq_true (by rw [← HXX.out]; exact hv)]; rfl)
    rw [show varB x = false by simp [varB]; omega]
    clear hv
    have x1 := X.out.c1
    go_wp2_with fail
    with_reducible refine (containsRu_any _ _ _ _ _ _ (indexRu_any _ _ _ _ _ _ _ _ _ _ L1 L2 _ I2.out X.out I1.out hm1 hm2 HX.out)).mono ?_
    rintro e w2 ⟨rfl, hb⟩
    replace B := hidden (keepB B.out hb)
    clear hb x1
    generalize anyBad L1 m1 L2 m2 = z at *
    go_wp2
    go_ret
    exact ⟨by rw [HR.out]; rfl, B.out⟩

set_option maxRecDepth 20000 in
set_option maxHeartbeats 1600000 in
theorem implRu_any (b off n c b' off' m c' : Nat) (N : Nat → ByteArray) (A : Nat → Int) (D : EqL) (w : World) (h : Syms w b off n N A) (h' : Eqs w b' off' m D) (hk : Kept n N A) (hk' : KeptE m D) :
    Calls Try.prog 24 #[.agg #[.slice (some ⟨b, off, none⟩) n c], .slice (some ⟨b', off', none⟩) m c'] w fun e w' => e = .returned (.int .i64 (ruF n N A m D)) ∧ Below w.heap.size w w' := by
  have B := hidden (alloc_below w (.cells #[.slice (some ⟨b, off, none⟩) n c] 35))
  have Q := hidden (h.keep B.out)
  have I := hidden (h'.keep B.out)
  have HK := hidden hk
  have HK' := hidden hk'
  have hm := hk'.most
  clear h h' hk hk'
  go_enter Try.func24, Try.ntmps24
  go_wp2_with fail
  with_reducible refine (implEqs_any _ _ _ _ _ _ _ _ N A D _ Q.out I.out HK.out HK'.out).mono ?_
  rintro e w1 ⟨rfl, hb⟩
  replace B := hidden (keepB B.out hb)
  replace I := hidden (I.out.keep hb)
  clear hb Q
  by_cases hz : eqsF n N A m D = 0
  · have E := hidden (eqs_ok hz)
    have RB := hidden (fun i hi (hb : noRu D i) => ru_bad hz (i := i) hi hb)
    have RO := hidden (fun h => ru_ok hz h)
    rw [hz]
    clear hz
    go_wp2
    go_loopw [16] (fun i wr => ∃ k : Nat, k ≤ m ∧ i = .int .i64 (k : Nat) ∧ Hid ((∀ i, i < k → ¬ noRu D i) ∧ Below w1.heap.size w1 wr)) (fun i _ => m - (intOf i).toNat)
    case atStart => exact ⟨0, Nat.zero_le _, rfl, hidden ⟨fun i hi => by omega, Below.refl _ _⟩⟩
    case round =>
      obtain ⟨k, hk, rfl, HI⟩ := hrel
      by_cases hlt : k < m
      · obtain ⟨g1, o1, c1, g2, o2, c2, e1, e2, i1, i2⟩ := (I.out.keep HI.out.2).row k hlt
        have BA := hidden (alloc_below wr (.cells #[.slice (some ⟨g1, o1, none⟩) (D.m1 k) c1, .slice (some ⟨g2, o2, none⟩) (D.m2 k) c2] 79))
        have I1 := hidden (i1.keep BA.out)
        have I2 := hidden (i2.keep BA.out)
        have B1 := hidden (keepB HI.out.2 BA.out)
        have EK := hidden (E.out.trm k hlt)
        have RBK := hidden (RB.out k hlt)
        have ge : ∀ {mm : Nat} {LL : Nat → Int}, Trm n A mm LL → ∀ i, i < mm → -12 ≤ LL i := fun ht i hi => by rcases nodeB_cases (ht.nods.node i hi) with ⟨j, e, hj⟩ | hv <;> omega
        have S := hidden (isRule_any g1 o1 (D.m1 k) c1 g2 o2 (D.m2 k) c2 (D.L1 k) (D.L2 k) _ I1.out I2.out EK.out.1.pos EK.out.1.nods.most EK.out.2.nods.most (ge EK.out.1 0 EK.out.1.pos) (ge EK.out.2))
        clear i1 i2 ge
        go_wp2_with fail
        with_reducible refine S.out.mono ?_
        rintro e w2 ⟨rfl, hb⟩
        replace B1 := hidden (keepB B1.out hb)
        clear hb I1 I2 BA e1 e2 S EK
        by_cases hz : noRu D k
        · have HN := hidden (RBK.out hz)
          rw [show ruB (D.L1 k) (D.m1 k) (D.L2 k) (D.m2 k) = false by
            cases hh : ruB (D.L1 k) (D.m1 k) (D.L2 k) (D.m2 k) with
            | false => rfl
            | true => exact absurd hz (ruB_no.1 hh)]
          clear hz
          go_wp2
          go_ret
          exact ⟨by rw [HN.out]; rfl, keepB B.out B1.out⟩
        · have HN := hidden hz
          rw [ruB_no.2 hz]
          clear hz
          go_wp2
          go_roundw
          case rel => exact ⟨k + 1, by omega, by go_num, hidden ⟨fun i hi => by
            by_cases e : i = k
            · rw [e]; exact HN.out
            · exact HI.out.1 i (by omega), B1.out⟩⟩
          case measure => simp [intOf]; omega
      · obtain rfl : m = k := by omega
        have HR := hidden (RO.out HI.out.1)
        go_wp2
        go_ret
        exact ⟨by rw [HR.out]; rfl, keepB B.out HI.out.2⟩
  · have HR := hidden (ru_fault hz)
    have hz' : (eqsF n N A m D != 0) = true := by simpa using hz
    generalize eqsF n N A m D = z at *
    clear hz
    go_wp2
    go_ret
    exact ⟨by rw [HR.out]; rfl, B.out⟩

end Go.Proofs.Ytaecahdamaidaaa
