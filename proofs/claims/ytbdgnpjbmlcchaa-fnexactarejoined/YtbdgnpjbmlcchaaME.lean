/- Several texts as one: Ground, EqnF, Eqs, EqsF, Count, ApplyI, Ru. -/
import Derived.Test.YtbdgnpjbmlcchaaTermF
import Derived.Test.YtbdgnpjbmlcchaaEqn
import Derived.Test.YtbdgnpjbmlcchaaSameT
import Derived.Test.YtbdgnpjbmlcchaaApply
/- Contracts: whether a term has no variable, as the model and as the program asks it. -/
namespace Go.Proofs.Ytbdgnpjbmlcchaa
open Go.RowKit

open Classical in
noncomputable def gndB (m : Nat) (T : Nat → Int) : Bool := decide (∀ i, i < m → 0 ≤ T i)
open Classical in
noncomputable def hasVar (m : Nat) (T : Nat → Int) : Bool := decide (∃ i, i < m ∧ varB (T i) = true)

open Classical in
/-- What IsGround answers. -/
noncomputable def grB (n : Nat) (N : Nat → ByteArray) (A : Nat → Int) (m : Nat) (T : Nat → Int) : Bool := decide (termF n N A m T = 0 ∧ ∀ i, i < m → 0 ≤ T i)

set_option maxRecDepth 20000 in
set_option maxHeartbeats 400000 in
theorem indexVar_any (b off m c : Nat) (T : Nat → Int) (w : World) (h : Ints w b off m T) (hm : m ≤ 1048576) :
    Calls Try.prog 94 #[.slice (some ⟨b, off, none⟩) m c, .func (Fn.func 75) #[] #[]] w fun e w' => (∃ r : Int, e = .returned (.int .i64 r) ∧ (decide (0 ≤ r) = hasVar m T)) ∧ Below w.heap.size w w' := by
  go_enter Try.func94, Try.ntmps94
  go_wp2_with fail
  go_loopw [8] (fun i wr => ∃ k : Nat, k ≤ m ∧ i = .int .i64 k ∧ Hid (∀ i, i < k → varB (T i) = false) ∧ Hid (Below w.heap.size w wr)) (fun i _ => m - (intOf i).toNat)
  case atStart => exact ⟨0, Nat.zero_le _, rfl, hidden (fun i hi => by omega), hidden (Below.refl _ _)⟩
  case round =>
    obtain ⟨k, hk, rfl, HE, HB⟩ := hrel
    by_cases hlt : k < m
    · have c1 := (h.keep HB.out).cell k hlt
      go_wp2_with fail
      with_reducible refine (isVariable_any _ _).mono ?_
      rintro e w1 ⟨rfl, hb⟩
      have B1 := hidden (keepB HB.out hb)
      clear hb c1 HB
      generalize hz : varB (T k) = ib
      cases ib
      · have HR := hidden hz
        clear hz
        go_wp2
        go_roundw
        case rel => exact ⟨k + 1, by omega, by go_num, hidden (fun j hj => by
          by_cases e : j = k
          · rw [e]; exact HR.out
          · exact HE.out j (by omega)), B1⟩
        case measure => simp [intOf]; omega
      · have HR := hidden (show hasVar m T = true by simp only [hasVar, decide_eq_true_eq]; exact ⟨k, hlt, hz⟩)
        clear hz
        go_wp2
        go_ret
        exact ⟨⟨_, rfl, by rw [HR.out]; simp⟩, B1.out⟩
    · have HR := hidden (show hasVar m T = false by
        simp only [hasVar, decide_eq_false_iff_not]
        rintro ⟨i, hi, e⟩
        rw [HE.out i (by omega)] at e; cases e)
      go_wp2
      go_ret
      exact ⟨⟨_, rfl, by rw [HR.out]; rfl⟩, HB.out⟩

set_option maxRecDepth 20000 in
set_option maxHeartbeats 400000 in
theorem containsVar_any (b off m c : Nat) (T : Nat → Int) (w : World) (h : Ints w b off m T) (hm : m ≤ 1048576) :
    Calls Try.prog 76 #[.slice (some ⟨b, off, none⟩) m c, .func (Fn.func 75) #[] #[]] w fun e w' => e = .returned (.bool (hasVar m T)) ∧ Below w.heap.size w w' := by
  go_enter Try.func76, Try.ntmps76
  go_wp2_with fail
  refine (indexVar_any b off m c T w h hm).mono ?_
  rintro e w1 ⟨⟨r, rfl, hr⟩, hb⟩
  have HR := hidden hr
  clear hr
  go_wp2
  go_ret
  exact ⟨by rw [← HR.out]; rfl, hb⟩

theorem gr_fault {n : Nat} {N : Nat → ByteArray} {A : Nat → Int} {m : Nat} {T : Nat → Int} (h : termF n N A m T ≠ 0) : grB n N A m T = false := by simp [grB, h]
theorem gr_gnd {n : Nat} {N : Nat → ByteArray} {A : Nat → Int} {m : Nat} {T : Nat → Int} (h : termF n N A m T = 0) : grB n N A m T = gndB m T := by simp [grB, gndB, h]
theorem gr_var {n : Nat} {N : Nat → ByteArray} {A : Nat → Int} {m : Nat} {T : Nat → Int} (h : termF n N A m T = 0) : grB n N A m T = !hasVar m T := by
  have hN := (term_right h).nods
  rw [gr_gnd h]
  cases e : hasVar m T with
  | true =>
    simp only [hasVar, decide_eq_true_eq] at e
    obtain ⟨i, hi, hv⟩ := e
    simp only [varB, decide_eq_true_eq] at hv
    simp only [gndB, Bool.not_true, decide_eq_false_iff_not]
    intro h; have := h i hi; omega
  | false =>
    simp only [hasVar, decide_eq_false_iff_not] at e
    simp only [gndB, Bool.not_false, decide_eq_true_eq]
    intro i hi
    rcases nodeB_cases (hN.node i hi) with ⟨j, ej, _⟩ | hv
    · omega
    · exact absurd ⟨i, hi, by simp only [varB, decide_eq_true_eq]; exact hv⟩ e

end Go.Proofs.Ytbdgnpjbmlcchaa

/- Contracts: the fault of an equation, as the model and as the program tells it. -/
namespace Go.Proofs.Ytbdgnpjbmlcchaa
open Go.RowKit

open Classical in
noncomputable def lowB (m : Nat) (T : Nat → Int) : Bool := decide (∀ i, i < m → -6 ≤ T i)

/-- What EquationFault answers. -/
noncomputable def eqF (n : Nat) (N : Nat → ByteArray) (A : Nat → Int) (m1 : Nat) (L1 : Nat → Int) (m2 : Nat) (L2 : Nat → Int) : Int :=
  if termF n N A m1 L1 = 0 then (if termF n N A m2 L2 = 0 then (if lowB m1 L1 = true ∧ lowB m2 L2 = true then 0 else 3) else termF n N A m2 L2) else termF n N A m1 L1

section
variable {n : Nat} {N : Nat → ByteArray} {A : Nat → Int} {m1 : Nat} {L1 : Nat → Int} {m2 : Nat} {L2 : Nat → Int}
theorem eqF_left (h : termF n N A m1 L1 ≠ 0) : eqF n N A m1 L1 m2 L2 = termF n N A m1 L1 := by rw [eqF, if_neg h]
theorem eqF_right (h : termF n N A m1 L1 = 0) (h2 : termF n N A m2 L2 ≠ 0) : eqF n N A m1 L1 m2 L2 = termF n N A m2 L2 := by rw [eqF, if_pos h, if_neg h2]
theorem eqF_low (h : termF n N A m1 L1 = 0) (h2 : termF n N A m2 L2 = 0) (h3 : lowB m1 L1 = true) (h4 : lowB m2 L2 = true) : eqF n N A m1 L1 m2 L2 = 0 := by rw [eqF, if_pos h, if_pos h2, if_pos ⟨h3, h4⟩]
theorem eqF_high (h : termF n N A m1 L1 = 0) (h2 : termF n N A m2 L2 = 0) (h3 : lowB m1 L1 = false ∨ lowB m2 L2 = false) : eqF n N A m1 L1 m2 L2 = 3 := by
  rw [eqF, if_pos h, if_pos h2, if_neg]
  rintro ⟨a, b⟩
  rcases h3 with c | c
  · rw [a] at c; cases c
  · rw [b] at c; cases c
end

set_option maxRecDepth 20000 in
set_option maxHeartbeats 400000 in
theorem l4Low_any (b off m c : Nat) (T : Nat → Int) (w : World) (h : Ints w b off m T) (hm : m ≤ 1048576) :
    Calls Try.prog 103 #[.slice (some ⟨b, off, none⟩) m c] w fun e w' => e = .returned (.bool (lowB m T)) ∧ Below w.heap.size w w' := by
  go_enter Try.func103, Try.ntmps103
  go_wp2_with fail
  go_loopw [3] (fun i wr => ∃ k : Nat, k ≤ m ∧ i = .int .i64 k ∧ Hid (∀ i, i < k → -6 ≤ T i) ∧ Hid (Below w.heap.size w wr)) (fun i _ => m - (intOf i).toNat)
  case atStart => exact ⟨0, Nat.zero_le _, rfl, hidden (fun i hi => by omega), hidden (Below.refl _ _)⟩
  case round =>
    obtain ⟨k, hk, rfl, HE, HB⟩ := hrel
    by_cases hlt : k < m
    · have c1 := (h.keep HB.out).cell k hlt
      by_cases hz : T k < -6
      · have HR := hidden (show lowB m T = false by simp only [lowB, decide_eq_false_iff_not]; intro hh; have := hh k hlt; omega)
        go_wp2
        go_ret
        exact ⟨by rw [HR.out]; rfl, HB.out⟩
      · have HZ := hidden hz
        go_wp2
        go_roundw
        case rel => exact ⟨k + 1, by omega, by go_num, hidden (fun j hj => by
          by_cases e : j = k
          · rw [e]; have := HZ.out; omega
          · exact HE.out j (by omega)), HB⟩
        case measure => simp [intOf]; omega
    · have HR := hidden (show lowB m T = true by
        simp only [lowB, decide_eq_true_eq]
        exact fun i hi => HE.out i (by omega))
      go_wp2
      go_ret
      exact ⟨by rw [HR.out]; rfl, HB.out⟩

def beyB (x : Int) : Bool := varB x && decide (x < -6)

set_option maxRecDepth 20000 in
set_option maxHeartbeats 400000 in
theorem variableOfE_any (x : Int) (w : World) (hx : -1000 ≤ x ∧ x ≤ 1000) :
    Calls Try.prog 101 #[.int .i64 x] w fun e w' => e = .returned (.int .i64 (-1 - x)) ∧ Below w.heap.size w w' := by
  go_enter Try.func101, Try.ntmps101
  go_wp2
  go_ret
  exact ⟨by go_num, Below.refl _ _⟩

set_option maxRecDepth 20000 in
set_option maxHeartbeats 400000 in
theorem isBeyond_any (x : Int) (w : World) :
    Calls Try.prog 93 #[.int .i64 x] w fun e w' => e = .returned (.bool (beyB x)) ∧ Below w.heap.size w w' := by
  go_enter Try.func93, Try.ntmps93
  go_wp2_with fail
  with_reducible refine (isVariable_any _ _).mono ?_
  rintro e w1 ⟨rfl, hb⟩
  have B := hidden hb
  clear hb
  generalize hz : varB x = ib
  cases ib
  · have HR := hidden (show beyB x = false by simp [beyB, hz])
    clear hz
    go_wp2
    go_ret
    exact ⟨by rw [HR.out]; rfl, B.out⟩
  · have HR := hidden (show beyB x = decide (x < -6) by simp [beyB, hz])
    have hx : -12 ≤ x ∧ x ≤ -1 := by simpa [varB] using hz
    clear hz
    go_wp2_with fail
    with_reducible refine (variableOfE_any _ _ (by omega)).mono ?_
    rintro e w2 ⟨rfl, hb⟩
    replace B := hidden (keepB B.out hb)
    clear hb
    by_cases h6 : x < -6
    · have q : decide ((6 : Int) ≤ -1 - x) = true := by simp; omega
      have HQ := hidden h6
      clear h6 hx
      go_wp2
      go_ret
      exact ⟨by rw [HR.out]; simp [HQ.out], B.out⟩
    · have q : decide ((6 : Int) ≤ -1 - x) = false := by simp; omega
      have HQ := hidden h6
      clear h6 hx
      go_wp2
      go_ret
      exact ⟨by rw [HR.out]; simp [HQ.out], B.out⟩

open Classical in
noncomputable def hasBey (m : Nat) (T : Nat → Int) : Bool := decide (∃ i, i < m ∧ beyB (T i) = true)

theorem hasBey_low {n : Nat} {A : Nat → Int} {m : Nat} {T : Nat → Int} (h : Nods n A m T) : hasBey m T = !lowB m T := by
  cases hl : lowB m T
  · simp only [lowB, decide_eq_false_iff_not] at hl
    simp only [hasBey, Bool.not_false, decide_eq_true_eq]
    refine Classical.byContradiction fun hc => hl fun i hi => ?_
    refine Classical.byContradiction fun h6 => hc ⟨i, hi, ?_⟩
    rcases nodeB_cases (h.node i hi) with ⟨j, e, _⟩ | ⟨h1, h2⟩
    · omega
    · simp [beyB, varB]; omega
  · simp only [lowB, decide_eq_true_eq] at hl
    simp only [hasBey, Bool.not_true, decide_eq_false_iff_not]
    rintro ⟨i, hi, e⟩
    have := hl i hi
    simp [beyB] at e
    omega

set_option maxRecDepth 20000 in
set_option maxHeartbeats 400000 in
theorem indexBey_any (b off m c : Nat) (T : Nat → Int) (w : World) (h : Ints w b off m T) (hm : m ≤ 1048576) :
    Calls Try.prog 94 #[.slice (some ⟨b, off, none⟩) m c, .func (Fn.func 93) #[] #[]] w fun e w' => (∃ r : Int, e = .returned (.int .i64 r) ∧ (decide (0 ≤ r) = hasBey m T)) ∧ Below w.heap.size w w' := by
  go_enter Try.func94, Try.ntmps94
  go_wp2_with fail
  go_loopw [8] (fun i wr => ∃ k : Nat, k ≤ m ∧ i = .int .i64 k ∧ Hid (∀ i, i < k → beyB (T i) = false) ∧ Hid (Below w.heap.size w wr)) (fun i _ => m - (intOf i).toNat)
  case atStart => exact ⟨0, Nat.zero_le _, rfl, hidden (fun i hi => by omega), hidden (Below.refl _ _)⟩
  case round =>
    obtain ⟨k, hk, rfl, HE, HB⟩ := hrel
    by_cases hlt : k < m
    · have c1 := (h.keep HB.out).cell k hlt
      go_wp2_with fail
      with_reducible refine (isBeyond_any _ _).mono ?_
      rintro e w1 ⟨rfl, hb⟩
      have B1 := hidden (keepB HB.out hb)
      clear hb c1 HB
      generalize hz : beyB (T k) = ib
      cases ib
      · have HR := hidden hz
        clear hz
        go_wp2
        go_roundw
        case rel => exact ⟨k + 1, by omega, by go_num, hidden (fun j hj => by
          by_cases e : j = k
          · rw [e]; exact HR.out
          · exact HE.out j (by omega)), B1⟩
        case measure => simp [intOf]; omega
      · have HR := hidden (show hasBey m T = true by simp only [hasBey, decide_eq_true_eq]; exact ⟨k, hlt, hz⟩)
        clear hz
        go_wp2
        go_ret
        exact ⟨⟨_, rfl, by rw [HR.out]; simp⟩, B1.out⟩
    · have HR := hidden (show hasBey m T = false by
        simp only [hasBey, decide_eq_false_iff_not]
        rintro ⟨i, hi, e⟩
        rw [HE.out i (by omega)] at e; cases e)
      go_wp2
      go_ret
      exact ⟨⟨_, rfl, by rw [HR.out]; rfl⟩, HB.out⟩

set_option maxRecDepth 20000 in
set_option maxHeartbeats 400000 in
theorem containsBey_any (b off m c : Nat) (T : Nat → Int) (w : World) (h : Ints w b off m T) (hm : m ≤ 1048576) :
    Calls Try.prog 76 #[.slice (some ⟨b, off, none⟩) m c, .func (Fn.func 93) #[] #[]] w fun e w' => e = .returned (.bool (hasBey m T)) ∧ Below w.heap.size w w' := by
  go_enter Try.func76, Try.ntmps76
  go_wp2_with fail
  refine (indexBey_any b off m c T w h hm).mono ?_
  rintro e w1 ⟨⟨r, rfl, hr⟩, hb⟩
  have HR := hidden hr
  clear hr
  go_wp2
  go_ret
  exact ⟨by rw [← HR.out]; rfl, hb⟩

set_option maxRecDepth 20000 in
set_option maxHeartbeats 1600000 in
theorem l4Fault_any (B E b off n c b1 o1 m1 c1 b2 o2 m2 c2 : Nat) (N : Nat → ByteArray) (A L1 L2 : Nat → Int) (w : World) (hd : One w B (.slice (some ⟨b, off, none⟩) n c)) (he : Two w E (.slice (some ⟨b1, o1, none⟩) m1 c1) (.slice (some ⟨b2, o2, none⟩) m2 c2)) (h : Syms w b off n N A) (h1 : Ints w b1 o1 m1 L1) (h2 : Ints w b2 o2 m2 L2) (hf : faultF n N A = 0) (hm1 : m1 ≤ 1048576) (hm2 : m2 ≤ 1048576) :
    Calls Try.prog 91 #[.pointer (some ⟨B, 0, none⟩), .pointer (some ⟨E, 0, none⟩)] w fun e w' => e = .returned (.int .i64 (eqF n N A m1 L1 m2 L2)) ∧ Below w.heap.size w w' := by
  have HS := hidden (fault_sound hf)
  have T1 := hidden (term_l (m := m1) (T := L1) hf)
  have T2 := hidden (term_l (m := m2) (T := L2) hf)
  have D := hidden hd
  have X := hidden he
  have Q := hidden h
  have I1 := hidden h1
  have I2 := hidden h2
  clear hf hd he h h1 h2
  have x0 := X.out.c0
  go_enter Try.func91, Try.ntmps91
  go_wp2_with fail
  with_reducible refine (l3Fault_all _ _ _ _ _ _ _ _ _ N A L1 _ D.out Q.out I1.out HS.out hm1).mono ?_
  rintro e w1 ⟨rfl, hb⟩
  have B := hidden hb
  replace D := hidden (D.out.keep hb)
  replace X := hidden (X.out.keep hb)
  replace Q := hidden (Q.out.keep hb)
  replace I1 := hidden (I1.out.keep hb)
  replace I2 := hidden (I2.out.keep hb)
  clear hb x0
  rw [← T1.out]
  by_cases hz : termF n N A m1 L1 = 0
  · have Z1 := hidden hz
    rw [hz]
    clear hz
    have x0 := X.out.c1
    go_wp2_with fail
    with_reducible refine (l3Fault_all _ _ _ _ _ _ _ _ _ N A L2 _ D.out Q.out I2.out HS.out hm2).mono ?_
    rintro e w2 ⟨rfl, hb⟩
    replace B := hidden (keepB B.out hb)
    replace D := hidden (D.out.keep hb)
    replace X := hidden (X.out.keep hb)
    replace I1 := hidden (I1.out.keep hb)
    replace I2 := hidden (I2.out.keep hb)
    clear hb x0
    rw [← T2.out]
    by_cases hz : termF n N A m2 L2 = 0
    · have Z2 := hidden hz
      rw [hz]
      clear hz
      have x0 := X.out.c0
      go_wp2_with fail
      with_reducible refine (l4Low_any _ _ _ _ L1 _ I1.out hm1).mono ?_
      rintro e w3 ⟨rfl, hb⟩
      replace B := hidden (keepB B.out hb)
      replace X := hidden (X.out.keep hb)
      replace I2 := hidden (I2.out.keep hb)
      clear hb x0
      generalize hl : lowB m1 L1 = ib
      cases ib
      · have HR := hidden (eqF_high Z1.out Z2.out (Or.inl hl))
        clear hl
        go_wp2
        go_ret
        exact ⟨by rw [HR.out]; rfl, B.out⟩
      · have HL := hidden hl
        clear hl
        have x0 := X.out.c1
        go_wp2_with fail
        with_reducible refine (l4Low_any _ _ _ _ L2 _ I2.out hm2).mono ?_
        rintro e w4 ⟨rfl, hb⟩
        replace B := hidden (keepB B.out hb)
        clear hb x0
        generalize hl : lowB m2 L2 = ib
        cases ib
        · have HR := hidden (eqF_high Z1.out Z2.out (Or.inr hl))
          clear hl
          go_wp2
          go_ret
          exact ⟨by rw [HR.out]; rfl, B.out⟩
        · have HR := hidden (eqF_low Z1.out Z2.out HL.out hl)
          clear hl
          go_wp2
          go_ret
          exact ⟨by rw [HR.out]; rfl, B.out⟩
    · have HR := hidden (eqF_right Z1.out hz)
      have hz' : (termF n N A m2 L2 != 0) = true := by simpa using hz
      generalize termF n N A m2 L2 = z at *
      clear hz
      go_wp2
      go_ret
      exact ⟨by rw [HR.out]; rfl, B.out⟩
  · have HR := hidden (eqF_left (m2 := m2) (L2 := L2) hz)
    have hz' : (termF n N A m1 L1 != 0) = true := by simpa using hz
    generalize termF n N A m1 L1 = z at *
    clear hz
    go_wp2
    go_ret
    exact ⟨by rw [HR.out]; rfl, B.out⟩

/-- What sidesFault answers. -/
noncomputable def sdF (n : Nat) (N : Nat → ByteArray) (A : Nat → Int) (m1 : Nat) (L1 : Nat → Int) (m2 : Nat) (L2 : Nat → Int) : Int :=
  if termF n N A m1 L1 = 0 then termF n N A m2 L2 else termF n N A m1 L1

theorem sdF_left {n : Nat} {N : Nat → ByteArray} {A : Nat → Int} {m1 : Nat} {L1 : Nat → Int} {m2 : Nat} {L2 : Nat → Int} (h : termF n N A m1 L1 ≠ 0) : sdF n N A m1 L1 m2 L2 = termF n N A m1 L1 := by rw [sdF, if_neg h]
theorem sdF_right {n : Nat} {N : Nat → ByteArray} {A : Nat → Int} {m1 : Nat} {L1 : Nat → Int} {m2 : Nat} {L2 : Nat → Int} (h : termF n N A m1 L1 = 0) : sdF n N A m1 L1 m2 L2 = termF n N A m2 L2 := by rw [sdF, if_pos h]
theorem sdF_both {n : Nat} {N : Nat → ByteArray} {A : Nat → Int} {m1 : Nat} {L1 : Nat → Int} {m2 : Nat} {L2 : Nat → Int} (h : sdF n N A m1 L1 m2 L2 = 0) : termF n N A m1 L1 = 0 ∧ termF n N A m2 L2 = 0 := by
  by_cases h1 : termF n N A m1 L1 = 0
  · exact ⟨h1, by rw [← sdF_right (m2 := m2) (L2 := L2) h1]; exact h⟩
  · rw [sdF_left h1] at h; exact absurd h h1
theorem sdF_eqF {n : Nat} {N : Nat → ByteArray} {A : Nat → Int} {m1 : Nat} {L1 : Nat → Int} {m2 : Nat} {L2 : Nat → Int} (h : sdF n N A m1 L1 m2 L2 ≠ 0) : eqF n N A m1 L1 m2 L2 = sdF n N A m1 L1 m2 L2 := by
  by_cases h1 : termF n N A m1 L1 = 0
  · rw [sdF_right h1] at h ⊢; exact eqF_right h1 h
  · rw [sdF_left h1]; exact eqF_left h1

set_option maxRecDepth 20000 in
set_option maxHeartbeats 1600000 in
theorem sides_any (b off n c b1 o1 m1 c1 b2 o2 m2 c2 : Nat) (N : Nat → ByteArray) (A L1 L2 : Nat → Int) (w : World) (h : Syms w b off n N A) (h1 : Ints w b1 o1 m1 L1) (h2 : Ints w b2 o2 m2 L2) (hk : Kept n N A) (hm1 : m1 ≤ 1048576) (hm2 : m2 ≤ 1048576) :
    Calls Try.prog 92 #[.agg #[.slice (some ⟨b, off, none⟩) n c], .agg #[.slice (some ⟨b1, o1, none⟩) m1 c1, .slice (some ⟨b2, o2, none⟩) m2 c2]] w fun e w' => e = .returned (.int .i64 (sdF n N A m1 L1 m2 L2)) ∧ Below w.heap.size w w' := by
  have A1 := hidden (alloc_below w (.cells #[.slice (some ⟨b, off, none⟩) n c] 34))
  have D := hidden (One.new w (.slice (some ⟨b, off, none⟩) n c) 34)
  have A2 := hidden (alloc_below (w.alloc (.cells #[.slice (some ⟨b, off, none⟩) n c] 34)) (.cells #[.slice (some ⟨b1, o1, none⟩) m1 c1, .slice (some ⟨b2, o2, none⟩) m2 c2] 56))
  have X := hidden (Two.new (w.alloc (.cells #[.slice (some ⟨b, off, none⟩) n c] 34)) (.slice (some ⟨b1, o1, none⟩) m1 c1) (.slice (some ⟨b2, o2, none⟩) m2 c2) 56)
  replace D := hidden (D.out.keep A2.out)
  have B := hidden (keepB A1.out A2.out)
  have Q := hidden (h.keep B.out)
  have I1 := hidden (h1.keep B.out)
  have I2 := hidden (h2.keep B.out)
  have HK := hidden hk
  clear h h1 h2 hk
  go_enter Try.func92, Try.ntmps92
  go_wp2_with fail
  with_reducible refine (implTerm_any _ _ _ _ _ _ _ _ N A L1 _ Q.out I1.out HK.out hm1).mono ?_
  rintro e w1 ⟨rfl, hb⟩
  replace D := hidden (D.out.keep hb)
  replace X := hidden (X.out.keep hb)
  replace B := hidden (keepB B.out hb)
  replace I2 := hidden (I2.out.keep hb)
  replace Q := hidden (Q.out.keep hb)
  clear hb
  by_cases hz : termF n N A m1 L1 = 0
  · have HR := hidden (sdF_right (m2 := m2) (L2 := L2) hz)
    rw [hz]
    clear hz
    have d0 := D.out.c0
    have x1 := X.out.c1
    simp only [World.size_alloc] at x1
    go_wp2_with fail
    with_reducible refine (implTerm_any _ _ _ _ _ _ _ _ N A L2 _ Q.out I2.out HK.out hm2).mono ?_
    rintro e w2 ⟨rfl, hb⟩
    replace B := hidden (keepB B.out hb)
    clear hb d0 x1
    go_wp2
    go_ret
    exact ⟨by rw [HR.out]; rfl, B.out⟩
  · have HR := hidden (sdF_left (m2 := m2) (L2 := L2) hz)
    have hz' : (termF n N A m1 L1 != 0) = true := by simpa using hz
    generalize termF n N A m1 L1 = z at *
    clear hz
    go_wp2
    go_ret
    exact ⟨by rw [HR.out]; rfl, B.out⟩

set_option maxRecDepth 20000 in
set_option maxHeartbeats 1600000 in
theorem implEqF_any (b off n c b1 o1 m1 c1 b2 o2 m2 c2 : Nat) (N : Nat → ByteArray) (A L1 L2 : Nat → Int) (w : World) (h : Syms w b off n N A) (h1 : Ints w b1 o1 m1 L1) (h2 : Ints w b2 o2 m2 L2) (hk : Kept n N A) (hm1 : m1 ≤ 1048576) (hm2 : m2 ≤ 1048576) :
    Calls Try.prog 74 #[.agg #[.slice (some ⟨b, off, none⟩) n c], .agg #[.slice (some ⟨b1, o1, none⟩) m1 c1, .slice (some ⟨b2, o2, none⟩) m2 c2]] w fun e w' => e = .returned (.int .i64 (eqF n N A m1 L1 m2 L2)) ∧ Below w.heap.size w w' := by
  have A1 := hidden (alloc_below w (.cells #[.slice (some ⟨b, off, none⟩) n c] 34))
  have A2 := hidden (alloc_below (w.alloc (.cells #[.slice (some ⟨b, off, none⟩) n c] 34)) (.cells #[.slice (some ⟨b1, o1, none⟩) m1 c1, .slice (some ⟨b2, o2, none⟩) m2 c2] 56))
  have X := hidden (Two.new (w.alloc (.cells #[.slice (some ⟨b, off, none⟩) n c] 34)) (.slice (some ⟨b1, o1, none⟩) m1 c1) (.slice (some ⟨b2, o2, none⟩) m2 c2) 56)
  simp only [World.size_alloc] at X
  have B := hidden (keepB A1.out A2.out)
  have Q := hidden (h.keep B.out)
  have I1 := hidden (h1.keep B.out)
  have I2 := hidden (h2.keep B.out)
  have HK := hidden hk
  clear h h1 h2 hk
  go_enter Try.func74, Try.ntmps74
  go_wp2_with fail
  with_reducible refine (sides_any _ _ _ _ _ _ _ _ _ _ _ _ N A L1 L2 _ Q.out I1.out I2.out HK.out hm1 hm2).mono ?_
  rintro e w1 ⟨rfl, hb⟩
  replace X := hidden (X.out.keep hb)
  replace B := hidden (keepB B.out hb)
  replace I1 := hidden (I1.out.keep hb)
  replace I2 := hidden (I2.out.keep hb)
  clear hb
  by_cases hz : sdF n N A m1 L1 m2 L2 = 0
  · have Z := hidden (sdF_both hz)
    rw [hz]
    clear hz
    have L1' := hidden (hasBey_low (term_right Z.out.1).nods)
    have L2' := hidden (hasBey_low (term_right Z.out.2).nods)
    have x0 := X.out.c0
    go_wp2_with fail
    with_reducible refine (containsBey_any _ _ _ _ L1 _ I1.out hm1).mono ?_
    rintro e w2 ⟨rfl, hb⟩
    rw [L1'.out]
    replace X := hidden (X.out.keep hb)
    replace B := hidden (keepB B.out hb)
    replace I2 := hidden (I2.out.keep hb)
    clear hb x0
    generalize hl : lowB m1 L1 = ib
    cases ib
    · have HR := hidden (eqF_high Z.out.1 Z.out.2 (Or.inl hl))
      clear hl
      simp only [Bool.not_false]
      go_wp2
      go_ret
      exact ⟨by rw [HR.out]; rfl, B.out⟩
    · have HL := hidden hl
      clear hl
      simp only [Bool.not_true]
      have x0 := X.out.c1
      go_wp2_with fail
      with_reducible refine (containsBey_any _ _ _ _ L2 _ I2.out hm2).mono ?_
      rintro e w3 ⟨rfl, hb⟩
      rw [L2'.out]
      replace B := hidden (keepB B.out hb)
      clear hb x0
      generalize hl : lowB m2 L2 = ib
      cases ib
      · have HR := hidden (eqF_high Z.out.1 Z.out.2 (Or.inr hl))
        clear hl
        simp only [Bool.not_false]
        go_wp2
        go_ret
        exact ⟨by rw [HR.out]; rfl, B.out⟩
      · have HR := hidden (eqF_low Z.out.1 Z.out.2 HL.out hl)
        clear hl
        simp only [Bool.not_true]
        go_wp2
        go_ret
        exact ⟨by rw [HR.out]; rfl, B.out⟩
  · have HR := hidden (sdF_eqF hz)
    have hz' : (sdF n N A m1 L1 m2 L2 != 0) = true := by simpa using hz
    generalize sdF n N A m1 L1 m2 L2 = z at *
    clear hz
    go_wp2
    go_ret
    exact ⟨by rw [HR.out]; rfl, B.out⟩

end Go.Proofs.Ytbdgnpjbmlcchaa

/- Contracts: lists of equations: how great they are, their copies and their comparison. -/
namespace Go.Proofs.Ytbdgnpjbmlcchaa
open Go.RowKit

/-- The equations of a list: how long the sides are, and their nodes. -/
structure EqL where
  m1 : Nat → Nat
  L1 : Nat → Nat → Int
  m2 : Nat → Nat
  L2 : Nat → Nat → Int

/-- Equations that came in, in a row. -/
structure RowE (w : World) (b off n : Nat) (D : EqL) : Prop where
  blk : 0 < n → b < w.heap.size
  row : ∀ i, i < n → ∃ p1 c1 p2 c2, w.cell? ⟨b, off + i * 2, none⟩ = some (.slice p1 (D.m1 i) c1) ∧ w.cell? ⟨b, off + i * 2 + 1, none⟩ = some (.slice p2 (D.m2 i) c2) ∧ SrcI w p1 (D.m1 i) (D.L1 i) ∧ SrcI w p2 (D.m2 i) (D.L2 i) ∧ D.m1 i ≤ maxLen ∧ D.m2 i ≤ maxLen

theorem RowE.keep {w w' : World} {b off n : Nat} {D : EqL} (h : RowE w b off n D) (hb : Below w.heap.size w w') : RowE w' b off n D :=
  ⟨fun h0 => Nat.lt_of_lt_of_le (h.blk h0) hb.size, fun i hi => by
    obtain ⟨p1, c1, p2, c2, h1, h2, h3, h4, h5⟩ := h.row i hi
    have hk := h.blk (by omega)
    exact ⟨p1, c1, p2, c2, by rw [(bcell hb).1 _ _ hk]; exact h1, by rw [(bcell hb).1 _ _ hk]; exact h2, h3.keep hb, h4.keep hb, h5⟩⟩

/-- What came in: no equation, or a row of them. -/
def SrcE (w : World) (p : Option Addr) (n : Nat) (D : EqL) : Prop :=
  n ≤ maxLen ∧ (n = 0 ∨ ∃ b off, p = some ⟨b, off, none⟩ ∧ RowE w b off n D)

theorem SrcE.keep {w w' : World} {p : Option Addr} {n : Nat} {D : EqL} (h : SrcE w p n D) (hb : Below w.heap.size w w') : SrcE w' p n D :=
  ⟨h.1, h.2.imp id fun ⟨b, off, hp, hs⟩ => ⟨b, off, hp, hs.keep hb⟩⟩

/-- Copies of equations, in a row. -/
structure Eqs (w : World) (b off n : Nat) (D : EqL) : Prop where
  blk : 0 < n → b < w.heap.size
  row : ∀ i, i < n → ∃ g1 o1 c1 g2 o2 c2, w.cell? ⟨b, off + i * 2, none⟩ = some (.slice (some ⟨g1, o1, none⟩) (D.m1 i) c1) ∧ w.cell? ⟨b, off + i * 2 + 1, none⟩ = some (.slice (some ⟨g2, o2, none⟩) (D.m2 i) c2) ∧ Ints w g1 o1 (D.m1 i) (D.L1 i) ∧ Ints w g2 o2 (D.m2 i) (D.L2 i)

theorem Eqs.keep {w w' : World} {b off n : Nat} {D : EqL} (h : Eqs w b off n D) (hb : Below w.heap.size w w') : Eqs w' b off n D :=
  ⟨fun h0 => Nat.lt_of_lt_of_le (h.blk h0) hb.size, fun i hi => by
    obtain ⟨g1, o1, c1, g2, o2, c2, h1, h2, h3, h4⟩ := h.row i hi
    have hk := h.blk (by omega)
    exact ⟨g1, o1, c1, g2, o2, c2, by rw [(bcell hb).1 _ _ hk]; exact h1, by rw [(bcell hb).1 _ _ hk]; exact h2, h3.keep hb, h4.keep hb⟩⟩

/-- What a law copies. -/
structure KeptE (n : Nat) (D : EqL) : Prop where
  most : n ≤ 1048576
  m1 : ∀ i, i < n → D.m1 i ≤ 1048576
  m2 : ∀ i, i < n → D.m2 i ≤ 1048576

set_option maxRecDepth 20000 in
set_option maxHeartbeats 400000 in
theorem szEquationS_many (p : Option Addr) (n c : Nat) (left : Int) (w : World) (hn : n ≤ maxLen) (h0 : 0 ≤ left) (h1 : left ≤ 1048576) (h : left < n) :
    Calls Try.prog 5 #[.slice p n c, .int .i64 left] w fun e w' => e = .returned (.int .i64 (-1)) ∧ Below w.heap.size w w' := by
  unfold maxLen at hn
  go_enter Try.func5, Try.ntmps5
  go_wp2
  go_ret
  exact ⟨rfl, Below.refl _ _⟩

set_option maxRecDepth 20000 in
set_option maxHeartbeats 800000 in
theorem szEquationS_any (b off n c : Nat) (D : EqL) (left : Int) (w : World) (h : RowE w b off n D) (h0 : 0 ≤ left) (h1 : left ≤ 1048576) (hn : ¬ left < n) :
    Calls Try.prog 5 #[.slice (some ⟨b, off, none⟩) n c, .int .i64 left] w fun e w' => (∃ r, e = .returned (.int .i64 r) ∧ (r = -1 ∨ (0 ≤ r ∧ r ≤ left ∧ KeptE n D))) ∧ Below w.heap.size w w' := by
  have HR := hidden h
  clear h
  go_enter Try.func5, Try.ntmps5
  go_wp2
  go_loopw [1, 5] (fun l i wr => ∃ (k : Nat) (r : Int), k ≤ n ∧ i = .int .i64 k ∧ l = .int .i64 r ∧ 0 ≤ r ∧ r ≤ left ∧ Hid (∀ i, i < k → D.m1 i ≤ 1048576 ∧ D.m2 i ≤ 1048576) ∧ Hid (Below w.heap.size w wr)) (fun _ i _ => n - (intOf i).toNat)
  case atStart => exact ⟨0, _, Nat.zero_le _, rfl, rfl, by omega, by omega, hidden (fun i hi => by omega), hidden (Below.refl _ _)⟩
  case round =>
    obtain ⟨k, r, hk, rfl, rfl, hr0, hr1, HZ, HB⟩ := hrel
    by_cases hlt : k < n
    · obtain ⟨p1, c1, p2, c2, e1, e2, e3, e4, e5, e6⟩ := (HR.out.keep HB.out).row k hlt
      have E5 := hidden e5
      have E6 := hidden e6
      clear e3 e4 e5 e6
      go_wp2_with fail
      with_reducible refine (szEquation_any _ _ _ _ _ _ _ _ E5.out E6.out hr0 (by omega)).mono ?_
      rintro e w1 ⟨⟨r1, rfl, hr⟩, hb1⟩
      have B1 := hidden (keepB HB.out hb1)
      clear hb1 e1 e2
      rcases hr with rfl | ⟨q0, q1, q2, q3⟩
      · go_wp2
        go_ret
        exact ⟨⟨_, rfl, Or.inl rfl⟩, B1.out⟩
      · have Q := hidden (And.intro q2 q3)
        clear q2 q3
        go_wp2
        go_roundw
        case rel => exact ⟨k + 1, r1, by omega, by go_num, rfl, q0, by omega, hidden (fun i hi => by
          by_cases e : i = k
          · rw [e]; exact Q.out
          · exact HZ.out i (by omega)), B1⟩
        case measure => simp [intOf]; omega
    · go_wp2
      go_ret
      exact ⟨⟨_, rfl, Or.inr ⟨hr0, hr1, by omega, fun i hi => (HZ.out i (by omega)).1, fun i hi => (HZ.out i (by omega)).2⟩⟩, HB.out⟩

set_option maxRecDepth 20000 in
set_option maxHeartbeats 400000 in
theorem szEquationS_none (p : Option Addr) (c : Nat) (left : Int) (w : World) (h0 : 0 ≤ left) (h1 : left ≤ 1048576) :
    Calls Try.prog 5 #[.slice p 0 c, .int .i64 left] w fun e w' => e = .returned (.int .i64 left) ∧ Below w.heap.size w w' := by
  go_enter Try.func5, Try.ntmps5
  go_wp2
  refine wp_loop_rounds 1 ?_
  rw [rounds_succ]
  go_wp2
  go_ret
  exact ⟨by simp, Below.refl _ _⟩

theorem szEquationS_src (p : Option Addr) (n c : Nat) (D : EqL) (left : Int) (w : World) (h : SrcE w p n D) (h0 : 0 ≤ left) (h1 : left ≤ 1048576) :
    Calls Try.prog 5 #[.slice p n c, .int .i64 left] w fun e w' => (∃ r, e = .returned (.int .i64 r) ∧ (r = -1 ∨ (0 ≤ r ∧ r ≤ left ∧ KeptE n D))) ∧ Below w.heap.size w w' := by
  by_cases hn : left < n
  · refine (szEquationS_many p n c left w h.1 h0 h1 hn).mono ?_
    rintro e w' ⟨rfl, hb⟩
    exact ⟨⟨_, rfl, Or.inl rfl⟩, hb⟩
  · rcases h.2 with rfl | ⟨b, off, rfl, hs⟩
    · refine (szEquationS_none p c left w h0 h1).mono ?_
      rintro e w' ⟨rfl, hb⟩
      exact ⟨⟨_, rfl, Or.inr ⟨h0, Int.le_refl _, by omega, fun i hi => by omega, fun i hi => by omega⟩⟩, hb⟩
    · exact szEquationS_any b off n c D left w hs h0 h1 hn

theorem Ints.other {w : World} {b off n : Nat} {L : Nat → Int} (h : Ints w b off n L) (a : Addr) (v : Value) (hne : b ≠ a.block) : Ints (w.setCell a v) b off n L :=
  ⟨fun h0 => by simpa using h.blk h0, fun i hi => by rw [World.cell?_setCell_other _ _ _ _ (by intro e; exact hne (by rw [e]))]; exact h.cell i hi⟩

/-- A row of copies in memory of its own, of which the first k are known. -/
def OwnE (w : World) (B g n : Nat) (D : EqL) (k : Nat) : Prop :=
  ∃ xs, w.ownsRow B 56 2 (.slice (some ⟨g, 0, none⟩) n n) n xs ∧ ∀ i, i < k → ∃ g1 g2, xs[i * 2]? = some (.slice (some ⟨g1, 0, none⟩) (D.m1 i) (D.m1 i)) ∧ xs[i * 2 + 1]? = some (.slice (some ⟨g2, 0, none⟩) (D.m2 i) (D.m2 i)) ∧ g < g1 ∧ g < g2 ∧ Ints w g1 0 (D.m1 i) (D.L1 i) ∧ Ints w g2 0 (D.m2 i) (D.L2 i)

theorem OwnE.lt {w : World} {B g n : Nat} {D : EqL} {k : Nat} (h : OwnE w B g n D k) : g < w.heap.size := by
  obtain ⟨xs, ho, _⟩ := h; exact (ho.lt g rfl).2

theorem OwnE.keep {w w' : World} {B g n : Nat} {D : EqL} {k : Nat} (h : OwnE w B g n D k) (hb : Below w.heap.size w w') : OwnE w' B g n D k := by
  have hl := h.lt
  obtain ⟨xs, ho, hx⟩ := h
  refine ⟨xs, ownsRow_later ho hb hl, fun i hi => ?_⟩
  obtain ⟨g1, g2, a1, a2, a3, a4, a5, a6⟩ := hx i hi
  exact ⟨g1, g2, a1, a2, a3, a4, a5.keep hb, a6.keep hb⟩

theorem OwnE.eqs {w : World} {B g n : Nat} {D : EqL} (h : OwnE w B g n D n) : Eqs w g 0 n D := by
  have hl := h.lt
  obtain ⟨xs, ho, hx⟩ := h
  refine ⟨fun _ => hl, fun i hi => ?_⟩
  obtain ⟨g1, g2, a1, a2, _, _, a5, a6⟩ := hx i hi
  exact ⟨g1, 0, _, g2, 0, _, by rw [Nat.zero_add, ho.cellAt _ (by omega)]; exact a1, by rw [Nat.zero_add, ho.cellAt _ (by omega)]; exact a2, a5, a6⟩

theorem OwnE.put {w : World} {B g n : Nat} {D : EqL} {k : Nat} (h : OwnE w B g n D k) (hk : k < n) {g1 g2 : Nat} (l1 : g < g1) (l2 : g < g2) (i1 : Ints w g1 0 (D.m1 k) (D.L1 k)) (i2 : Ints w g2 0 (D.m2 k) (D.L2 k)) :
    (∃ u0, w.cell? ⟨g, 0 + k * 2, none⟩ = some u0) ∧ (∃ u1, (w.setCell ⟨g, 0 + k * 2, none⟩ (.slice (some ⟨g1, 0, none⟩) (D.m1 k) (D.m1 k))).cell? ⟨g, 0 + k * 2 + 1, none⟩ = some u1) ∧
    w.frozen? ⟨g, 0 + k * 2, none⟩ = false ∧ (w.setCell ⟨g, 0 + k * 2, none⟩ (.slice (some ⟨g1, 0, none⟩) (D.m1 k) (D.m1 k))).frozen? ⟨g, 0 + k * 2 + 1, none⟩ = false ∧
    OwnE ((w.setCell ⟨g, 0 + k * 2, none⟩ (.slice (some ⟨g1, 0, none⟩) (D.m1 k) (D.m1 k))).setCell ⟨g, 0 + k * 2 + 1, none⟩ (.slice (some ⟨g2, 0, none⟩) (D.m2 k) (D.m2 k))) B g n D (k + 1) ∧
    w.grownBy ((w.setCell ⟨g, 0 + k * 2, none⟩ (.slice (some ⟨g1, 0, none⟩) (D.m1 k) (D.m1 k))).setCell ⟨g, 0 + k * 2 + 1, none⟩ (.slice (some ⟨g2, 0, none⟩) (D.m2 k) (D.m2 k))) (some g) := by
  obtain ⟨xs, ho, hx⟩ := h
  rw [Nat.zero_add]
  obtain ⟨o1, e1⟩ := ho.stored (k * 2) (.slice (some ⟨g1, 0, none⟩) (D.m1 k) (D.m1 k))
  obtain ⟨o2, e2⟩ := o1.stored (k * 2 + 1) (.slice (some ⟨g2, 0, none⟩) (D.m2 k) (D.m2 k))
  have hl : xs.length = n * 2 := ho.1
  refine ⟨⟨_, (ho.cellAt (k * 2) (by omega)).trans (List.getElem?_eq_getElem (by omega))⟩, ⟨_, (o1.cellAt (k * 2 + 1) (by omega)).trans (List.getElem?_eq_getElem (by simp; omega))⟩,
    ho.frozenAt _, o1.frozenAt _, ⟨_, o2, fun i hi => ?_⟩, ⟨e2.os.trans e1.os, e2.tape.trans e1.tape, e2.output.trans e1.output, Nat.le_trans e1.size e2.size, fun j hj hr => (e2.block j (Nat.lt_of_lt_of_le hj e1.size) hr).trans (e1.block j hj hr)⟩⟩
  by_cases e : i = k
  · subst e
    refine ⟨g1, g2, ?_, ?_, l1, l2, (i1.other _ _ (by simp; omega)).other _ _ (by simp; omega), (i2.other _ _ (by simp; omega)).other _ _ (by simp; omega)⟩
    · rw [List.getElem?_set_ne (by omega), List.getElem?_set_self (by omega)]
    · rw [List.getElem?_set_self (by simp; omega)]
  · obtain ⟨h1, h2, a1, a2, a3, a4, a5, a6⟩ := hx i (by omega)
    refine ⟨h1, h2, ?_, ?_, a3, a4, (a5.other _ _ (by simp; omega)).other _ _ (by simp; omega), (a6.other _ _ (by simp; omega)).other _ _ (by simp; omega)⟩
    · rw [List.getElem?_set_ne (by omega), List.getElem?_set_ne (by omega)]; exact a1
    · rw [List.getElem?_set_ne (by omega), List.getElem?_set_ne (by omega)]; exact a2

set_option maxRecDepth 20000 in
theorem makeEqs (w : World) (n : Nat) (hn : n ≤ 1048576) : ∃ w', (Instr.makeSlice 36 (.int .i64 (n : Int)) (.int .i64 (n : Int))).run Try.prog w = .ok (.slice (some ⟨w.heap.size, 0, none⟩) n n) w' ∧
      w'.ownsRow w.heap.size 56 2 (.slice (some ⟨w.heap.size, 0, none⟩) n n) n (madeCells (Value.agg #[.slice none 0 0, .slice none 0 0]).cells (n * 2)).toList ∧ w.grownBy w' none :=
  run_make_full (P := Try.prog) w w.heap.size 36 56 _ (.agg #[.slice none 0 0, .slice none 0 0]) 2 Try.underlying36 rfl rfl rfl .i64 .i64 n (by show 48 * n ≤ _; omega) (by unfold maxLen; omega) (Nat.le_refl _)

set_option maxRecDepth 20000 in
set_option maxHeartbeats 800000 in
theorem toEquationS_any (b off n c : Nat) (D : EqL) (w : World) (h : RowE w b off n D) (hk : KeptE n D) :
    Calls Try.prog 8 #[.slice (some ⟨b, off, none⟩) n c] w fun e w' => e = .returned (.slice (some ⟨w.heap.size, 0, none⟩) n n) ∧ OwnE w' w.heap.size w.heap.size n D n ∧ Below w.heap.size w w' := by
  have hn := hk.most
  obtain ⟨w1, hmk, how, hgr⟩ := makeEqs w n hn
  have HO := hidden how
  have HG := hidden hgr
  have HR := hidden h
  have HK := hidden hk
  clear how hgr h hk
  go_enter Try.func8, Try.ntmps8
  go_wp2
  go_loopw [4] (fun i wr => ∃ k : Nat, k ≤ n ∧ i = .int .i64 k ∧ Hid (OwnE wr w.heap.size w.heap.size n D k) ∧ Hid (Below w.heap.size w wr)) (fun i _ => n - (intOf i).toNat)
  case atStart =>
    exact ⟨0, Nat.zero_le _, rfl, hidden ⟨_, HO.out, fun i hi => by omega⟩, hidden ((Below.refl _ _).grown HG.out (Nat.le_refl _) (fun k hk => by cases hk))⟩
  case round =>
    obtain ⟨k, hk, rfl, HW, HB⟩ := hrel
    by_cases hlt : k < n
    · obtain ⟨p1, c1, p2, c2, e1, e2, e3, e4, e5, e6⟩ := (HR.out.keep HB.out).row k hlt
      have E3 := hidden e3
      have E4 := hidden e4
      clear e3 e4 e5 e6 hmk
      go_wp2_with fail
      with_reducible refine (toEquation_src _ _ _ (D.L1 k) _ _ _ (D.L2 k) _ E3.out E4.out (HK.out.m1 k hlt) (HK.out.m2 k hlt)).mono ?_
      rintro e w2 ⟨g1, g2, rfl, hg1, hg2, i1, i2, hb⟩
      have hl := HW.out.lt
      have b2 := keepB HB.out hb
      have o2 := HW.out.keep hb
      obtain ⟨⟨u0, q0⟩, ⟨u1, q1⟩, f0, f1, o3, g3⟩ := o2.put hlt (g1 := g1) (g2 := g2) (by omega) (by omega) i1.ints i2.ints
      have b3 := b2.grown g3 b2.size (fun j hj => by cases hj; exact Nat.le_refl _)
      have H3 := hidden (And.intro o3 b3)
      clear o3 g3 b3 o2 b2 hb HW HB e1 e2 i1 i2 hg1 hg2 hl
      rw [Nat.zero_add] at q0 q1 f0 f1 H3
      go_wp2
      go_roundw
      case rel => exact ⟨k + 1, by omega, by go_num, hidden H3.out.1, hidden H3.out.2⟩
      case measure => simp [intOf]; omega
    · go_wp2
      go_ret
      have e : k = n := by omega
      subst e
      exact ⟨rfl, HW.out, HB.out⟩

set_option maxRecDepth 20000 in
set_option maxHeartbeats 400000 in
theorem toEquationS_none (p : Option Addr) (c : Nat) (D : EqL) (w : World) :
    Calls Try.prog 8 #[.slice p 0 c] w fun e w' => e = .returned (.slice (some ⟨w.heap.size, 0, none⟩) 0 0) ∧ OwnE w' w.heap.size w.heap.size 0 D 0 ∧ Below w.heap.size w w' := by
  obtain ⟨w1, hmk, how, hgr⟩ := makeEqs w 0 (by omega)
  rw [show ((0 : Nat) : Int) = 0 from rfl] at hmk
  have HO := hidden how
  have HG := hidden hgr
  clear how hgr
  go_enter Try.func8, Try.ntmps8
  go_wp2
  refine wp_loop_rounds 1 ?_
  rw [rounds_succ]
  go_wp2
  go_ret
  exact ⟨rfl, ⟨_, HO.out, fun i hi => by omega⟩, (Below.refl _ _).grown HG.out (Nat.le_refl _) (fun k hk => by cases hk)⟩

theorem toEqs_new (p : Option Addr) (n c : Nat) (D : EqL) (w : World) (h : SrcE w p n D) (hk : KeptE n D) :
    Calls Try.prog 8 #[.slice p n c] w fun e w' => ∃ g, e = .returned (.slice (some ⟨g, 0, none⟩) n n) ∧ w.heap.size ≤ g ∧ OwnE w' w.heap.size g n D n ∧ Below w.heap.size w w' := by
  rcases h.2 with rfl | ⟨b, off, rfl, hs⟩
  · refine (toEquationS_none p c D w).mono ?_
    rintro e w' ⟨rfl, ho, hb⟩
    exact ⟨_, rfl, Nat.le_refl _, ho, hb⟩
  · refine (toEquationS_any b off n c D w hs hk).mono ?_
    rintro e w' ⟨rfl, ho, hb⟩
    exact ⟨_, rfl, Nat.le_refl _, ho, hb⟩

end Go.Proofs.Ytbdgnpjbmlcchaa

/- Contracts: the fault of a list of equations, as the model and as the program tells it. -/
namespace Go.Proofs.Ytbdgnpjbmlcchaa
open Go.RowKit

/-- Two cells of a block, one behind the other. -/
structure TwoAt (w : World) (b o : Nat) (x y : Value) : Prop where
  blk : b < w.heap.size
  c0 : w.cell? ⟨b, o, none⟩ = some x
  c1 : w.cell? ⟨b, o + 1, none⟩ = some y

theorem TwoAt.keep {w w' : World} {b o : Nat} {x y : Value} (h : TwoAt w b o x y) (hb : Below w.heap.size w w') : TwoAt w' b o x y :=
  ⟨Nat.lt_of_lt_of_le h.blk hb.size, by rw [(bcell hb).1 _ _ h.blk]; exact h.c0, by rw [(bcell hb).1 _ _ h.blk]; exact h.c1⟩

set_option maxRecDepth 20000 in
set_option maxHeartbeats 1600000 in
theorem l4Fault_at (B E o b off n c b1 o1 m1 c1 b2 o2 m2 c2 : Nat) (N : Nat → ByteArray) (A L1 L2 : Nat → Int) (w : World) (hd : One w B (.slice (some ⟨b, off, none⟩) n c)) (he : TwoAt w E o (.slice (some ⟨b1, o1, none⟩) m1 c1) (.slice (some ⟨b2, o2, none⟩) m2 c2)) (h : Syms w b off n N A) (h1 : Ints w b1 o1 m1 L1) (h2 : Ints w b2 o2 m2 L2) (hf : faultF n N A = 0) (hm1 : m1 ≤ 1048576) (hm2 : m2 ≤ 1048576) :
    Calls Try.prog 91 #[.pointer (some ⟨B, 0, none⟩), .pointer (some ⟨E, o, none⟩)] w fun e w' => e = .returned (.int .i64 (eqF n N A m1 L1 m2 L2)) ∧ Below w.heap.size w w' := by
  have HS := hidden (fault_sound hf)
  have T1 := hidden (term_l (m := m1) (T := L1) hf)
  have T2 := hidden (term_l (m := m2) (T := L2) hf)
  have D := hidden hd
  have X := hidden he
  have Q := hidden h
  have I1 := hidden h1
  have I2 := hidden h2
  clear hf hd he h h1 h2
  have x0 := X.out.c0
  go_enter Try.func91, Try.ntmps91
  go_wp2_with fail
  with_reducible refine (l3Fault_all _ _ _ _ _ _ _ _ _ N A L1 _ D.out Q.out I1.out HS.out hm1).mono ?_
  rintro e w1 ⟨rfl, hb⟩
  have B := hidden hb
  replace D := hidden (D.out.keep hb)
  replace X := hidden (X.out.keep hb)
  replace Q := hidden (Q.out.keep hb)
  replace I1 := hidden (I1.out.keep hb)
  replace I2 := hidden (I2.out.keep hb)
  clear hb x0
  rw [← T1.out]
  by_cases hz : termF n N A m1 L1 = 0
  · have Z1 := hidden hz
    rw [hz]
    clear hz
    have x0 := X.out.c1
    go_wp2_with fail
    with_reducible refine (l3Fault_all _ _ _ _ _ _ _ _ _ N A L2 _ D.out Q.out I2.out HS.out hm2).mono ?_
    rintro e w2 ⟨rfl, hb⟩
    replace B := hidden (keepB B.out hb)
    replace D := hidden (D.out.keep hb)
    replace X := hidden (X.out.keep hb)
    replace I1 := hidden (I1.out.keep hb)
    replace I2 := hidden (I2.out.keep hb)
    clear hb x0
    rw [← T2.out]
    by_cases hz : termF n N A m2 L2 = 0
    · have Z2 := hidden hz
      rw [hz]
      clear hz
      have x0 := X.out.c0
      go_wp2_with fail
      with_reducible refine (l4Low_any _ _ _ _ L1 _ I1.out hm1).mono ?_
      rintro e w3 ⟨rfl, hb⟩
      replace B := hidden (keepB B.out hb)
      replace X := hidden (X.out.keep hb)
      replace I2 := hidden (I2.out.keep hb)
      clear hb x0
      generalize hl : lowB m1 L1 = ib
      cases ib
      · have HR := hidden (eqF_high Z1.out Z2.out (Or.inl hl))
        clear hl
        go_wp2
        go_ret
        exact ⟨by rw [HR.out]; rfl, B.out⟩
      · have HL := hidden hl
        clear hl
        have x0 := X.out.c1
        go_wp2_with fail
        with_reducible refine (l4Low_any _ _ _ _ L2 _ I2.out hm2).mono ?_
        rintro e w4 ⟨rfl, hb⟩
        replace B := hidden (keepB B.out hb)
        clear hb x0
        generalize hl : lowB m2 L2 = ib
        cases ib
        · have HR := hidden (eqF_high Z1.out Z2.out (Or.inr hl))
          clear hl
          go_wp2
          go_ret
          exact ⟨by rw [HR.out]; rfl, B.out⟩
        · have HR := hidden (eqF_low Z1.out Z2.out HL.out hl)
          clear hl
          go_wp2
          go_ret
          exact ⟨by rw [HR.out]; rfl, B.out⟩
    · have HR := hidden (eqF_right Z1.out hz)
      have hz' : (termF n N A m2 L2 != 0) = true := by simpa using hz
      generalize termF n N A m2 L2 = z at *
      clear hz
      go_wp2
      go_ret
      exact ⟨by rw [HR.out]; rfl, B.out⟩
  · have HR := hidden (eqF_left (m2 := m2) (L2 := L2) hz)
    have hz' : (termF n N A m1 L1 != 0) = true := by simpa using hz
    generalize termF n N A m1 L1 = z at *
    clear hz
    go_wp2
    go_ret
    exact ⟨by rw [HR.out]; rfl, B.out⟩

set_option maxRecDepth 20000 in
set_option maxHeartbeats 800000 in
theorem eqEquationS_eq (b off b' off' n c c' : Nat) (D : EqL) (w : World) (h : Eqs w b off n D) (h' : Eqs w b' off' n D) (hk : KeptE n D) :
    Calls Try.prog 13 #[.slice (some ⟨b, off, none⟩) n c, .slice (some ⟨b', off', none⟩) n c'] w fun e w' => e = .returned (.bool true) ∧ Below w.heap.size w w' := by
  have hn := hk.most
  have H := hidden h
  have H' := hidden h'
  have HK := hidden hk
  clear h h' hk
  go_enter Try.func13, Try.ntmps13
  go_wp2
  go_loopw [5] (fun i wr => ∃ k : Nat, k ≤ n ∧ i = .int .i64 k ∧ Hid (Below w.heap.size w wr)) (fun i _ => n - (intOf i).toNat)
  case atStart => exact ⟨0, Nat.zero_le _, rfl, hidden (Below.refl _ _)⟩
  case round =>
    obtain ⟨k, hk, rfl, HB⟩ := hrel
    by_cases hlt : k < n
    · obtain ⟨g1, o1, c1, g2, o2, c2, e1, e2, i1, i2⟩ := (H.out.keep HB.out).row k hlt
      obtain ⟨g3, o3, c3, g4, o4, c4, e3, e4, i3, i4⟩ := (H'.out.keep HB.out).row k hlt
      have S := hidden (fun wc (hc : Below wr.heap.size wr wc) => eqEquation_eq g1 o1 g2 o2 (D.m1 k) c1 (D.m2 k) c2 g3 o3 g4 o4 c3 c4 (D.L1 k) (D.L2 k) wc (i1.keep hc) (i2.keep hc) (i3.keep hc) (i4.keep hc) (HK.out.m1 k hlt) (HK.out.m2 k hlt))
      clear i1 i2 i3 i4
      go_wp2_with fail
      go_cut [26] (fun t wc => t = .bool false ∧ Below wr.heap.size wr wc)
      case first =>
        go_region_with (first | (go_at_call 26; with_reducible refine (S.out _ ?_).mono ?_; exact (Below.refl _ _).drew; rintro e w5 ⟨rfl, hb5⟩))
        all_goals (go_wp2_with fail; go_meet)
        all_goals exact ⟨rfl, (Below.refl _ _).drew.trans hb5⟩
      case rest =>
        rename World => w5
        obtain ⟨rfl, bc⟩ := hcut
        have B1 := hidden (keepB HB.out bc)
        clear bc e1 e2 e3 e4
        go_wp2
        go_roundw
        case rel => exact ⟨k + 1, by omega, by go_num, B1⟩
        case measure => simp [intOf]; omega
    · go_wp2
      go_ret
      exact ⟨rfl, HB.out⟩

/-- The fault of the first k equations. -/
noncomputable def eqsTo (n : Nat) (N : Nat → ByteArray) (A : Nat → Int) (D : EqL) : Nat → Int
  | 0 => 0
  | k + 1 => if eqsTo n N A D k = 0 then eqF n N A (D.m1 k) (D.L1 k) (D.m2 k) (D.L2 k) else eqsTo n N A D k

/-- The fault of a list of equations. -/
noncomputable def eqsF (n : Nat) (N : Nat → ByteArray) (A : Nat → Int) (k : Nat) (D : EqL) : Int :=
  if faultF n N A = 0 then (if 12 < k then 2 else eqsTo n N A D k) else faultF n N A

section
variable {n : Nat} {N : Nat → ByteArray} {A : Nat → Int} {m : Nat} {D : EqL}
theorem eqs_fault (h : faultF n N A ≠ 0) : eqsF n N A m D = faultF n N A := by rw [eqsF, if_neg h]
theorem eqs_many (h : faultF n N A = 0) (hm : 12 < m) : eqsF n N A m D = 2 := by rw [eqsF, if_pos h, if_pos hm]
theorem eqs_to (h : faultF n N A = 0) (hm : ¬ 12 < m) : eqsF n N A m D = eqsTo n N A D m := by rw [eqsF, if_pos h, if_neg hm]
theorem eqsTo_first {k : Nat} (h : eqsTo n N A D k = 0) (hk : eqF n N A (D.m1 k) (D.L1 k) (D.m2 k) (D.L2 k) ≠ 0) : ∀ j, k < j → eqsTo n N A D j = eqF n N A (D.m1 k) (D.L1 k) (D.m2 k) (D.L2 k)
  | 0, hj => by omega
  | j + 1, hj => by
    by_cases e : k = j
    · subst e; show (if _ then _ else _) = _; rw [if_pos h]
    · have ih := eqsTo_first h hk j (by omega)
      show (if eqsTo n N A D j = 0 then _ else eqsTo n N A D j) = _
      rw [ih, if_neg hk]
theorem eqsTo_next {k : Nat} (h : eqsTo n N A D k = 0) (hk : eqF n N A (D.m1 k) (D.L1 k) (D.m2 k) (D.L2 k) = 0) : eqsTo n N A D (k + 1) = 0 := by
  show (if _ then _ else _) = _; rw [if_pos h, hk]
theorem eqsTo_each : ∀ k, eqsTo n N A D k = 0 → ∀ i, i < k → eqF n N A (D.m1 i) (D.L1 i) (D.m2 i) (D.L2 i) = 0
  | 0, _, i, hi => by omega
  | k + 1, h, i, hi => by
    have h' : (if eqsTo n N A D k = 0 then eqF n N A (D.m1 k) (D.L1 k) (D.m2 k) (D.L2 k) else eqsTo n N A D k) = 0 := h
    by_cases e : eqsTo n N A D k = 0
    · rw [if_pos e] at h'
      by_cases ei : i = k
      · rw [ei]; exact h'
      · exact eqsTo_each k e i (by omega)
    · rw [if_neg e] at h'; exact absurd h' e
end

set_option maxRecDepth 20000 in
set_option maxHeartbeats 1600000 in
theorem l5Fault_any (B b off n c b' off' m c' : Nat) (N : Nat → ByteArray) (A : Nat → Int) (D : EqL) (w : World) (hd : One w B (.slice (some ⟨b, off, none⟩) n c)) (h : Syms w b off n N A) (h' : Eqs w b' off' m D) (hf : faultF n N A = 0) (hk : KeptE m D) :
    Calls Try.prog 69 #[.pointer (some ⟨B, 0, none⟩), .slice (some ⟨b', off', none⟩) m c'] w fun e w' => e = .returned (.int .i64 (eqsF n N A m D)) ∧ Below w.heap.size w w' := by
  have hm := hk.most
  by_cases h12 : 12 < m
  · have HR := hidden (eqs_many (D := D) hf h12)
    have g1 : (12 : Int) < m := by omega
    go_enter Try.func69, Try.ntmps69
    go_wp2
    go_ret
    exact ⟨by rw [HR.out]; rfl, Below.refl _ _⟩
  · have HR := hidden (eqs_to (D := D) hf h12)
    have g1 : ¬ (12 : Int) < m := by omega
    have Q := hidden h
    have X := hidden h'
    have HD := hidden hd
    have HF := hidden hf
    have HK := hidden hk
    clear h h' hd hf hk
    go_enter Try.func69, Try.ntmps69
    go_wp2
    go_loopw [5] (fun i wr => ∃ k : Nat, k ≤ m ∧ i = .int .i64 (k : Nat) ∧ Hid (eqsTo n N A D k = 0 ∧ Below w.heap.size w wr)) (fun i _ => m - (intOf i).toNat)
    case atStart => exact ⟨0, Nat.zero_le _, rfl, hidden ⟨rfl, Below.refl _ _⟩⟩
    case round =>
      obtain ⟨k, hk, rfl, HI⟩ := hrel
      by_cases hlt : k < m
      · obtain ⟨g1', o1, c1, g2', o2, c2, e1, e2, i1, i2⟩ := (X.out.keep HI.out.2).row k hlt
        have TA := hidden (TwoAt.mk (Nat.lt_of_lt_of_le (X.out.blk (by omega)) HI.out.2.size) e1 e2)
        have I1 := hidden i1
        have I2 := hidden i2
        have M1 := hidden (HK.out.m1 k hlt)
        have M2 := hidden (HK.out.m2 k hlt)
        clear i1 i2 e1 e2
        go_wp2_with fail
        with_reducible refine (l4Fault_at _ _ _ _ _ _ _ _ _ _ _ _ _ _ _ N A (D.L1 k) (D.L2 k) _ (HD.out.keep HI.out.2) TA.out (Q.out.keep HI.out.2) I1.out I2.out HF.out M1.out M2.out).mono ?_
        rintro e w1 ⟨rfl, hb⟩
        have B1 := hidden (keepB HI.out.2 hb)
        clear hb TA I1 I2 M1 M2
        by_cases hz : eqF n N A (D.m1 k) (D.L1 k) (D.m2 k) (D.L2 k) = 0
        · have HN := hidden (eqsTo_next HI.out.1 hz)
          rw [hz]
          clear hz
          go_wp2
          go_roundw
          case rel => exact ⟨k + 1, by omega, by go_num, hidden ⟨HN.out, B1.out⟩⟩
          case measure => simp [intOf]; omega
        · have HN := hidden (eqsTo_first HI.out.1 hz m hlt)
          have hz' : (eqF n N A (D.m1 k) (D.L1 k) (D.m2 k) (D.L2 k) != 0) = true := by simpa using hz
          generalize eqF n N A (D.m1 k) (D.L1 k) (D.m2 k) (D.L2 k) = z at *
          clear hz
          go_wp2
          go_ret
          exact ⟨by rw [HR.out, HN.out]; rfl, B1.out⟩
      · obtain rfl : m = k := by omega
        go_wp2
        go_ret
        exact ⟨by rw [HR.out, HI.out.1]; rfl, HI.out.2⟩

set_option maxRecDepth 20000 in
set_option maxHeartbeats 1600000 in
theorem implEqs_any (b off n c b' off' m c' : Nat) (N : Nat → ByteArray) (A : Nat → Int) (D : EqL) (w : World) (h : Syms w b off n N A) (h' : Eqs w b' off' m D) (hk : Kept n N A) (hk' : KeptE m D) :
    Calls Try.prog 57 #[.agg #[.slice (some ⟨b, off, none⟩) n c], .slice (some ⟨b', off', none⟩) m c'] w fun e w' => e = .returned (.int .i64 (eqsF n N A m D)) ∧ Below w.heap.size w w' := by
  have X := hidden (One.new w (.slice (some ⟨b, off, none⟩) n c) 34)
  have B := hidden (alloc_below w (.cells #[.slice (some ⟨b, off, none⟩) n c] 34))
  have Q := hidden (h.keep B.out)
  have I := hidden (h'.keep B.out)
  have HK := hidden hk
  have HK' := hidden hk'
  have hm := hk'.most
  clear h h' hk hk'
  go_enter Try.func57, Try.ntmps57
  go_wp2_with fail
  with_reducible refine (implFault_all _ _ _ _ N A _ Q.out HK.out).mono ?_
  rintro e w1 ⟨rfl, hb⟩
  replace X := hidden (X.out.keep hb)
  replace B := hidden (keepB B.out hb)
  replace I := hidden (I.out.keep hb)
  replace Q := hidden (Q.out.keep hb)
  clear hb
  by_cases hf : faultF n N A = 0
  · have HF := hidden hf
    rw [hf]
    clear hf
    by_cases h12 : 12 < m
    · have HR := hidden (eqs_many (D := D) HF.out h12)
      have g1 : (12 : Int) < m := by omega
      go_wp2
      go_ret
      exact ⟨by rw [HR.out]; rfl, B.out⟩
    · have HR := hidden (eqs_to (D := D) HF.out h12)
      have g1 : ¬ (12 : Int) < m := by omega
      go_wp2
      go_loopw [19] (fun i wr => ∃ k : Nat, k ≤ m ∧ i = .int .i64 (k : Nat) ∧ Hid (eqsTo n N A D k = 0 ∧ Below w1.heap.size w1 wr)) (fun i _ => m - (intOf i).toNat)
      case atStart => exact ⟨0, Nat.zero_le _, rfl, hidden ⟨rfl, Below.refl _ _⟩⟩
      case round =>
        obtain ⟨k, hk, rfl, HI⟩ := hrel
        by_cases hlt : k < m
        · obtain ⟨g1', o1, c1, g2', o2, c2, e1, e2, i1, i2⟩ := (I.out.keep HI.out.2).row k hlt
          have BA := hidden (alloc_below wr (.cells #[.slice (some ⟨g1', o1, none⟩) (D.m1 k) c1, .slice (some ⟨g2', o2, none⟩) (D.m2 k) c2] 56))
          have I1 := hidden (i1.keep BA.out)
          have I2 := hidden (i2.keep BA.out)
          have M1 := hidden (HK'.out.m1 k hlt)
          have M2 := hidden (HK'.out.m2 k hlt)
          have B1 := hidden (keepB HI.out.2 BA.out)
          have d0 := (X.out.keep HI.out.2).c0
          have hlt0 := Nat.lt_of_lt_of_le X.out.blk HI.out.2.size
          have d1 := (X.out.keep B1.out).c0
          clear i1 i2
          go_wp2_with fail
          with_reducible refine (implEqF_any _ _ _ _ _ _ _ _ _ _ _ _ N A (D.L1 k) (D.L2 k) _ (Q.out.keep B1.out) I1.out I2.out HK.out M1.out M2.out).mono ?_
          rintro e w2 ⟨rfl, hb⟩
          replace B1 := hidden (keepB B1.out hb)
          clear hb I1 I2 M1 M2 BA d0 d1 e1 e2
          by_cases hz : eqF n N A (D.m1 k) (D.L1 k) (D.m2 k) (D.L2 k) = 0
          · have HN := hidden (eqsTo_next HI.out.1 hz)
            rw [hz]
            clear hz
            go_wp2
            go_roundw
            case rel => exact ⟨k + 1, by omega, by go_num, hidden ⟨HN.out, B1.out⟩⟩
            case measure => simp [intOf]; omega
          · have HN := hidden (eqsTo_first HI.out.1 hz m hlt)
            have hz' : (eqF n N A (D.m1 k) (D.L1 k) (D.m2 k) (D.L2 k) != 0) = true := by simpa using hz
            generalize eqF n N A (D.m1 k) (D.L1 k) (D.m2 k) (D.L2 k) = z at *
            clear hz
            go_wp2
            go_ret
            exact ⟨by rw [HR.out, HN.out]; rfl, keepB B.out B1.out⟩
        · obtain rfl : m = k := by omega
          go_wp2
          go_ret
          exact ⟨by rw [HR.out, HI.out.1]; rfl, keepB B.out HI.out.2⟩
  · have HR := hidden (eqs_fault (m := m) (D := D) hf)
    have hf' : (faultF n N A != 0) = true := by simpa using hf
    generalize faultF n N A = z at *
    clear hf
    go_wp2
    go_ret
    exact ⟨by rw [HR.out]; rfl, B.out⟩

end Go.Proofs.Ytbdgnpjbmlcchaa

/- Contracts: how many nodes are a given one: CountOf, as the model and as the program tells it. -/
namespace Go.Proofs.Ytbdgnpjbmlcchaa
open Go.RowKit

/-- How many of the first k nodes are x. -/
def cntN (T : Nat → Int) (x : Int) : Nat → Nat
  | 0 => 0
  | k + 1 => cntN T x k + (if T k = x then 1 else 0)

theorem cnt_le (T : Nat → Int) (x : Int) : ∀ k, cntN T x k ≤ k
  | 0 => Nat.le_refl _
  | k + 1 => by have := cnt_le T x k; simp only [cntN]; split <;> omega

noncomputable def ctC (n : Nat) (N : Nat → ByteArray) (A : Nat → Int) (m : Nat) (T : Nat → Int) (x : Int) : Int := if termF n N A m T = 0 then (if nodeB x n = true then 0 else 3) else termF n N A m T
noncomputable def ctV (n : Nat) (N : Nat → ByteArray) (A : Nat → Int) (m : Nat) (T : Nat → Int) (x : Int) : Int := if termF n N A m T = 0 ∧ nodeB x n = true then (cntN T x m : Int) else 0

section
variable {n : Nat} {N : Nat → ByteArray} {A : Nat → Int} {m : Nat} {T : Nat → Int} {x : Int}
theorem ct_fault (h : termF n N A m T ≠ 0) : ctC n N A m T x = termF n N A m T ∧ ctV n N A m T x = 0 := by simp [ctC, ctV, h]
theorem ct_range (h : termF n N A m T = 0) (hx : nodeB x n = false) : ctC n N A m T x = 3 ∧ ctV n N A m T x = 0 := by simp [ctC, ctV, h, hx]
theorem ct_ok (h : termF n N A m T = 0) (hx : nodeB x n = true) : ctC n N A m T x = 0 ∧ ctV n N A m T x = (cntN T x m : Int) := by simp [ctC, ctV, h, hx]
end

set_option maxRecDepth 20000 in
set_option maxHeartbeats 400000 in
theorem l3Count_any (b off m c : Nat) (T : Nat → Int) (x : Int) (w : World) (h : Ints w b off m T) (hm : m ≤ 1048576) :
    Calls Try.prog 70 #[.slice (some ⟨b, off, none⟩) m c, .int .i64 x] w fun e w' => e = .returned (.int .i64 (cntN T x m)) ∧ Below w.heap.size w w' := by
  go_enter Try.func70, Try.ntmps70
  go_wp2
  go_loopw [5, 6] (fun z i wr => ∃ k r : Nat, k ≤ m ∧ i = .int .i64 k ∧ z = .int .i64 r ∧ r ≤ k ∧ Hid (r = cntN T x k) ∧ ∃ q, wr = w.drewN q) (fun _ i _ => m - (intOf i).toNat)
  case atStart => exact ⟨0, 0, Nat.zero_le _, rfl, rfl, Nat.zero_le _, hidden rfl, 0, rfl⟩
  case round =>
    obtain ⟨k, r, hk, rfl, rfl, hr, HE, q, rfl⟩ := hrel
    by_cases hlt : k < m
    · have c1 := h.cell k hlt
      by_cases he : T k = x
      · have HR := hidden (show r + 1 = cntN T x (k + 1) by simp only [cntN, if_pos he]; rw [HE.out])
        rw [he] at c1
        clear he HE
        go_wp2
        go_roundw
        case rel => exact ⟨k + 1, r + 1, by omega, by go_num, by go_num, by omega, HR, _, rfl⟩
        case measure => simp [intOf]; omega
      · have he' : (T k == x) = false := by simpa using he
        have HR := hidden (show r = cntN T x (k + 1) by simp only [cntN, if_neg he]; rw [HE.out]; rfl)
        clear he HE
        go_wp2
        go_roundw
        case rel => exact ⟨k + 1, r, by omega, by go_num, rfl, by omega, HR, _, rfl⟩
        case measure => simp [intOf]; omega
    · obtain rfl : m = k := by omega
      go_wp2
      go_ret
      exact ⟨by rw [← HE.out]; rfl, below_drewN (Below.refl _ _) _⟩

end Go.Proofs.Ytbdgnpjbmlcchaa

/- Contracts: what a binding binds, as the program's meaning tells it; ApplyBinding, as the program makes it. -/
namespace Go.Proofs.Ytbdgnpjbmlcchaa
open Go.RowKit

/-- The place, or -1. -/
def ixV (V : Nat → Int) (v : Int) (m : Nat) : Int := match bdI V v m with | some i => (i : Int) | none => -1

theorem ixV_some {V : Nat → Int} {v : Int} {m i : Nat} (h : bdI V v m = some i) : ixV V v m = i := by simp [ixV, h]
theorem ixV_none {V : Nat → Int} {v : Int} {m : Nat} (h : bdI V v m = none) : ixV V v m = -1 := by simp [ixV, h]

set_option maxRecDepth 20000 in
set_option maxHeartbeats 800000 in
theorem ixAt_any (b off m c : Nat) (V : Nat → Int) (v : Int) (w : World) (h : Ints w b off m V) (hm : m ≤ 1048576) :
    Calls Try.prog 95 #[.slice (some ⟨b, off, none⟩) m c, .int .i64 v] w fun e w' => e = .returned (.int .i64 (ixV V v m)) ∧ Below w.heap.size w w' := by
  go_enter Try.func95, Try.ntmps95
  go_wp2
  go_loopw [8] (fun i wr => ∃ k : Nat, k ≤ m ∧ i = .int .i64 k ∧ Hid (∀ j, j < k → V j ≠ v) ∧ wr = w) (fun i _ => m - (intOf i).toNat)
  case atStart => exact ⟨0, Nat.zero_le _, rfl, hidden (fun j hj => by omega), rfl⟩
  case round =>
    obtain ⟨k, hk, rfl, HE, rfl⟩ := hrel
    by_cases hlt : k < m
    · have c1 := h.cell k hlt
      by_cases hv : V k = v
      · have HR := hidden (ixV_some (bdI_first HE.out hv m hlt))
        rw [hv] at c1
        clear hv
        go_wp2
        go_ret
        exact ⟨by rw [HR.out]; rfl, Below.refl _ _⟩
      · have HV := hidden hv
        have hv' : (v == V k) = false := by simpa using (fun e => hv (Eq.symm e))
        clear hv
        go_wp2
        go_roundw
        case rel => exact ⟨k + 1, by omega, by go_num, hidden (fun j hj => by
          by_cases e : j = k
          · rw [e]; exact HV.out
          · exact HE.out j (by omega)), by trivial⟩
        case measure => simp [intOf]; omega
    · have HR := hidden (ixV_none (bdI_none (V := V) (v := v) m (fun i hi => HE.out i (by omega))))
      go_wp2
      go_ret
      exact ⟨by rw [HR.out]; rfl, Below.refl _ _⟩

theorem ap_len {n : Nat} {N : Nat → ByteArray} {A : Nat → Int} {m : Nat} {V : Nat → Int} {t : Nat} {D : LsL} {k : Nat} {T : Nat → Int} (h : apC n N A m V t D k T = 0) : (putL (bdN m V D) T k).length ≤ 24 := by
  by_cases hf : bnF n N A m V t D = 0
  · by_cases hl : lF n A k T = 0
    · rw [ap_put hf hl] at h
      by_cases h2 : 24 < (putL (bdN m V D) T k).length
      · rw [if_pos h2] at h; cases h
      · omega
    · rw [ap_term hf hl] at h; exact absurd h hl
  · rw [ap_fault hf] at h; exact absurd h hf

end Go.Proofs.Ytbdgnpjbmlcchaa

/- Contracts: the fault of rules, as the model and as the program tells it. -/
namespace Go.Proofs.Ytbdgnpjbmlcchaa
open Go.RowKit

/-- A variable that the left side has not. -/
def badV (L1 : Nat → Int) (m1 : Nat) (x : Int) : Prop := x < 0 ∧ ∀ i, i < m1 → L1 i ≠ x

/-- An equation that is no rule. -/
def noRu (D : EqL) (i : Nat) : Prop := D.L1 i 0 < 0 ∨ ∃ j, j < D.m2 i ∧ badV (D.L1 i) (D.m1 i) (D.L2 i j)

open Classical in
noncomputable def badB (L1 : Nat → Int) (m1 : Nat) (x : Int) : Bool := decide (badV L1 m1 x)
open Classical in
noncomputable def anyBad (L1 : Nat → Int) (m1 : Nat) (L2 : Nat → Int) (m2 : Nat) : Bool := decide (∃ j, j < m2 ∧ badV L1 m1 (L2 j))

open Classical in
theorem badB_iff {L1 : Nat → Int} {m1 : Nat} {x : Int} : badB L1 m1 x = true ↔ badV L1 m1 x := by unfold badB; exact decide_eq_true_iff
theorem badB_not {L1 : Nat → Int} {m1 : Nat} {x : Int} (h : ¬ badV L1 m1 x) : badB L1 m1 x = false := by
  cases hh : badB L1 m1 x with
  | false => rfl
  | true => exact absurd (badB_iff.1 hh) h
open Classical in
theorem anyBad_iff {L1 : Nat → Int} {m1 : Nat} {L2 : Nat → Int} {m2 : Nat} : anyBad L1 m1 L2 m2 = true ↔ ∃ j, j < m2 ∧ badV L1 m1 (L2 j) := by unfold anyBad; exact decide_eq_true_iff
theorem anyBad_not {L1 : Nat → Int} {m1 : Nat} {L2 : Nat → Int} {m2 : Nat} (h : ¬ ∃ j, j < m2 ∧ badV L1 m1 (L2 j)) : anyBad L1 m1 L2 m2 = false := by
  cases hh : anyBad L1 m1 L2 m2 with
  | false => rfl
  | true => exact absurd (anyBad_iff.1 hh) h

open Classical in
/-- The fault of rules. -/
noncomputable def ruF (n : Nat) (N : Nat → ByteArray) (A : Nat → Int) (m : Nat) (D : EqL) : Int :=
  if eqsF n N A m D = 0 then (if ∃ i, i < m ∧ noRu D i then 1 else 0) else eqsF n N A m D

section
variable {n : Nat} {N : Nat → ByteArray} {A : Nat → Int} {m : Nat} {D : EqL}
theorem ru_fault (h : eqsF n N A m D ≠ 0) : ruF n N A m D = eqsF n N A m D := by rw [ruF, if_neg h]
theorem ru_bad (h : eqsF n N A m D = 0) {i : Nat} (hi : i < m) (hb : noRu D i) : ruF n N A m D = 1 := by rw [ruF, if_pos h, if_pos ⟨i, hi, hb⟩]
theorem ru_ok (h : eqsF n N A m D = 0) (hb : ∀ i, i < m → ¬ noRu D i) : ruF n N A m D = 0 := by
  rw [ruF, if_pos h, if_neg]; rintro ⟨i, hi, e⟩; exact hb i hi e

theorem eqF_trm {m1 : Nat} {L1 : Nat → Int} {m2 : Nat} {L2 : Nat → Int} (h : eqF n N A m1 L1 m2 L2 = 0) : Trm n A m1 L1 ∧ Trm n A m2 L2 := by
  by_cases h1 : termF n N A m1 L1 = 0
  · by_cases h2 : termF n N A m2 L2 = 0
    · exact ⟨term_right h1, term_right h2⟩
    · rw [eqF_right h1 h2] at h; exact absurd h h2
  · rw [eqF_left h1] at h; exact absurd h h1

/-- Equations without a fault. -/
structure EqOk (n : Nat) (A : Nat → Int) (m : Nat) (D : EqL) : Prop where
  sig : Sound n A
  most : m ≤ 12
  trm : ∀ i, i < m → Trm n A (D.m1 i) (D.L1 i) ∧ Trm n A (D.m2 i) (D.L2 i)

theorem eqs_sig (h : eqsF n N A m D = 0) : faultF n N A = 0 := by
  refine Classical.byContradiction fun hf => ?_
  rw [eqs_fault hf] at h; exact hf h
theorem eqs_ok (h : eqsF n N A m D = 0) : EqOk n A m D := by
  have hf := eqs_sig h
  by_cases hm : 12 < m
  · rw [eqs_many hf hm] at h; omega
  · rw [eqs_to hf hm] at h
    exact ⟨fault_sound hf, by omega, fun i hi => eqF_trm (eqsTo_each m h i hi)⟩

/-- Rules without a fault. -/
structure RuOk (n : Nat) (A : Nat → Int) (m : Nat) (D : EqL) : Prop where
  eqs : EqOk n A m D
  rule : ∀ i, i < m → ¬ noRu D i

theorem ru_eqs (h : ruF n N A m D = 0) : eqsF n N A m D = 0 := by
  refine Classical.byContradiction fun hf => ?_
  rw [ru_fault hf] at h; exact hf h
theorem ru_right (h : ruF n N A m D = 0) : RuOk n A m D := by
  have he := ru_eqs h
  refine ⟨eqs_ok he, fun i hi hb => ?_⟩
  rw [ru_bad he hi hb] at h; omega
theorem ru_sig (h : faultF n N A ≠ 0) : ruF n N A m D = faultF n N A := by
  have e := eqs_fault (m := m) (D := D) h
  rw [ru_fault (by rw [e]; exact h), e]
end

theorem cntN_zero {T : Nat → Int} {x : Int} : ∀ k, cntN T x k = 0 ↔ ∀ i, i < k → T i ≠ x
  | 0 => by simp [cntN]
  | k + 1 => by
    have ih := cntN_zero (T := T) (x := x) k
    simp only [cntN]
    constructor
    · intro h i hi
      by_cases e : i = k
      · subst e
        intro e2
        rw [if_pos e2] at h
        omega
      · exact ih.1 (by omega) i (by omega)
    · intro h
      rw [ih.2 (fun i hi => h i (by omega)), if_neg (h k (by omega))]

theorem bdI_no {V : Nat → Int} {v : Int} : ∀ k, bdI V v k = none → ∀ i, i < k → V i ≠ v
  | 0, _, i, hi => by omega
  | k + 1, h, i, hi => by
    simp only [bdI] at h
    cases hb : bdI V v k with
    | some j => rw [hb] at h; simp at h
    | none =>
      rw [hb] at h
      simp only at h
      have hk : V k ≠ v := by
        intro e
        rw [if_pos e] at h
        cases h
      by_cases e : i = k
      · rw [e]; exact hk
      · exact bdI_no k hb i (by omega)

theorem ixV_no {V : Nat → Int} {v : Int} {m : Nat} : ixV V v m < 0 ↔ ∀ i, i < m → V i ≠ v := by
  cases hb : bdI V v m with
  | some i =>
    rw [ixV_some hb]
    have := bdI_some m i hb
    constructor
    · intro h; omega
    · intro h; exact absurd this.2 (h i this.1)
  | none =>
    rw [ixV_none hb]
    exact ⟨fun _ => bdI_no m hb, fun _ => by omega⟩

set_option maxRecDepth 20000 in
set_option maxHeartbeats 3200000 in
theorem l8Fault_any (B b off n c b' off' m c' : Nat) (N : Nat → ByteArray) (A : Nat → Int) (D : EqL) (w : World) (hd : One w B (.slice (some ⟨b, off, none⟩) n c)) (h : Syms w b off n N A) (h' : Eqs w b' off' m D) (hf : faultF n N A = 0) (hk : KeptE m D) :
    Calls Try.prog 52 #[.pointer (some ⟨B, 0, none⟩), .slice (some ⟨b', off', none⟩) m c'] w fun e w' => e = .returned (.int .i64 (ruF n N A m D)) ∧ Below w.heap.size w w' := by
  have hm := hk.most
  have Q := hidden h
  have X := hidden h'
  have HD := hidden hd
  have HF := hidden hf
  have HK := hidden hk
  clear h h' hd hf hk
  go_enter Try.func52, Try.ntmps52
  go_wp2_with fail
  with_reducible refine (l5Fault_any _ _ _ _ _ _ _ _ _ N A D _ HD.out Q.out X.out HF.out HK.out).mono ?_
  rintro e w1 ⟨rfl, hb⟩
  replace X := hidden (X.out.keep hb)
  have B1 := hidden hb
  clear hb HD Q HF HK
  by_cases hz : eqsF n N A m D = 0
  · have E := hidden (eqs_ok hz)
    have RB := hidden (fun i hi (hb : noRu D i) => ru_bad hz (i := i) hi hb)
    have RO := hidden (fun h => ru_ok hz h)
    rw [hz]
    clear hz
    go_wp2
    go_loopw [6] (fun i wr => ∃ k : Nat, k ≤ m ∧ i = .int .i64 (k : Nat) ∧ Hid ((∀ i, i < k → ¬ noRu D i) ∧ Below w1.heap.size w1 wr)) (fun i _ => m - (intOf i).toNat)
    case atStart => exact ⟨0, Nat.zero_le _, rfl, hidden ⟨fun i hi => by omega, Below.refl _ _⟩⟩
    case round =>
      obtain ⟨k, hk, rfl, HI⟩ := hrel
      by_cases hlt : k < m
      · obtain ⟨g1, o1, c1, g2, o2, c2, e1, e2, i1, i2⟩ := (X.out.keep HI.out.2).row k hlt
        have TA := hidden (TwoAt.mk (Nat.lt_of_lt_of_le (X.out.blk (by omega)) HI.out.2.size) e1 e2)
        have I1 := hidden i1
        have I2 := hidden i2
        have EK := hidden (E.out.trm k hlt)
        have z1 := i1.cell 0 EK.out.1.pos
        have hp1 := EK.out.1.pos
        have h24 := EK.out.1.nods.most
        have h242 := EK.out.2.nods.most
        have RBK := hidden (RB.out k hlt)
        obtain ⟨x, hx⟩ : ∃ x, x = D.L1 k 0 := ⟨_, rfl⟩
        have HX := hidden hx
        rw [← hx, Nat.add_zero] at z1
        clear hx i1 i2
        by_cases hx0 : x < 0
        · have HR := hidden (RBK.out (Or.inl (by rw [← HX.out]; exact hx0)))
          go_wp2
          go_ret
          exact ⟨by rw [HR.out]; rfl, keepB B1.out HI.out.2⟩
        · have HX0 := hidden hx0
          obtain ⟨mm1, hmm1⟩ : ∃ q, q = D.m1 k := ⟨_, rfl⟩
          obtain ⟨mm2, hmm2⟩ : ∃ q, q = D.m2 k := ⟨_, rfl⟩
          rw [← hmm1] at TA I1 e1 hp1 h24
          rw [← hmm2] at TA I2 e2 h242
          have HM1 := hidden hmm1
          have HM2 := hidden hmm2
          clear hmm1 hmm2
          go_wp2
          clear e1 e2 z1
          go_loopw [7] (fun i wr' => ∃ j : Nat, j ≤ mm2 ∧ i = .int .i64 (j : Nat) ∧ Hid ((∀ i, i < j → ¬ badV (D.L1 k) mm1 (D.L2 k i)) ∧ Below wr.heap.size wr wr')) (fun i _ => mm2 - (intOf i).toNat)
          case atStart => exact ⟨0, Nat.zero_le _, rfl, hidden ⟨fun i hi => by omega, (Below.refl _ _)⟩⟩
          case round =>
            rename_i wr2 _ _
            obtain ⟨j, hj, rfl, HJ⟩ := hrel
            have e1 := (TA.out.keep HJ.out.2).c0
            have e2 := (TA.out.keep HJ.out.2).c1
            by_cases hjlt : j < mm2
            · have z2 := (I2.out.keep HJ.out.2).cell j hjlt
              obtain ⟨y, hy⟩ : ∃ y, y = D.L2 k j := ⟨_, rfl⟩
              have HY := hidden hy
              rw [← hy] at z2
              clear hy
              by_cases hy0 : y < 0
              · go_wp2_with fail
                with_reducible refine (l3Count_any _ _ _ _ (D.L1 k) y _ (I1.out.keep HJ.out.2) (by omega)).mono ?_
                rintro e w3 ⟨rfl, hb⟩
                have B3 := hidden (keepB HJ.out.2 hb)
                clear hb e1 e2 z2
                by_cases hc : cntN (D.L1 k) y mm1 = 0
                · have HR := hidden (RBK.out (Or.inr ⟨j, by rw [← HM2.out]; exact hjlt, by rw [← HY.out]; exact ⟨hy0, by rw [← HM1.out]; exact (cntN_zero _).1 hc⟩⟩))
                  rw [hc]
                  clear hc
                  go_wp2
                  go_ret
                  exact ⟨by rw [HR.out]; rfl, keepB (keepB B1.out HI.out.2) B3.out⟩
                · have HC := hidden hc
                  have hc' : ((cntN (D.L1 k) y mm1 : Int) == 0) = false := by simp; omega
                  generalize (cntN (D.L1 k) y mm1 : Int) = z at *
                  clear hc
                  go_wp2
                  go_roundw
                  case rel => exact ⟨j + 1, by omega, by go_num, hidden ⟨fun i hi => by
                    by_cases e : i = j
                    · rw [e, ← HY.out]; intro hb; exact HC.out ((cntN_zero _).2 hb.2)
                    · exact HJ.out.1 i (by omega), B3.out⟩⟩
                  case measure => simp [intOf]; omega
              · have HC := hidden hy0
                go_wp2
                go_roundw
                case rel => exact ⟨j + 1, by omega, by go_num, hidden ⟨fun i hi => by
                  by_cases e : i = j
                  · rw [e, ← HY.out]; intro hb; exact HC.out hb.1
                  · exact HJ.out.1 i (by omega), HJ.out.2⟩⟩
                case measure => simp [intOf]; omega
            · have HN := hidden (show ¬ noRu D k by
                rintro (h | ⟨i, hi, hb⟩)
                · rw [← HX.out] at h; have := HX0.out; omega
                · rw [← HM2.out] at hi
                  rw [← HM1.out] at hb
                  exact HJ.out.1 i (by omega) hb)
              go_wp2
              go_roundw
              case rel => exact ⟨k + 1, by omega, by go_num, hidden ⟨fun i hi => by
                by_cases e : i = k
                · rw [e]; exact HN.out
                · exact HI.out.1 i (by omega), keepB HI.out.2 HJ.out.2⟩⟩
              case measure => simp [intOf]; omega
      · obtain rfl : m = k := by omega
        have HR := hidden (RO.out HI.out.1)
        go_wp2
        go_ret
        exact ⟨by rw [HR.out]; rfl, keepB B1.out HI.out.2⟩
  · have HR := hidden (ru_fault hz)
    have hz' : (eqsF n N A m D != 0) = true := by simpa using hz
    generalize eqsF n N A m D = z at *
    clear hz
    go_wp2
    go_ret
    exact ⟨by rw [HR.out]; rfl, B1.out⟩

set_option maxRecDepth 20000 in
set_option maxHeartbeats 800000 in
theorem specRu_any (b off n c b' off' m c' : Nat) (N : Nat → ByteArray) (A : Nat → Int) (D : EqL) (w : World) (h : Syms w b off n N A) (h' : Eqs w b' off' m D) (hk : Kept n N A) (hk' : KeptE m D) :
    Calls Try.prog 41 #[.agg #[.slice (some ⟨b, off, none⟩) n c], .slice (some ⟨b', off', none⟩) m c'] w fun e w' => e = .returned (.int .i64 (ruF n N A m D)) ∧ Below w.heap.size w w' := by
  have X := hidden (One.new w (.slice (some ⟨b, off, none⟩) n c) 34)
  have B := hidden (alloc_below w (.cells #[.slice (some ⟨b, off, none⟩) n c] 34))
  have Q := hidden (h.keep B.out)
  have I := hidden (h'.keep B.out)
  have HK := hidden hk
  have HK' := hidden hk'
  clear h h' hk hk'
  go_enter Try.func41, Try.ntmps41
  go_wp2_with fail
  with_reducible refine (specFault_all _ _ _ _ N A _ Q.out HK.out).mono ?_
  rintro e w1 ⟨rfl, hb⟩
  replace X := hidden (X.out.keep hb)
  replace B := hidden (keepB B.out hb)
  replace I := hidden (I.out.keep hb)
  replace Q := hidden (Q.out.keep hb)
  clear hb
  by_cases hf : faultF n N A = 0
  · have HF := hidden hf
    rw [hf]
    clear hf
    go_wp2_with fail
    with_reducible refine (l8Fault_any _ _ _ _ _ _ _ _ _ N A D _ X.out Q.out I.out HF.out HK'.out).mono ?_
    rintro e w2 ⟨rfl, hb⟩
    replace B := hidden (keepB B.out hb)
    clear hb
    go_wp2
    go_ret
    exact ⟨rfl, B.out⟩
  · have HR := hidden (ru_sig (m := m) (D := D) hf)
    have hf' : (faultF n N A != 0) = true := by simpa using hf
    generalize faultF n N A = z at *
    clear hf
    go_wp2
    go_ret
    exact ⟨by rw [HR.out]; rfl, B.out⟩

set_option maxRecDepth 20000 in
set_option maxHeartbeats 400000 in
theorem containsI_any (b off m c : Nat) (V : Nat → Int) (v : Int) (w : World) (h : Ints w b off m V) (hm : m ≤ 1048576) :
    Calls Try.prog 78 #[.slice (some ⟨b, off, none⟩) m c, .int .i64 v] w fun e w' => e = .returned (.bool (decide (0 ≤ ixV V v m))) ∧ Below w.heap.size w w' := by
  have H := hidden h
  clear h
  go_enter Try.func78, Try.ntmps78
  go_wp2_with fail
  with_reducible refine (ixAt_any _ _ _ _ V v _ H.out hm).mono ?_
  rintro e w1 ⟨rfl, hb⟩
  have B := hidden hb
  obtain ⟨z, hz⟩ : ∃ z, z = ixV V v m := ⟨_, rfl⟩
  have HZ := hidden hz
  rw [← hz]
  clear hb hz
  go_wp2
  go_ret
  exact ⟨by rw [← HZ.out]; rfl, B.out⟩

set_option maxRecDepth 20000 in
theorem enters_ru : Enters 77 := fun _ _ => rfl

set_option maxRecDepth 20000 in
set_option maxHeartbeats 800000 in
theorem isRule1_any (Bx b1 o1 m1 c1 : Nat) (y : Value) (L1 : Nat → Int) (x : Int) (w : World) (he : Two w Bx (.slice (some ⟨b1, o1, none⟩) m1 c1) y) (h1 : Ints w b1 o1 m1 L1) (hm : m1 ≤ 1048576) (hx : -12 ≤ x) :
    Calls Try.prog 77 #[.int .i64 x, .pointer (some ⟨Bx, 0, none⟩)] w fun e w' => e = .returned (.bool (badB L1 m1 x)) ∧ Below w.heap.size w w' := by
  have X := hidden he
  have I := hidden h1
  clear he h1
  go_enter Try.func77, Try.ntmps77
  go_wp2_with fail
  with_reducible refine (isVariable_any _ _).mono ?_
  rintro e w1 ⟨rfl, hb⟩
  replace X := hidden (X.out.keep hb)
  replace I := hidden (I.out.keep hb)
  have B := hidden hb
  clear hb
  by_cases hv : x < 0
  · rw [show varB x = true by simp [varB]; omega]
    have x0 := X.out.c0
    go_wp2_with fail
    with_reducible refine (containsI_any _ _ _ _ L1 x _ I.out hm).mono ?_
    rintro e w2 ⟨rfl, hb⟩
    replace B := hidden (keepB B.out hb)
    have HR := hidden (show badB L1 m1 x = !decide (0 ≤ ixV L1 x m1) by
      by_cases hi : ixV L1 x m1 < 0
      · rw [badB_iff.2 ⟨hv, ixV_no.1 hi⟩, decide_eq_false (by omega)]; rfl
      · rw [badB_not (fun hh => hi (ixV_no.2 hh.2)), decide_eq_true (by omega)]; rfl)
    clear hb x0
    generalize decide (0 ≤ ixV L1 x m1) = z at *
    go_wp2
    go_ret
    exact ⟨by rw [HR.out]; rfl, B.out⟩
  · rw [show varB x = false by simp [varB]; omega]
    have HR := hidden (show badB L1 m1 x = false from badB_not (fun hh => hv hh.1))
    clear hv
    go_wp2
    go_ret
    exact ⟨by rw [HR.out]; rfl, B.out⟩

set_option maxRecDepth 20000 in
set_option maxHeartbeats 800000 in
theorem indexRu_any (b2 o2 m2 c2 Bx b1 o1 m1 c1 : Nat) (y : Value) (L1 L2 : Nat → Int) (w : World) (h2 : Ints w b2 o2 m2 L2) (he : Two w Bx (.slice (some ⟨b1, o1, none⟩) m1 c1) y) (h1 : Ints w b1 o1 m1 L1) (hm1 : m1 ≤ 24) (hm2 : m2 ≤ 24) (hx : ∀ i, i < m2 → -12 ≤ L2 i) :
    Calls Try.prog 94 #[.slice (some ⟨b2, o2, none⟩) m2 c2, .func (Fn.func 77) #[] #[.pointer (some ⟨Bx, 0, none⟩)]] w fun e w' => (∃ r : Int, e = .returned (.int .i64 r) ∧ (decide (0 ≤ r) = anyBad L1 m1 L2 m2)) ∧ Below w.heap.size w w' := by
  have H := hidden h2
  have X := hidden he
  have I := hidden h1
  have HX := hidden hx
  clear h2 he h1 hx
  go_enter Try.func94, Try.ntmps94
  go_wp2_with fail
  go_loopw [8] (fun i wr => ∃ k : Nat, k ≤ m2 ∧ i = .int .i64 k ∧ Hid (∀ i, i < k → ¬ badV L1 m1 (L2 i)) ∧ Hid (Below w.heap.size w wr)) (fun i _ => m2 - (intOf i).toNat)
  case atStart => exact ⟨0, Nat.zero_le _, rfl, hidden (fun i hi => by omega), hidden (Below.refl _ _)⟩
  case round =>
    obtain ⟨k, hk, rfl, HE, HB⟩ := hrel
    by_cases hlt : k < m2
    · have c1 := (H.out.keep HB.out).cell k hlt
      have HXk := hidden (HX.out k hlt)
      obtain ⟨x, hx⟩ : ∃ x, x = L2 k := ⟨_, rfl⟩
      have HXX := hidden hx
      simp only [← hx] at c1 HXk
      clear hx
      go_wp2_with fail
      with_reducible refine (isRule1_any _ _ _ _ _ _ _ x _ (X.out.keep HB.out) (I.out.keep HB.out) (by omega) HXk.out).mono ?_
      rintro e w1 ⟨rfl, hb⟩
      have B1 := hidden (keepB HB.out hb)
      clear hb c1 HB
      by_cases hz : badV L1 m1 x
      · have HR := hidden (show anyBad L1 m1 L2 m2 = true from anyBad_iff.2 ⟨k, hlt, by rw [← HXX.out]; exact hz⟩)
        rw [badB_iff.2 hz]
        clear hz
        go_wp2
        go_ret
        exact ⟨⟨_, rfl, by rw [HR.out]; simp⟩, B1.out⟩
      · have HR := hidden hz
        rw [badB_not hz]
        clear hz
        go_wp2
        go_roundw
        case rel => exact ⟨k + 1, by omega, by go_num, hidden (fun j hj => by
          by_cases e : j = k
          · rw [e, ← HXX.out]; exact HR.out
          · exact HE.out j (by omega)), B1⟩
        case measure => simp [intOf]; omega
    · have HR := hidden (show anyBad L1 m1 L2 m2 = false from anyBad_not (by
        rintro ⟨i, hi, e⟩
        exact HE.out i (by omega) e))
      go_wp2
      go_ret
      exact ⟨⟨_, rfl, by rw [HR.out]; rfl⟩, HB.out⟩

set_option maxRecDepth 20000 in
set_option maxHeartbeats 400000 in
theorem containsRu_any (p : Option Addr) (n c bx : Nat) (z : Bool) (w : World)
    (h : Calls Try.prog 94 #[.slice p n c, .func (Fn.func 77) #[] #[.pointer (some ⟨bx, 0, none⟩)]] w fun e w' => (∃ r : Int, e = .returned (.int .i64 r) ∧ (decide (0 ≤ r) = z)) ∧ Below w.heap.size w w') :
    Calls Try.prog 76 #[.slice p n c, .func (Fn.func 77) #[] #[.pointer (some ⟨bx, 0, none⟩)]] w fun e w' => e = .returned (.bool z) ∧ Below w.heap.size w w' := by
  have H := hidden h
  clear h
  go_enter Try.func76, Try.ntmps76
  go_wp2_with fail
  with_reducible refine H.out.mono ?_
  rintro e w1 ⟨⟨r, rfl, hr⟩, hb⟩
  have HR := hidden hr
  have B := hidden hb
  clear hr hb
  go_wp2
  go_ret
  exact ⟨by rw [← HR.out]; rfl, B.out⟩

noncomputable def ruB (L1 : Nat → Int) (m1 : Nat) (L2 : Nat → Int) (m2 : Nat) : Bool := decide (¬ L1 0 < 0) && !anyBad L1 m1 L2 m2

theorem ruB_no {D : EqL} {k : Nat} : ruB (D.L1 k) (D.m1 k) (D.L2 k) (D.m2 k) = true ↔ ¬ noRu D k := by
  unfold ruB noRu
  rw [Bool.and_eq_true, decide_eq_true_iff, Bool.not_eq_true']
  constructor
  · rintro ⟨h1, h2⟩ (hh | hh)
    · exact h1 hh
    · rw [anyBad_iff.2 hh] at h2; cases h2
  · intro h
    exact ⟨fun x => h (Or.inl x), anyBad_not (fun x => h (Or.inr x))⟩

set_option maxRecDepth 20000 in
set_option maxHeartbeats 1600000 in
theorem isRule_any (b1 o1 m1 c1 b2 o2 m2 c2 : Nat) (L1 L2 : Nat → Int) (w : World) (h1 : Ints w b1 o1 m1 L1) (h2 : Ints w b2 o2 m2 L2) (hp : 0 < m1) (hm1 : m1 ≤ 24) (hm2 : m2 ≤ 24) (hx0 : -12 ≤ L1 0) (hx : ∀ i, i < m2 → -12 ≤ L2 i) :
    Calls Try.prog 58 #[.agg #[.slice (some ⟨b1, o1, none⟩) m1 c1, .slice (some ⟨b2, o2, none⟩) m2 c2]] w fun e w' => e = .returned (.bool (ruB L1 m1 L2 m2)) ∧ Below w.heap.size w w' := by
  have hmf : ∀ (fn : Fn) (first cap : Array Value) (w : World), (Instr.makeFunc fn first cap).run Try.prog w = .ok (.func fn first cap) w := fun _ _ _ _ => rfl
  have X := hidden (Two.new w (.slice (some ⟨b1, o1, none⟩) m1 c1) (.slice (some ⟨b2, o2, none⟩) m2 c2) 56)
  have B := hidden (alloc_below w (.cells #[.slice (some ⟨b1, o1, none⟩) m1 c1, .slice (some ⟨b2, o2, none⟩) m2 c2] 56))
  have I1 := hidden (h1.keep B.out)
  have I2 := hidden (h2.keep B.out)
  have HX := hidden hx
  have z1 := I1.out.cell 0 hp
  obtain ⟨x, hxx⟩ : ∃ x, x = L1 0 := ⟨_, rfl⟩
  have HXX := hidden hxx
  rw [← hxx] at z1 hx0
  rw [Nat.add_zero] at z1
  clear h1 h2 hx hxx
  go_enter Try.func58, Try.ntmps58
  go_wp2_with fail
  with_reducible refine (isVariable_any _ _).mono ?_
  rintro e w1 ⟨rfl, hb⟩
  replace X := hidden (X.out.keep hb)
  replace I1 := hidden (I1.out.keep hb)
  replace I2 := hidden (I2.out.keep hb)
  replace B := hidden (keepB B.out hb)
  clear hb z1
  by_cases hv : x < 0
  · have HR := hidden (show ruB L1 m1 L2 m2 = false by unfold ruB; rw [decide_eq_false (by rw [← HXX.out]; exact fun h => h hv)]; rfl)
    rw [show varB x = true by simp [varB]; omega]
    clear hv
    go_wp2
    go_ret
    exact ⟨by rw [HR.out]; rfl, B.out⟩
  · have HR := hidden (show ruB L1 m1 L2 m2 = !anyBad L1 m1 L2 m2 by unfold ruB; rw [decide_eq_true (by rw [← HXX.out]; exact hv)]; rfl)
    rw [show varB x = false by simp [varB]; omega]
    clear hv
    have x1 := X.out.c1
    go_wp2_with fail
    with_reducible refine (containsRu_any _ _ _ _ _ _ (indexRu_any _ _ _ _ _ _ _ _ _ _ L1 L2 _ I2.out X.out I1.out hm1 hm2 HX.out)).mono ?_
    rintro e w2 ⟨rfl, hb⟩
    replace B := hidden (keepB B.out hb)
    clear hb x1
    generalize anyBad L1 m1 L2 m2 = z at *
    go_wp2
    go_ret
    exact ⟨by rw [HR.out]; rfl, B.out⟩

set_option maxRecDepth 20000 in
set_option maxHeartbeats 1600000 in
theorem implRu_any (b off n c b' off' m c' : Nat) (N : Nat → ByteArray) (A : Nat → Int) (D : EqL) (w : World) (h : Syms w b off n N A) (h' : Eqs w b' off' m D) (hk : Kept n N A) (hk' : KeptE m D) :
    Calls Try.prog 46 #[.agg #[.slice (some ⟨b, off, none⟩) n c], .slice (some ⟨b', off', none⟩) m c'] w fun e w' => e = .returned (.int .i64 (ruF n N A m D)) ∧ Below w.heap.size w w' := by
  have B := hidden (alloc_below w (.cells #[.slice (some ⟨b, off, none⟩) n c] 34))
  have Q := hidden (h.keep B.out)
  have I := hidden (h'.keep B.out)
  have HK := hidden hk
  have HK' := hidden hk'
  have hm := hk'.most
  clear h h' hk hk'
  go_enter Try.func46, Try.ntmps46
  go_wp2_with fail
  with_reducible refine (implEqs_any _ _ _ _ _ _ _ _ N A D _ Q.out I.out HK.out HK'.out).mono ?_
  rintro e w1 ⟨rfl, hb⟩
  replace B := hidden (keepB B.out hb)
  replace I := hidden (I.out.keep hb)
  clear hb Q
  by_cases hz : eqsF n N A m D = 0
  · have E := hidden (eqs_ok hz)
    have RB := hidden (fun i hi (hb : noRu D i) => ru_bad hz (i := i) hi hb)
    have RO := hidden (fun h => ru_ok hz h)
    rw [hz]
    clear hz
    go_wp2
    go_loopw [16] (fun i wr => ∃ k : Nat, k ≤ m ∧ i = .int .i64 (k : Nat) ∧ Hid ((∀ i, i < k → ¬ noRu D i) ∧ Below w1.heap.size w1 wr)) (fun i _ => m - (intOf i).toNat)
    case atStart => exact ⟨0, Nat.zero_le _, rfl, hidden ⟨fun i hi => by omega, Below.refl _ _⟩⟩
    case round =>
      obtain ⟨k, hk, rfl, HI⟩ := hrel
      by_cases hlt : k < m
      · obtain ⟨g1, o1, c1, g2, o2, c2, e1, e2, i1, i2⟩ := (I.out.keep HI.out.2).row k hlt
        have BA := hidden (alloc_below wr (.cells #[.slice (some ⟨g1, o1, none⟩) (D.m1 k) c1, .slice (some ⟨g2, o2, none⟩) (D.m2 k) c2] 56))
        have I1 := hidden (i1.keep BA.out)
        have I2 := hidden (i2.keep BA.out)
        have B1 := hidden (keepB HI.out.2 BA.out)
        have EK := hidden (E.out.trm k hlt)
        have RBK := hidden (RB.out k hlt)
        have ge : ∀ {mm : Nat} {LL : Nat → Int}, Trm n A mm LL → ∀ i, i < mm → -12 ≤ LL i := fun ht i hi => by rcases nodeB_cases (ht.nods.node i hi) with ⟨j, e, hj⟩ | hv <;> omega
        have S := hidden (isRule_any g1 o1 (D.m1 k) c1 g2 o2 (D.m2 k) c2 (D.L1 k) (D.L2 k) _ I1.out I2.out EK.out.1.pos EK.out.1.nods.most EK.out.2.nods.most (ge EK.out.1 0 EK.out.1.pos) (ge EK.out.2))
        clear i1 i2 ge
        go_wp2_with fail
        with_reducible refine S.out.mono ?_
        rintro e w2 ⟨rfl, hb⟩
        replace B1 := hidden (keepB B1.out hb)
        clear hb I1 I2 BA e1 e2 S EK
        by_cases hz : noRu D k
        · have HN := hidden (RBK.out hz)
          rw [show ruB (D.L1 k) (D.m1 k) (D.L2 k) (D.m2 k) = false by
            cases hh : ruB (D.L1 k) (D.m1 k) (D.L2 k) (D.m2 k) with
            | false => rfl
            | true => exact absurd hz (ruB_no.1 hh)]
          clear hz
          go_wp2
          go_ret
          exact ⟨by rw [HN.out]; rfl, keepB B.out B1.out⟩
        · have HN := hidden hz
          rw [ruB_no.2 hz]
          clear hz
          go_wp2
          go_roundw
          case rel => exact ⟨k + 1, by omega, by go_num, hidden ⟨fun i hi => by
            by_cases e : i = k
            · rw [e]; exact HN.out
            · exact HI.out.1 i (by omega), B1.out⟩⟩
          case measure => simp [intOf]; omega
      · obtain rfl : m = k := by omega
        have HR := hidden (RO.out HI.out.1)
        go_wp2
        go_ret
        exact ⟨by rw [HR.out]; rfl, keepB B.out HI.out.2⟩
  · have HR := hidden (ru_fault hz)
    have hz' : (eqsF n N A m D != 0) = true := by simpa using hz
    generalize eqsF n N A m D = z at *
    clear hz
    go_wp2
    go_ret
    exact ⟨by rw [HR.out]; rfl, B.out⟩

end Go.Proofs.Ytbdgnpjbmlcchaa
