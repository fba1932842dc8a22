/- Several texts as one: EqnF, EqsF, EqX. -/
import Derived.Test.YtcnkkoegfjggaaaMEA
import Derived.Test.YtcnkkoegfjggaaaGround
/- Contracts: the fault of an equation, as the model and as the program tells it. -/
namespace Go.Proofs.Ytcnkkoegfjggaaa
open Go.RowKit

open Classical in
noncomputable def lowB (m : Nat) (T : Nat → Int) : Bool := decide (∀ i, i < m → -6 ≤ T i)

/-- What EquationFault answers. -/
noncomputable def eqF (n : Nat) (N : Nat → ByteArray) (A : Nat → Int) (m1 : Nat) (L1 : Nat → Int) (m2 : Nat) (L2 : Nat → Int) : Int :=
  if termF n N A m1 L1 = 0 then (if termF n N A m2 L2 = 0 then (if lowB m1 L1 = true ∧ lowB m2 L2 = true then 0 else 3) else termF n N A m2 L2) else termF n N A m1 L1

section
variable {n : Nat} {N : Nat → ByteArray} {A : Nat → Int} {m1 : Nat} {L1 : Nat → Int} {m2 : Nat} {L2 : Nat → Int}
theorem eqF_left (h : termF n N A m1 L1 ≠ 0) : eqF n N A m1 L1 m2 L2 = termF n N A m1 L1 := by rw [eqF, if_neg h]
theorem eqF_right (h : termF n N A m1 L1 = 0) (h2 : termF n N A m2 L2 ≠ 0) : eqF n N A m1 L1 m2 L2 = termF n N A m2 L2 := by rw [eqF, if_pos h, if_neg h2]
theorem eqF_low (h : termF n N A m1 L1 = 0) (h2 : termF n N A m2 L2 = 0) (h3 : lowB m1 L1 = true) (h4 : lowB m2 L2 = true) : eqF n N A m1 L1 m2 L2 = 0 := by rw [eqF, if_pos h, if_pos h2, if_pos ⟨h3, h4⟩]
theorem eqF_high (h : termF n N A m1 L1 = 0) (h2 : termF n N A m2 L2 = 0) (h3 : lowB m1 L1 = false ∨ lowB m2 L2 = false) : eqF n N A m1 L1 m2 L2 = 3 := by
  rw [eqF, if_pos h, if_pos h2, if_neg]
  rintro ⟨a, b⟩
  rcases h3 with c | c
  · rw [a] at c; cases c
  · rw [b] at c; cases c
end

set_option maxRecDepth 20000 in
set_option maxHeartbeats 400000 in
theorem l4Low_any (b off m c : Nat) (T : Nat → Int) (w : World) (h : Ints w b off m T) (hm : m ≤ 1048576) :
    Calls Try.prog 93 #[.slice (some ⟨b, off, none⟩) m c] w fun e w' => e = .returned (.bool (lowB m T)) ∧ Below w.heap.size w w' := by
  go_enter Try.func93, Try.ntmps93
  go_wp2_with fail
  go_loopw [3] (fun i wr => ∃ k : Nat, k ≤ m ∧ i = .int .i64 k ∧ Hid (∀ i, i < k → -6 ≤ T i) ∧ Hid (Below w.heap.size w wr)) (fun i _ => m - (intOf i).toNat)
  case atStart => exact ⟨0, Nat.zero_le _, rfl, hidden (fun i hi => by omega), hidden (Below.refl _ _)⟩
  case round =>
    obtain ⟨k, hk, rfl, HE, HB⟩ := hrel
    by_cases hlt : k < m
    · have c1 := (h.keep HB.out).cell k hlt
      by_cases hz : T k < -6
      · have HR := hidden (show lowB m T = false by simp only [lowB, decide_eq_false_iff_not]; intro hh; have := hh k hlt; omega)
        go_wp2
        go_ret
        exact ⟨by rw [HR.out]; rfl, HB.out⟩
      · have HZ := hidden hz
        go_wp2
        go_roundw
        case rel => exact ⟨k + 1, by omega, by go_num, hidden (fun j hj => by
          by_cases e : j = k
          · rw [e]; have := HZ.out; omega
          · exact HE.out j (by omega)), HB⟩
        case measure => simp [intOf]; omega
    · have HR := hidden (show lowB m T = true by
        simp only [lowB, decide_eq_true_eq]
        exact fun i hi => HE.out i (by omega))
      go_wp2
      go_ret
      exact ⟨by rw [HR.out]; rfl, HB.out⟩

def beyB (x : Int) : Bool := varB x && decide (x < -6)

set_option maxRecDepth 20000 in
set_option maxHeartbeats 400000 in
theorem variableOfE_any (x : Int) (w : World) (hx : -1000 ≤ x ∧ x ≤ 1000) :
    Calls Try.prog 97 #[.int .i64 x] w fun e w' => e = .returned (.int .i64 (-1 - x)) ∧ Below w.heap.size w w' := by
  go_enter Try.func97, Try.ntmps97
  go_wp2
  go_ret
  exact ⟨by go_num, Below.refl _ _⟩

set_option maxRecDepth 20000 in
set_option maxHeartbeats 400000 in
theorem isBeyond_any (x : Int) (w : World) :
    Calls Try.prog 95 #[.int .i64 x] w fun e w' => e = .returned (.bool (beyB x)) ∧ Below w.heap.size w w' := by
  go_enter Try.func95, Try.ntmps95
  go_wp2_with fail
  with_reducible refine (isVariable_any _ _).mono ?_
  rintro e w1 ⟨rfl, hb⟩
  have B := hidden hb
  clear hb
  generalize hz : varB x = ib
  cases ib
  · have HR := hidden (show beyB x = false by simp [beyB, hz])
    clear hz
    go_wp2
    go_ret
    exact ⟨by rw [HR.out]; rfl, B.out⟩
  · have HR := hidden (show beyB x = decide (x < -6) by simp [beyB, hz])
    have hx : -12 ≤ x ∧ x ≤ -1 := by simpa [varB] using hz
    clear hz
    go_wp2_with fail
    with_reducible refine (variableOfE_any _ _ (by omega)).mono ?_
    rintro e w2 ⟨rfl, hb⟩
    replace B := hidden (keepB B.out hb)
    clear hb
    by_cases h6 : x < -6
    · have q : decide ((6 : Int) ≤ -1 - x) = true := by simp; omega
      have HQ := hidden h6
      clear h6 hx
      go_wp2
      go_ret
      exact ⟨by rw [HR.out]; simp [HQ.out], B.out⟩
    · have q : decide ((6 : Int) ≤ -1 - x) = false := by simp; omega
      have HQ := hidden h6
      clear h6 hx
      go_wp2
      go_ret
      exact ⟨by rw [HR.out]; simp [HQ.out], B.out⟩

open Classical in
noncomputable def hasBey (m : Nat) (T : Nat → Int) : Bool := decide (∃ i, i < m ∧ beyB (T i) = true)

theorem hasBey_low {n : Nat} {A : Nat → Int} {m : Nat} {T : Nat → Int} (h : Nods n A m T) : hasBey m T = !lowB m T := by
  cases hl : lowB m T
  · simp only [lowB, decide_eq_false_iff_not] at hl
    simp only [hasBey, Bool.not_false, decide_eq_true_eq]
    refine Classical.byContradiction fun hc => hl fun i hi => ?_
    refine Classical.byContradiction fun h6 => hc ⟨i, hi, ?_⟩
    rcases nodeB_cases (h.node i hi) with ⟨j, e, _⟩ | ⟨h1, h2⟩
    · omega
    · simp [beyB, varB]; omega
  · simp only [lowB, decide_eq_true_eq] at hl
    simp only [hasBey, Bool.not_true, decide_eq_false_iff_not]
    rintro ⟨i, hi, e⟩
    have := hl i hi
    simp [beyB] at e
    omega

set_option maxRecDepth 20000 in
set_option maxHeartbeats 400000 in
theorem indexBey_any (b off m c : Nat) (T : Nat → Int) (w : World) (h : Ints w b off m T) (hm : m ≤ 1048576) :
    Calls Try.prog 98 #[.slice (some ⟨b, off, none⟩) m c, .func (Fn.func 95) #[] #[]] w fun e w' => (∃ r : Int, e = .returned (.int .i64 r) ∧ (decide (0 ≤ r) = hasBey m T)) ∧ Below w.heap.size w w' := by
  go_enter Try.func98, Try.ntmps98
  go_wp2_with fail
  go_loopw [8] (fun i wr => ∃ k : Nat, k ≤ m ∧ i = .int .i64 k ∧ Hid (∀ i, i < k → beyB (T i) = false) ∧ Hid (Below w.heap.size w wr)) (fun i _ => m - (intOf i).toNat)
  case atStart => exact ⟨0, Nat.zero_le _, rfl, hidden (fun i hi => by omega), hidden (Below.refl _ _)⟩
  case round =>
    obtain ⟨k, hk, rfl, HE, HB⟩ := hrel
    by_cases hlt : k < m
    · have c1 := (h.keep HB.out).cell k hlt
      go_wp2_with fail
      with_reducible refine (isBeyond_any _ _).mono ?_
      rintro e w1 ⟨rfl, hb⟩
      have B1 := hidden (keepB HB.out hb)
      clear hb c1 HB
      generalize hz : beyB (T k) = ib
      cases ib
      · have HR := hidden hz
        clear hz
        go_wp2
        go_roundw
        case rel => exact ⟨k + 1, by omega, by go_num, hidden (fun j hj => by
          by_cases e : j = k
          · rw [e]; exact HR.out
          · exact HE.out j (by omega)), B1⟩
        case measure => simp [intOf]; omega
      · have HR := hidden (show hasBey m T = true by simp only [hasBey, decide_eq_true_eq]; exact ⟨k, hlt, hz⟩)
        clear hz
        go_wp2
        go_ret
        exact ⟨⟨_, rfl, by rw [HR.out]; simp⟩, B1.out⟩
    · have HR := hidden (show hasBey m T = false by
        simp only [hasBey, decide_eq_false_iff_not]
        rintro ⟨i, hi, e⟩
        rw [HE.out i (by omega)] at e; cases e)
      go_wp2
      go_ret
      exact ⟨⟨_, rfl, by rw [HR.out]; rfl⟩, HB.out⟩

set_option maxRecDepth 20000 in
set_option maxHeartbeats 400000 in
theorem containsBey_any (b off m c : Nat) (T : Nat → Int) (w : World) (h : Ints w b off m T) (hm : m ≤ 1048576) :
    Calls Try.prog 91 #[.slice (some ⟨b, off, none⟩) m c, .func (Fn.func 95) #[] #[]] w fun e w' => e = .returned (.bool (hasBey m T)) ∧ Below w.heap.size w w' := by
  go_enter Try.func91, Try.ntmps91
  go_wp2_with fail
  refine (indexBey_any b off m c T w h hm).mono ?_
  rintro e w1 ⟨⟨r, rfl, hr⟩, hb⟩
  have HR := hidden hr
  clear hr
  go_wp2
  go_ret
  exact ⟨by rw [← HR.out]; rfl, hb⟩

set_option maxRecDepth 20000 in
set_option maxHeartbeats 1600000 in
theorem l4Fault_any (B E b off n c b1 o1 m1 c1 b2 o2 m2 c2 : Nat) (N : Nat → ByteArray) (A L1 L2 : Nat → Int) (w : World) (hd : One w B (.slice (some ⟨b, off, none⟩) n c)) (he : Two w E (.slice (some ⟨b1, o1, none⟩) m1 c1) (.slice (some ⟨b2, o2, none⟩) m2 c2)) (h : Syms w b off n N A) (h1 : Ints w b1 o1 m1 L1) (h2 : Ints w b2 o2 m2 L2) (hf : faultF n N A = 0) (hm1 : m1 ≤ 1048576) (hm2 : m2 ≤ 1048576) :
    Calls Try.prog 78 #[.pointer (some ⟨B, 0, none⟩), .pointer (some ⟨E, 0, none⟩)] w fun e w' => e = .returned (.int .i64 (eqF n N A m1 L1 m2 L2)) ∧ Below w.heap.size w w' := by
  have HS := hidden (fault_sound hf)
  have T1 := hidden (term_l (m := m1) (T := L1) hf)
  have T2 := hidden (term_l (m := m2) (T := L2) hf)
  have D := hidden hd
  have X := hidden he
  have Q := hidden h
  have I1 := hidden h1
  have I2 := hidden h2
  clear hf hd he h h1 h2
  have x0 := X.out.c0
  go_enter Try.func78, Try.ntmps78
  go_wp2_with fail
  with_reducible refine (l3Fault_all _ _ _ _ _ _ _ _ _ N A L1 _ D.out Q.out I1.out HS.out hm1).mono ?_
  rintro e w1 ⟨rfl, hb⟩
  have B := hidden hb
  replace D := hidden (D.out.keep hb)
  replace X := hidden (X.out.keep hb)
  replace Q := hidden (Q.out.keep hb)
  replace I1 := hidden (I1.out.keep hb)
  replace I2 := hidden (I2.out.keep hb)
  clear hb x0
  rw [← T1.out]
  by_cases hz : termF n N A m1 L1 = 0
  · have Z1 := hidden hz
    rw [hz]
    clear hz
    have x0 := X.out.c1
    go_wp2_with fail
    with_reducible refine (l3Fault_all _ _ _ _ _ _ _ _ _ N A L2 _ D.out Q.out I2.out HS.out hm2).mono ?_
    rintro e w2 ⟨rfl, hb⟩
    replace B := hidden (keepB B.out hb)
    replace D := hidden (D.out.keep hb)
    replace X := hidden (X.out.keep hb)
    replace I1 := hidden (I1.out.keep hb)
    replace I2 := hidden (I2.out.keep hb)
    clear hb x0
    rw [← T2.out]
    by_cases hz : termF n N A m2 L2 = 0
    · have Z2 := hidden hz
      rw [hz]
      clear hz
      have x0 := X.out.c0
      go_wp2_with fail
      with_reducible refine (l4Low_any _ _ _ _ L1 _ I1.out hm1).mono ?_
      rintro e w3 ⟨rfl, hb⟩
      replace B := hidden (keepB B.out hb)
      replace X := hidden (X.out.keep hb)
      replace I2 := hidden (I2.out.keep hb)
      clear hb x0
      generalize hl : lowB m1 L1 = ib
      cases ib
      · have HR := hidden (eqF_high Z1.out Z2.out (Or.inl hl))
        clear hl
        go_wp2
        go_ret
        exact ⟨by rw [HR.out]; rfl, B.out⟩
      · have HL := hidden hl
        clear hl
        have x0 := X.out.c1
        go_wp2_with fail
        with_reducible refine (l4Low_any _ _ _ _ L2 _ I2.out hm2).mono ?_
        rintro e w4 ⟨rfl, hb⟩
        replace B := hidden (keepB B.out hb)
        clear hb x0
        generalize hl : lowB m2 L2 = ib
        cases ib
        · have HR := hidden (eqF_high Z1.out Z2.out (Or.inr hl))
          clear hl
          go_wp2
          go_ret
          exact ⟨by rw [HR.out]; rfl, B.out⟩
        · have HR := hidden (eqF_low Z1.out Z2.out HL.out hl)
          clear hl
          go_wp2
          go_ret
          exact ⟨by rw [HR.out]; rfl, B.out⟩
    · have HR := hidden (eqF_right Z1.out hz)
      have hz' : (termF n N A m2 L2 != 0) = true := by simpa using hz
      generalize termF n N A m2 L2 = z at *
      clear hz
      go_wp2
      go_ret
      exact ⟨by rw [HR.out]; rfl, B.out⟩
  · have HR := hidden (eqF_left (m2 := m2) (L2 := L2) hz)
    have hz' : (termF n N A m1 L1 != 0) = true := by simpa using hz
    generalize termF n N A m1 L1 = z at *
    clear hz
    go_wp2
    go_ret
    exact ⟨by rw [HR.out]; rfl, B.out⟩

/-- What sidesFault answers. -/
noncomputable def sdF (n : Nat) (N : Nat → ByteArray) (A : Nat → Int) (m1 : Nat) (L1 : Nat → Int) (m2 : Nat) (L2 : Nat → Int) : Int :=
  if termF n N A m1 L1 = 0 then termF n N A m2 L2 else termF n N A m1 L1

theorem sdF_left {n : Nat} {N : Nat → ByteArray} {A : Nat → Int} {m1 : Nat} {L1 : Nat → Int} {m2 : Nat} {L2 : Nat → Int} (h : termF n N A m1 L1 ≠ 0) : sdF n N A m1 L1 m2 L2 = termF n N A m1 L1 := by rw [sdF, if_neg h]
theorem sdF_right {n : Nat} {N : Nat → ByteArray} {A : Nat → Int} {m1 : Nat} {L1 : Nat → Int} {m2 : Nat} {L2 : Nat → Int} (h : termF n N A m1 L1 = 0) : sdF n N A m1 L1 m2 L2 = termF n N A m2 L2 := by rw [sdF, if_pos h]
theorem sdF_both {n : Nat} {N : Nat → ByteArray} {A : Nat → Int} {m1 : Nat} {L1 : Nat → Int} {m2 : Nat} {L2 : Nat → Int} (h : sdF n N A m1 L1 m2 L2 = 0) : termF n N A m1 L1 = 0 ∧ termF n N A m2 L2 = 0 := by
  by_cases h1 : termF n N A m1 L1 = 0
  · exact ⟨h1, by rw [← sdF_right (m2 := m2) (L2 := L2) h1]; exact h⟩
  · rw [sdF_left h1] at h; exact absurd h h1
theorem sdF_eqF {n : Nat} {N : Nat → ByteArray} {A : Nat → Int} {m1 : Nat} {L1 : Nat → Int} {m2 : Nat} {L2 : Nat → Int} (h : sdF n N A m1 L1 m2 L2 ≠ 0) : eqF n N A m1 L1 m2 L2 = sdF n N A m1 L1 m2 L2 := by
  by_cases h1 : termF n N A m1 L1 = 0
  · rw [sdF_right h1] at h ⊢; exact eqF_right h1 h
  · rw [sdF_left h1]; exact eqF_left h1

set_option maxRecDepth 20000 in
set_option maxHeartbeats 1600000 in
theorem sides_any (b off n c b1 o1 m1 c1 b2 o2 m2 c2 : Nat) (N : Nat → ByteArray) (A L1 L2 : Nat → Int) (w : World) (h : Syms w b off n N A) (h1 : Ints w b1 o1 m1 L1) (h2 : Ints w b2 o2 m2 L2) (hk : Kept n N A) (hm1 : m1 ≤ 1048576) (hm2 : m2 ≤ 1048576) :
    Calls Try.prog 94 #[.agg #[.slice (some ⟨b, off, none⟩) n c], .agg #[.slice (some ⟨b1, o1, none⟩) m1 c1, .slice (some ⟨b2, o2, none⟩) m2 c2]] w fun e w' => e = .returned (.int .i64 (sdF n N A m1 L1 m2 L2)) ∧ Below w.heap.size w w' := by
  have A1 := hidden (alloc_below w (.cells #[.slice (some ⟨b, off, none⟩) n c] 32))
  have D := hidden (One.new w (.slice (some ⟨b, off, none⟩) n c) 32)
  have A2 := hidden (alloc_below (w.alloc (.cells #[.slice (some ⟨b, off, none⟩) n c] 32)) (.cells #[.slice (some ⟨b1, o1, none⟩) m1 c1, .slice (some ⟨b2, o2, none⟩) m2 c2] 76))
  have X := hidden (Two.new (w.alloc (.cells #[.slice (some ⟨b, off, none⟩) n c] 32)) (.slice (some ⟨b1, o1, none⟩) m1 c1) (.slice (some ⟨b2, o2, none⟩) m2 c2) 76)
  replace D := hidden (D.out.keep A2.out)
  have B := hidden (keepB A1.out A2.out)
  have Q := hidden (h.keep B.out)
  have I1 := hidden (h1.keep B.out)
  have I2 := hidden (h2.keep B.out)
  have HK := hidden hk
  clear h h1 h2 hk
  go_enter Try.func94, Try.ntmps94
  go_wp2_with fail
  with_reducible refine (implTerm_any _ _ _ _ _ _ _ _ N A L1 _ Q.out I1.out HK.out hm1).mono ?_
  rintro e w1 ⟨rfl, hb⟩
  replace D := hidden (D.out.keep hb)
  replace X := hidden (X.out.keep hb)
  replace B := hidden (keepB B.out hb)
  replace I2 := hidden (I2.out.keep hb)
  replace Q := hidden (Q.out.keep hb)
  clear hb
  by_cases hz : termF n N A m1 L1 = 0
  · have HR := hidden (sdF_right (m2 := m2) (L2 := L2) hz)
    rw [hz]
    clear hz
    have d0 := D.out.c0
    have x1 := X.out.c1
    simp only [World.size_alloc] at x1
    go_wp2_with fail
    with_reducible refine (implTerm_any _ _ _ _ _ _ _ _ N A L2 _ Q.out I2.out HK.out hm2).mono ?_
    rintro e w2 ⟨rfl, hb⟩
    replace B := hidden (keepB B.out hb)
    clear hb d0 x1
    go_wp2
    go_ret
    exact ⟨by rw [HR.out]; rfl, B.out⟩
  · have HR := hidden (sdF_left (m2 := m2) (L2 := L2) hz)
    have hz' : (termF n N A m1 L1 != 0) = true := by simpa using hz
    generalize termF n N A m1 L1 = z at *
    clear hz
    go_wp2
    go_ret
    exact ⟨by rw [HR.out]; rfl, B.out⟩

set_option maxRecDepth 20000 in
set_option maxHeartbeats 1600000 in
theorem implEqF_any (b off n c b1 o1 m1 c1 b2 o2 m2 c2 : Nat) (N : Nat → ByteArray) (A L1 L2 : Nat → Int) (w : World) (h : Syms w b off n N A) (h1 : Ints w b1 o1 m1 L1) (h2 : Ints w b2 o2 m2 L2) (hk : Kept n N A) (hm1 : m1 ≤ 1048576) (hm2 : m2 ≤ 1048576) :
    Calls Try.prog 79 #[.agg #[.slice (some ⟨b, off, none⟩) n c], .agg #[.slice (some ⟨b1, o1, none⟩) m1 c1, .slice (some ⟨b2, o2, none⟩) m2 c2]] w fun e w' => e = .returned (.int .i64 (eqF n N A m1 L1 m2 L2)) ∧ Below w.heap.size w w' := by
  have A1 := hidden (alloc_below w (.cells #[.slice (some ⟨b, off, none⟩) n c] 32))
  have A2 := hidden (alloc_below (w.alloc (.cells #[.slice (some ⟨b, off, none⟩) n c] 32)) (.cells #[.slice (some ⟨b1, o1, none⟩) m1 c1, .slice (some ⟨b2, o2, none⟩) m2 c2] 76))
  have X := hidden (Two.new (w.alloc (.cells #[.slice (some ⟨b, off, none⟩) n c] 32)) (.slice (some ⟨b1, o1, none⟩) m1 c1) (.slice (some ⟨b2, o2, none⟩) m2 c2) 76)
  simp only [World.size_alloc] at X
  have B := hidden (keepB A1.out A2.out)
  have Q := hidden (h.keep B.out)
  have I1 := hidden (h1.keep B.out)
  have I2 := hidden (h2.keep B.out)
  have HK := hidden hk
  clear h h1 h2 hk
  go_enter Try.func79, Try.ntmps79
  go_wp2_with fail
  with_reducible refine (sides_any _ _ _ _ _ _ _ _ _ _ _ _ N A L1 L2 _ Q.out I1.out I2.out HK.out hm1 hm2).mono ?_
  rintro e w1 ⟨rfl, hb⟩
  replace X := hidden (X.out.keep hb)
  replace B := hidden (keepB B.out hb)
  replace I1 := hidden (I1.out.keep hb)
  replace I2 := hidden (I2.out.keep hb)
  clear hb
  by_cases hz : sdF n N A m1 L1 m2 L2 = 0
  · have Z := hidden (sdF_both hz)
    rw [hz]
    clear hz
    have L1' := hidden (hasBey_low (term_right Z.out.1).nods)
    have L2' := hidden (hasBey_low (term_right Z.out.2).nods)
    have x0 := X.out.c0
    go_wp2_with fail
    with_reducible refine (containsBey_any _ _ _ _ L1 _ I1.out hm1).mono ?_
    rintro e w2 ⟨rfl, hb⟩
    rw [L1'.out]
    replace X := hidden (X.out.keep hb)
    replace B := hidden (keepB B.out hb)
    replace I2 := hidden (I2.out.keep hb)
    clear hb x0
    generalize hl : lowB m1 L1 = ib
    cases ib
    · have HR := hidden (eqF_high Z.out.1 Z.out.2 (Or.inl hl))
      clear hl
      simp only [Bool.not_false]
      go_wp2
      go_ret
      exact ⟨by rw [HR.out]; rfl, B.out⟩
    · have HL := hidden hl
      clear hl
      simp only [Bool.not_true]
      have x0 := X.out.c1
      go_wp2_with fail
      with_reducible refine (containsBey_any _ _ _ _ L2 _ I2.out hm2).mono ?_
      rintro e w3 ⟨rfl, hb⟩
      rw [L2'.out]
      replace B := hidden (keepB B.out hb)
      clear hb x0
      generalize hl : lowB m2 L2 = ib
      cases ib
      · have HR := hidden (eqF_high Z.out.1 Z.out.2 (Or.inr hl))
        clear hl
        simp only [Bool.not_false]
        go_wp2
        go_ret
        exact ⟨by rw [HR.out]; rfl, B.out⟩
      · have HR := hidden (eqF_low Z.out.1 Z.out.2 HL.out hl)
        clear hl
        simp only [Bool.not_true]
        go_wp2
        go_ret
        exact ⟨by rw [HR.out]; rfl, B.out⟩
  · have HR := hidden (sdF_eqF hz)
    have hz' : (sdF n N A m1 L1 m2 L2 != 0) = true := by simpa using hz
    generalize sdF n N A m1 L1 m2 L2 = z at *
    clear hz
    go_wp2
    go_ret
    exact ⟨by rw [HR.out]; rfl, B.out⟩

end Go.Proofs.Ytcnkkoegfjggaaa

/- Contracts: the fault of a list of equations, as the model and as the program tells it. -/
namespace Go.Proofs.Ytcnkkoegfjggaaa
open Go.RowKit

/-- Two cells of a block, one behind the other. -/
structure TwoAt (w : World) (b o : Nat) (x y : Value) : Prop where
  blk : b < w.heap.size
  c0 : w.cell? ⟨b, o, none⟩ = some x
  c1 : w.cell? ⟨b, o + 1, none⟩ = some y

theorem TwoAt.keep {w w' : World} {b o : Nat} {x y : Value} (h : TwoAt w b o x y) (hb : Below w.heap.size w w') : TwoAt w' b o x y :=
  ⟨Nat.lt_of_lt_of_le h.blk hb.size, by rw [(bcell hb).1 _ _ h.blk]; exact h.c0, by rw [(bcell hb).1 _ _ h.blk]; exact h.c1⟩

set_option maxRecDepth 20000 in
set_option maxHeartbeats 1600000 in
theorem l4Fault_at (B E o b off n c b1 o1 m1 c1 b2 o2 m2 c2 : Nat) (N : Nat → ByteArray) (A L1 L2 : Nat → Int) (w : World) (hd : One w B (.slice (some ⟨b, off, none⟩) n c)) (he : TwoAt w E o (.slice (some ⟨b1, o1, none⟩) m1 c1) (.slice (some ⟨b2, o2, none⟩) m2 c2)) (h : Syms w b off n N A) (h1 : Ints w b1 o1 m1 L1) (h2 : Ints w b2 o2 m2 L2) (hf : faultF n N A = 0) (hm1 : m1 ≤ 1048576) (hm2 : m2 ≤ 1048576) :
    Calls Try.prog 78 #[.pointer (some ⟨B, 0, none⟩), .pointer (some ⟨E, o, none⟩)] w fun e w' => e = .returned (.int .i64 (eqF n N A m1 L1 m2 L2)) ∧ Below w.heap.size w w' := by
  have HS := hidden (fault_sound hf)
  have T1 := hidden (term_l (m := m1) (T := L1) hf)
  have T2 := hidden (term_l (m := m2) (T := L2) hf)
  have D := hidden hd
  have X := hidden he
  have Q := hidden h
  have I1 := hidden h1
  have I2 := hidden h2
  clear hf hd he h h1 h2
  have x0 := X.out.c0
  go_enter Try.func78, Try.ntmps78
  go_wp2_with fail
  with_reducible refine (l3Fault_all _ _ _ _ _ _ _ _ _ N A L1 _ D.out Q.out I1.out HS.out hm1).mono ?_
  rintro e w1 ⟨rfl, hb⟩
  have B := hidden hb
  replace D := hidden (D.out.keep hb)
  replace X := hidden (X.out.keep hb)
  replace Q := hidden (Q.out.keep hb)
  replace I1 := hidden (I1.out.keep hb)
  replace I2 := hidden (I2.out.keep hb)
  clear hb x0
  rw [← T1.out]
  by_cases hz : termF n N A m1 L1 = 0
  · have Z1 := hidden hz
    rw [hz]
    clear hz
    have x0 := X.out.c1
    go_wp2_with fail
    with_reducible refine (l3Fault_all _ _ _ _ _ _ _ _ _ N A L2 _ D.out Q.out I2.out HS.out hm2).mono ?_
    rintro e w2 ⟨rfl, hb⟩
    replace B := hidden (keepB B.out hb)
    replace D := hidden (D.out.keep hb)
    replace X := hidden (X.out.keep hb)
    replace I1 := hidden (I1.out.keep hb)
    replace I2 := hidden (I2.out.keep hb)
    clear hb x0
    rw [← T2.out]
    by_cases hz : termF n N A m2 L2 = 0
    · have Z2 := hidden hz
      rw [hz]
      clear hz
      have x0 := X.out.c0
      go_wp2_with fail
      with_reducible refine (l4Low_any _ _ _ _ L1 _ I1.out hm1).mono ?_
      rintro e w3 ⟨rfl, hb⟩
      replace B := hidden (keepB B.out hb)
      replace X := hidden (X.out.keep hb)
      replace I2 := hidden (I2.out.keep hb)
      clear hb x0
      generalize hl : lowB m1 L1 = ib
      cases ib
      · have HR := hidden (eqF_high Z1.out Z2.out (Or.inl hl))
        clear hl
        go_wp2
        go_ret
        exact ⟨by rw [HR.out]; rfl, B.out⟩
      · have HL := hidden hl
        clear hl
        have x0 := X.out.c1
        go_wp2_with fail
        with_reducible refine (l4Low_any _ _ _ _ L2 _ I2.out hm2).mono ?_
        rintro e w4 ⟨rfl, hb⟩
        replace B := hidden (keepB B.out hb)
        clear hb x0
        generalize hl : lowB m2 L2 = ib
        cases ib
        · have HR := hidden (eqF_high Z1.out Z2.out (Or.inr hl))
          clear hl
          go_wp2
          go_ret
          exact ⟨by rw [HR.out]; rfl, B.out⟩
        · have HR := hidden (eqF_low Z1.out Z2.out HL.out hl)
          clear hl
          go_wp2
          go_ret
          exact ⟨by rw [HR.out]; rfl, B.out⟩
    · have HR := hidden (eqF_right Z1.out hz)
      have hz' : (termF n N A m2 L2 != 0) = true := by simpa using hz
      generalize termF n N A m2 L2 = z at *
      clear hz
      go_wp2
      go_ret
      exact ⟨by rw [HR.out]; rfl, B.out⟩
  · have HR := hidden (eqF_left (m2 := m2) (L2 := L2) hz)
    have hz' : (termF n N A m1 L1 != 0) = true := by simpa using hz
    generalize termF n N A m1 L1 = z at *
    clear hz
    go_wp2
    go_ret
    exact ⟨by rw [HR.out]; rfl, B.out⟩

set_option maxRecDepth 20000 in
set_option maxHeartbeats 800000 in
theorem eqEquationS_eq (b off b' off' n c c' : Nat) (D : EqL) (w : World) (h : Eqs w b off n D) (h' : Eqs w b' off' n D) (hk : KeptE n D) :
    Calls Try.prog 55 #[.slice (some ⟨b, off, none⟩) n c, .slice (some ⟨b', off', none⟩) n c'] w fun e w' => e = .returned (.bool true) ∧ Below w.heap.size w w' := by
  have hn := hk.most
  have H := hidden h
  have H' := hidden h'
  have HK := hidden hk
  clear h h' hk
  go_enter Try.func55, Try.ntmps55
  go_wp2
  go_loopw [5] (fun i wr => ∃ k : Nat, k ≤ n ∧ i = .int .i64 k ∧ Hid (Below w.heap.size w wr)) (fun i _ => n - (intOf i).toNat)
  case atStart => exact ⟨0, Nat.zero_le _, rfl, hidden (Below.refl _ _)⟩
  case round =>
    obtain ⟨k, hk, rfl, HB⟩ := hrel
    by_cases hlt : k < n
    · obtain ⟨g1, o1, c1, g2, o2, c2, e1, e2, i1, i2⟩ := (H.out.keep HB.out).row k hlt
      obtain ⟨g3, o3, c3, g4, o4, c4, e3, e4, i3, i4⟩ := (H'.out.keep HB.out).row k hlt
      have S := hidden (fun wc (hc : Below wr.heap.size wr wc) => eqEquation_eq g1 o1 g2 o2 (D.m1 k) c1 (D.m2 k) c2 g3 o3 g4 o4 c3 c4 (D.L1 k) (D.L2 k) wc (i1.keep hc) (i2.keep hc) (i3.keep hc) (i4.keep hc) (HK.out.m1 k hlt) (HK.out.m2 k hlt))
      clear i1 i2 i3 i4
      go_wp2_with fail
      go_cut [26] (fun t wc => t = .bool false ∧ Below wr.heap.size wr wc)
      case first =>
        go_region_with (first | (go_at_call 80; with_reducible refine (S.out _ ?_).mono ?_; exact (Below.refl _ _).drew; rintro e w5 ⟨rfl, hb5⟩))
        all_goals (go_wp2_with fail; go_meet)
        all_goals exact ⟨rfl, (Below.refl _ _).drew.trans hb5⟩
      case rest =>
        rename World => w5
        obtain ⟨rfl, bc⟩ := hcut
        have B1 := hidden (keepB HB.out bc)
        clear bc e1 e2 e3 e4
        go_wp2
        go_roundw
        case rel => exact ⟨k + 1, by omega, by go_num, B1⟩
        case measure => simp [intOf]; omega
    · go_wp2
      go_ret
      exact ⟨rfl, HB.out⟩

/-- The fault of the first k equations. -/
noncomputable def eqsTo (n : Nat) (N : Nat → ByteArray) (A : Nat → Int) (D : EqL) : Nat → Int
  | 0 => 0
  | k + 1 => if eqsTo n N A D k = 0 then eqF n N A (D.m1 k) (D.L1 k) (D.m2 k) (D.L2 k) else eqsTo n N A D k

/-- The fault of a list of equations. -/
noncomputable def eqsF (n : Nat) (N : Nat → ByteArray) (A : Nat → Int) (k : Nat) (D : EqL) : Int :=
  if faultF n N A = 0 then (if 12 < k then 2 else eqsTo n N A D k) else faultF n N A

section
variable {n : Nat} {N : Nat → ByteArray} {A : Nat → Int} {m : Nat} {D : EqL}
theorem eqs_fault (h : faultF n N A ≠ 0) : eqsF n N A m D = faultF n N A := by rw [eqsF, if_neg h]
theorem eqs_many (h : faultF n N A = 0) (hm : 12 < m) : eqsF n N A m D = 2 := by rw [eqsF, if_pos h, if_pos hm]
theorem eqs_to (h : faultF n N A = 0) (hm : ¬ 12 < m) : eqsF n N A m D = eqsTo n N A D m := by rw [eqsF, if_pos h, if_neg hm]
theorem eqsTo_first {k : Nat} (h : eqsTo n N A D k = 0) (hk : eqF n N A (D.m1 k) (D.L1 k) (D.m2 k) (D.L2 k) ≠ 0) : ∀ j, k < j → eqsTo n N A D j = eqF n N A (D.m1 k) (D.L1 k) (D.m2 k) (D.L2 k)
  | 0, hj => by omega
  | j + 1, hj => by
    by_cases e : k = j
    · subst e; show (if _ then _ else _) = _; rw [if_pos h]
    · have ih := eqsTo_first h hk j (by omega)
      show (if eqsTo n N A D j = 0 then _ else eqsTo n N A D j) = _
      rw [ih, if_neg hk]
theorem eqsTo_next {k : Nat} (h : eqsTo n N A D k = 0) (hk : eqF n N A (D.m1 k) (D.L1 k) (D.m2 k) (D.L2 k) = 0) : eqsTo n N A D (k + 1) = 0 := by
  show (if _ then _ else _) = _; rw [if_pos h, hk]
theorem eqsTo_each : ∀ k, eqsTo n N A D k = 0 → ∀ i, i < k → eqF n N A (D.m1 i) (D.L1 i) (D.m2 i) (D.L2 i) = 0
  | 0, _, i, hi => by omega
  | k + 1, h, i, hi => by
    have h' : (if eqsTo n N A D k = 0 then eqF n N A (D.m1 k) (D.L1 k) (D.m2 k) (D.L2 k) else eqsTo n N A D k) = 0 := h
    by_cases e : eqsTo n N A D k = 0
    · rw [if_pos e] at h'
      by_cases ei : i = k
      · rw [ei]; exact h'
      · exact eqsTo_each k e i (by omega)
    · rw [if_neg e] at h'; exact absurd h' e
end

set_option maxRecDepth 20000 in
set_option maxHeartbeats 1600000 in
theorem implEqs_any (b off n c b' off' m c' : Nat) (N : Nat → ByteArray) (A : Nat → Int) (D : EqL) (w : World) (h : Syms w b off n N A) (h' : Eqs w b' off' m D) (hk : Kept n N A) (hk' : KeptE m D) :
    Calls Try.prog 54 #[.agg #[.slice (some ⟨b, off, none⟩) n c], .slice (some ⟨b', off', none⟩) m c'] w fun e w' => e = .returned (.int .i64 (eqsF n N A m D)) ∧ Below w.heap.size w w' := by
  have X := hidden (One.new w (.slice (some ⟨b, off, none⟩) n c) 32)
  have B := hidden (alloc_below w (.cells #[.slice (some ⟨b, off, none⟩) n c] 32))
  have Q := hidden (h.keep B.out)
  have I := hidden (h'.keep B.out)
  have HK := hidden hk
  have HK' := hidden hk'
  have hm := hk'.most
  clear h h' hk hk'
  go_enter Try.func54, Try.ntmps54
  go_wp2_with fail
  with_reducible refine (implFault_all _ _ _ _ N A _ Q.out HK.out).mono ?_
  rintro e w1 ⟨rfl, hb⟩
  replace X := hidden (X.out.keep hb)
  replace B := hidden (keepB B.out hb)
  replace I := hidden (I.out.keep hb)
  replace Q := hidden (Q.out.keep hb)
  clear hb
  by_cases hf : faultF n N A = 0
  · have HF := hidden hf
    rw [hf]
    clear hf
    by_cases h12 : 12 < m
    · have HR := hidden (eqs_many (D := D) HF.out h12)
      have g1 : (12 : Int) < m := by omega
      go_wp2
      go_ret
      exact ⟨by rw [HR.out]; rfl, B.out⟩
    · have HR := hidden (eqs_to (D := D) HF.out h12)
      have g1 : ¬ (12 : Int) < m := by omega
      go_wp2
      go_loopw [19] (fun i wr => ∃ k : Nat, k ≤ m ∧ i = .int .i64 (k : Nat) ∧ Hid (eqsTo n N A D k = 0 ∧ Below w1.heap.size w1 wr)) (fun i _ => m - (intOf i).toNat)
      case atStart => exact ⟨0, Nat.zero_le _, rfl, hidden ⟨rfl, Below.refl _ _⟩⟩
      case round =>
        obtain ⟨k, hk, rfl, HI⟩ := hrel
        by_cases hlt : k < m
        · obtain ⟨g1', o1, c1, g2', o2, c2, e1, e2, i1, i2⟩ := (I.out.keep HI.out.2).row k hlt
          have BA := hidden (alloc_below wr (.cells #[.slice (some ⟨g1', o1, none⟩) (D.m1 k) c1, .slice (some ⟨g2', o2, none⟩) (D.m2 k) c2] 76))
          have I1 := hidden (i1.keep BA.out)
          have I2 := hidden (i2.keep BA.out)
          have M1 := hidden (HK'.out.m1 k hlt)
          have M2 := hidden (HK'.out.m2 k hlt)
          have B1 := hidden (keepB HI.out.2 BA.out)
          have d0 := (X.out.keep HI.out.2).c0
          have hlt0 := Nat.lt_of_lt_of_le X.out.blk HI.out.2.size
          have d1 := (X.out.keep B1.out).c0
          clear i1 i2
          go_wp2_with fail
          with_reducible refine (implEqF_any _ _ _ _ _ _ _ _ _ _ _ _ N A (D.L1 k) (D.L2 k) _ (Q.out.keep B1.out) I1.out I2.out HK.out M1.out M2.out).mono ?_
          rintro e w2 ⟨rfl, hb⟩
          replace B1 := hidden (keepB B1.out hb)
          clear hb I1 I2 M1 M2 BA d0 d1 e1 e2
          by_cases hz : eqF n N A (D.m1 k) (D.L1 k) (D.m2 k) (D.L2 k) = 0
          · have HN := hidden (eqsTo_next HI.out.1 hz)
            rw [hz]
            clear hz
            go_wp2
            go_roundw
            case rel => exact ⟨k + 1, by omega, by go_num, hidden ⟨HN.out, B1.out⟩⟩
            case measure => simp [intOf]; omega
          · have HN := hidden (eqsTo_first HI.out.1 hz m hlt)
            have hz' : (eqF n N A (D.m1 k) (D.L1 k) (D.m2 k) (D.L2 k) != 0) = true := by simpa using hz
            generalize eqF n N A (D.m1 k) (D.L1 k) (D.m2 k) (D.L2 k) = z at *
            clear hz
            go_wp2
            go_ret
            exact ⟨by rw [HR.out, HN.out]; rfl, keepB B.out B1.out⟩
        · obtain rfl : m = k := by omega
          go_wp2
          go_ret
          exact ⟨by rw [HR.out, HI.out.1]; rfl, keepB B.out HI.out.2⟩
  · have HR := hidden (eqs_fault (m := m) (D := D) hf)
    have hf' : (faultF n N A != 0) = true := by simpa using hf
    generalize faultF n N A = z at *
    clear hf
    go_wp2
    go_ret
    exact ⟨by rw [HR.out]; rfl, B.out⟩

end Go.Proofs.Ytcnkkoegfjggaaa

/- Contracts: a list of equations as an answer, in memory of its own: its comparison, its marks, and that they are held. -/
namespace Go.Proofs.Ytcnkkoegfjggaaa
open Go.RowKit

/-- A list of equations in memory of its own, between two numbers of blocks. -/
def OwnFX (w : World) (lo hi g n c : Nat) (F : LsL) : Prop :=
  lo ≤ g ∧ g < hi ∧ hi ≤ w.heap.size ∧ ∃ (xs : List Value) (G : Nat → Nat), w.ownsRow lo 76 2 (.slice (some ⟨g, 0, none⟩) n c) n xs ∧ (∀ e, e < n * 2 → ∃ d, xs[e]? = some (.slice (some ⟨G e, 0, none⟩) (F.m e) d) ∧ F.m e ≤ d ∧ lo ≤ G e ∧ G e < hi ∧ G e ≠ g ∧ OwnI w lo (G e) (F.m e) d (F.L e) (F.m e)) ∧ ∀ i j, i < j → j < n * 2 → G i < G j

theorem OwnFX.keep {w w' : World} {lo hi g n c : Nat} {F : LsL} (h : OwnFX w lo hi g n c F) (hb : Below w.heap.size w w') : OwnFX w' lo hi g n c F := by
  obtain ⟨h1, h2, h3, xs, G, ho, hx, hm⟩ := h
  refine ⟨h1, h2, Nat.le_trans h3 hb.size, xs, G, ownsRow_later ho hb (by omega), fun i hi => ?_, hm⟩
  obtain ⟨d, a1, a2, a3, a4, a5, a6⟩ := hx i hi
  exact ⟨d, a1, a2, a3, a4, a5, a6.keep hb⟩

theorem OwnFX.top {w : World} {lo hi g n c : Nat} {F : LsL} (h : OwnFX w lo hi g n c F) : hi ≤ w.heap.size := h.2.2.1
theorem OwnFX.low {w : World} {lo hi g n c : Nat} {F : LsL} (h : OwnFX w lo hi g n c F) : lo ≤ g := h.1

theorem OwnFX.rng {w w' : World} {lo hi lo' hi' g n c : Nat} {F : LsL} (h : OwnFX w lo hi g n c F) (k : Rng lo' hi' w w') (hx : hi ≤ lo' ∨ hi' ≤ lo) : OwnFX w' lo hi g n c F := by
  obtain ⟨h1, h2, h3, xs, G, ho, hz, hm⟩ := h
  refine ⟨h1, h2, Nat.le_trans h3 k.size, xs, G, ownsRow_rng ho k (by omega), fun i hi => ?_, hm⟩
  obtain ⟨d, a1, a2, a3, a4, a5, a6⟩ := hz i hi
  exact ⟨d, a1, a2, a3, a4, a5, a6.rng k (by omega)⟩

theorem OwnFX.grown {w w' : World} {lo hi g n c g' : Nat} {F : LsL} (h : OwnFX w lo hi g n c F) (k : w.grownBy w' (some g')) (hx : g' < lo ∨ hi ≤ g') : OwnFX w' lo hi g n c F := h.rng (grown_rng k) (by omega)

theorem OwnFX.one {w : World} {lo hi g n c : Nat} {F : LsL} (h : OwnFX w lo hi g n c F) {k : Nat} (hk : k < n * 2) :
    ∃ G d, w.cell? ⟨g, k, none⟩ = some (.slice (some ⟨G, 0, none⟩) (F.m k) d) ∧ OwnI w lo G (F.m k) d (F.L k) (F.m k) ∧ lo ≤ G ∧ G < hi ∧
      ∀ (w' : World) (L' : Nat → Int), w.grownBy w' (some G) → OwnI w' lo G (F.m k) d L' (F.m k) → OwnFX w' lo hi g n c ⟨F.m, fun i => if i = k then L' else F.L i⟩ := by
  obtain ⟨h1, h2, h3, xs, G, ho, hx, hm⟩ := h
  obtain ⟨d, a1, a2, a3, a4, a5, a6⟩ := hx k hk
  refine ⟨G k, d, by rw [ho.cellAt _ (by omega)]; exact a1, a6, a3, a4, fun w' L' hg ho' => ⟨h1, h2, Nat.le_trans h3 hg.size, xs, G, ho.kept hg (Or.inr (by simp [Value.ownBlock]; omega)), fun i hi => ?_, hm⟩⟩
  by_cases e : i = k
  · subst e
    simp only [if_true]
    exact ⟨d, a1, a2, a3, a4, a5, ho'⟩
  · obtain ⟨d', b1, b2, b3, b4, b5, b6⟩ := hx i hi
    simp only [e, if_false]
    refine ⟨d', b1, b2, b3, b4, b5, b6.grown hg ?_⟩
    rcases Nat.lt_or_gt_of_ne e with hl | hl
    · have := hm i k hl hk; omega
    · have := hm k i hl hi; omega

theorem OwnFX.eqs {w : World} {lo hi g n c : Nat} {D : EqL} (h : OwnFX w lo hi g n c (fl2 D)) : Eqs w g 0 n D := by
  obtain ⟨h1, h2, h3, xs, G, ho, hx, _⟩ := h
  refine ⟨fun _ => by omega, fun i hi => ?_⟩
  obtain ⟨d, a1, _, _, _, _, a6⟩ := hx (i * 2) (by omega)
  obtain ⟨d', b1, _, _, _, _, b6⟩ := hx (i * 2 + 1) (by omega)
  rw [fl2_m0, fl2_L0] at a6
  rw [fl2_m1, fl2_L1] at b6
  rw [fl2_m0] at a1
  rw [fl2_m1] at b1
  exact ⟨G (i * 2), 0, _, G (i * 2 + 1), 0, _, by rw [Nat.zero_add, ho.cellAt _ (by omega)]; exact a1, by rw [Nat.zero_add, ho.cellAt _ (by omega)]; exact b1, a6.ints, b6.ints⟩

set_option maxRecDepth 20000 in
set_option maxHeartbeats 1600000 in
theorem markEqX_any (lo hi g n c : Nat) (z : Int) (D : EqL) (w : World) (h : OwnFX w lo hi g n c (fl2 D)) (hk : KeptE n D) (h0 : 0 ≤ z) (ht : z + sumM (fl2 D) (n * 2) ≤ 1099511627776) :
    Calls Try.prog 56 #[.slice (some ⟨g, 0, none⟩) n c, .int .i64 z] w fun e w' => e = .returned (.int .i64 (z + sumM (fl2 D) (n * 2))) ∧ OwnFX w' lo hi g n c (mkD z.toNat (fl2 D) (n * 2)) ∧ Rng lo hi w w' := by
  have hn := hk.most
  have H := hidden h
  have HK := hidden (kept_fl2 hk)
  have HT := hidden ht
  generalize hS : z + (sumM (fl2 D) (n * 2) : Int) = S
  have HS := hidden hS
  obtain ⟨F, hF⟩ : ∃ F, F = fl2 D := ⟨_, rfl⟩
  rw [← hF] at H HK HT HS ⊢
  clear h hk ht hS hF
  go_enter Try.func56, Try.ntmps56
  go_wp2
  go_loopw [1, 5] (fun a i wr => ∃ (k : Nat) (y : Int), k ≤ n ∧ i = .int .i64 k ∧ a = .int .i64 y ∧ Hid (y = z + sumM F (k * 2)) ∧ Hid (OwnFX wr lo hi g n c (mkD z.toNat F (k * 2)) ∧ Rng lo hi w wr)) (fun _ i _ => n - (intOf i).toNat)
  case atStart => exact ⟨0, z, Nat.zero_le _, rfl, rfl, hidden (by simp [sumM]), hidden ⟨by rw [mkD_zero]; exact H.out, Rng.refl _ _ _⟩⟩
  case round =>
    obtain ⟨k, y, hk, rfl, rfl, HY, HI⟩ := hrel
    by_cases hlt : k < n
    · obtain ⟨G, dd, c1, ho, hl, hh, hput⟩ := HI.out.1.one (k := k * 2) (by omega)
      replace c1 : wr.cell? ⟨g, k * 2, none⟩ = some (.slice (some ⟨G, 0, none⟩) (F.m (k * 2)) dd) := c1
      have O := hidden ho
      have P := hidden hput
      have LL := hidden (And.intro hl hh)
      have HA := hidden (show 0 ≤ y ∧ y ≤ 1099511627776 by have := sumM_le F (show k * 2 ≤ n * 2 by omega); have := HY.out; have := HT.out; omega)
      have HM := hidden (HK.out (k * 2) (by omega))
      clear ho hput hl hh
      go_wp2_with fail
      with_reducible refine (markInt64S_z lo G (F.m (k * 2)) dd y _ _ O.out HM.out HA.out.1 HA.out.2).mono ?_
      rintro e w2 ⟨rfl, ho, hg⟩
      have e1 : y.toNat = z.toNat + sumM F (k * 2) := by have := HY.out; omega
      rw [e1] at ho
      have HW := hidden (And.intro (P.out w2 _ hg ho) (HI.out.2.trans (Rng.of hg LL.out.1 LL.out.2)))
      rw [mkD_step] at HW
      have HY2 := hidden (show y + (F.m (k * 2) : Int) = z + sumM F (k * 2 + 1) by have := HY.out; simp only [sumM]; omega)
      clear ho hg c1 HI O P LL HA HM e1 HY
      generalize y + (F.m (k * 2) : Int) = y2 at *
      obtain ⟨G, dd, c1, ho, hl, hh, hput⟩ := HW.out.1.one (k := k * 2 + 1) (by omega)
      replace c1 : w2.cell? ⟨g, k * 2 + 1, none⟩ = some (.slice (some ⟨G, 0, none⟩) (F.m (k * 2 + 1)) dd) := c1
      have O := hidden ho
      have P := hidden hput
      have LL := hidden (And.intro hl hh)
      have HA := hidden (show 0 ≤ y2 ∧ y2 ≤ 1099511627776 by have := sumM_le F (show k * 2 + 1 ≤ n * 2 by omega); have := HY2.out; have := HT.out; omega)
      have HM := hidden (HK.out (k * 2 + 1) (by omega))
      clear ho hput hl hh
      go_wp2_with fail
      with_reducible refine (markInt64S_z lo G (F.m (k * 2 + 1)) dd y2 _ _ O.out HM.out HA.out.1 HA.out.2).mono ?_
      rintro e w3 ⟨rfl, ho, hg⟩
      have e1 : y2.toNat = z.toNat + sumM F (k * 2 + 1) := by have := HY2.out; omega
      rw [e1] at ho
      have HW3 := hidden (And.intro (P.out w3 _ hg ho) (HW.out.2.trans (Rng.of hg LL.out.1 LL.out.2)))
      rw [mkD_step] at HW3
      have HY3 := hidden (show y2 + (F.m (k * 2 + 1) : Int) = z + sumM F ((k + 1) * 2) by have := HY2.out; rw [show (k + 1) * 2 = k * 2 + 1 + 1 by omega]; simp only [sumM] at *; omega)
      clear ho hg c1 HW O P LL HA HM e1 HY2
      generalize y2 + (F.m (k * 2 + 1) : Int) = y3 at *
      go_wp2
      go_roundw
      case rel => exact ⟨k + 1, y3, by omega, by go_num, rfl, HY3, hidden (by have := HW3.out; rw [show k * 2 + 1 + 1 = (k + 1) * 2 by omega] at this; exact this)⟩
      case measure => simp [intOf]; omega
    · obtain rfl : n = k := by omega
      have HE := hidden (HY.out.trans HS.out)
      go_wp2
      go_ret
      exact ⟨by rw [← HE.out]; rfl, HI.out.1, HI.out.2⟩

set_option maxRecDepth 20000 in
set_option maxHeartbeats 1600000 in
theorem heldEqX_any (lo hi g n c z : Nat) (D : EqL) (w : World) (h : OwnFX w lo hi g n c (mkD z (fl2 D) (n * 2))) (hk : KeptE n D) (ht : z + sumM (fl2 D) (n * 2) ≤ 1099511627776) :
    Calls Try.prog 57 #[.slice (some ⟨g, 0, none⟩) n c, .int .i64 (z : Int)] w fun e w' => e = .returned (.int .i64 ((z : Int) + sumM (fl2 D) (n * 2))) ∧ Below w.heap.size w w' := by
  have hn := hk.most
  have H := hidden h
  have HK := hidden (kept_fl2 hk)
  have HT := hidden ht
  generalize hS : (z : Int) + (sumM (fl2 D) (n * 2) : Int) = S
  have HS := hidden hS
  obtain ⟨F, hF⟩ : ∃ F, F = fl2 D := ⟨_, rfl⟩
  rw [← hF] at H HK HT HS
  clear h hk ht hS hF
  go_enter Try.func57, Try.ntmps57
  go_wp2
  go_loopw [1, 5] (fun a i wr => ∃ (k y : Nat), k ≤ n ∧ i = .int .i64 k ∧ a = .int .i64 (y : Int) ∧ Hid (y = z + sumM F (k * 2)) ∧ Hid (Below w.heap.size w wr)) (fun _ i _ => n - (intOf i).toNat)
  case atStart => exact ⟨0, z, Nat.zero_le _, rfl, rfl, hidden (by simp [sumM]), hidden (Below.refl _ _)⟩
  case round =>
    obtain ⟨k, y, hk, rfl, rfl, HY, HB⟩ := hrel
    by_cases hlt : k < n
    · obtain ⟨G, dd, c1, ho, _, _, _⟩ := (H.out.keep HB.out).one (k := k * 2) (by omega)
      obtain ⟨G', dd', c2, ho', _, _, _⟩ := (H.out.keep HB.out).one (k := k * 2 + 1) (by omega)
      replace c1 : wr.cell? ⟨g, k * 2, none⟩ = some (.slice (some ⟨G, 0, none⟩) (F.m (k * 2)) dd) := c1
      replace c2 : wr.cell? ⟨g, k * 2 + 1, none⟩ = some (.slice (some ⟨G', 0, none⟩) (F.m (k * 2 + 1)) dd') := c2
      have O := hidden (show Ints wr G 0 (F.m (k * 2)) (mkI y) by
        have h1 := ho.ints
        have e : (mkD z F (n * 2)).L (k * 2) = mkI y := by simp only [mkD, if_pos (show k * 2 < n * 2 by omega)]; rw [HY.out]
        rw [e] at h1
        exact h1)
      have O2 := hidden (show Ints wr G' 0 (F.m (k * 2 + 1)) (mkI (y + F.m (k * 2))) by
        have h1 := ho'.ints
        have e : (mkD z F (n * 2)).L (k * 2 + 1) = mkI (y + F.m (k * 2)) := by simp only [mkD, if_pos (show k * 2 + 1 < n * 2 by omega)]; rw [HY.out]; simp only [sumM]; rw [Nat.add_assoc]
        rw [e] at h1
        exact h1)
      have HA := hidden (show y ≤ 1099511627776 by have := sumM_le F (show k * 2 ≤ n * 2 by omega); have := HY.out; have := HT.out; omega)
      have HA2 := hidden (show y + F.m (k * 2) ≤ 1099511627776 by have := sumM_le F (show k * 2 + 1 ≤ n * 2 by omega); have h9 := sumM_le F (show k * 2 + 1 ≤ n * 2 by omega); simp only [sumM] at h9; have := HY.out; have := HT.out; omega)
      have HM := hidden (HK.out (k * 2) (by omega))
      have HM2 := hidden (HK.out (k * 2 + 1) (by omega))
      clear ho ho'
      go_wp2_with fail
      with_reducible refine (heldInt64S_any G (F.m (k * 2)) dd y _ O.out HM.out HA.out).mono ?_
      rintro e w2 ⟨rfl, hb⟩
      have B1 := hidden (keepB HB.out hb)
      replace O2 := hidden (O2.out.keep hb)
      have HY2 := hidden (show y + F.m (k * 2) + F.m (k * 2 + 1) = z + sumM F ((k + 1) * 2) by have := HY.out; rw [show (k + 1) * 2 = k * 2 + 1 + 1 by omega]; simp only [sumM] at *; omega)
      replace c2 : w2.cell? ⟨g, k * 2 + 1, none⟩ = some (.slice (some ⟨G', 0, none⟩) (F.m (k * 2 + 1)) dd') := by rw [hb.cell (p := ⟨g, k * 2 + 1, none⟩) (World.block_lt_of_cell? _ _ c2)]; exact c2
      clear hb c1 O HA HM HB HY
      generalize y + F.m (k * 2) = y2 at *
      go_wp2_with fail
      with_reducible refine (heldInt64S_any G' (F.m (k * 2 + 1)) dd' y2 _ O2.out HM2.out HA2.out).mono ?_
      rintro e w3 ⟨rfl, hb⟩
      have B2 := hidden (keepB B1.out hb)
      clear hb c2 O2 HA2 HM2 B1
      generalize y2 + F.m (k * 2 + 1) = y3 at *
      go_wp2
      go_roundw
      case rel => exact ⟨k + 1, y3, by omega, by go_num, rfl, HY2, B2⟩
      case measure => simp [intOf]; omega
    · obtain rfl : n = k := by omega
      have HE := hidden (show (y : Int) = S by have := HY.out; have := HS.out; omega)
      go_wp2
      go_ret
      exact ⟨by rw [← HE.out]; rfl, HB.out⟩

set_option maxRecDepth 20000 in
set_option maxHeartbeats 400000 in
theorem eqEqX_none (p p' : Option Addr) (c c' : Nat) (w : World) :
    Calls Try.prog 55 #[.slice p 0 c, .slice p' 0 c'] w fun e w' => e = .returned (.bool true) ∧ Below w.heap.size w w' := by
  go_enter Try.func55, Try.ntmps55
  go_wp2
  refine wp_loop_rounds 1 ?_
  rw [rounds_succ]
  go_wp2
  go_ret
  exact ⟨by simp, Below.refl _ _⟩

set_option maxRecDepth 20000 in
set_option maxHeartbeats 400000 in
theorem markEqX_none (p : Option Addr) (c : Nat) (w : World) :
    Calls Try.prog 56 #[.slice p 0 c, .int .i64 1] w fun e w' => e = .returned (.int .i64 1) ∧ Below w.heap.size w w' := by
  go_enter Try.func56, Try.ntmps56
  go_wp2
  refine wp_loop_rounds 1 ?_
  rw [rounds_succ]
  go_wp2
  go_ret
  exact ⟨by simp, Below.refl _ _⟩

set_option maxRecDepth 20000 in
set_option maxHeartbeats 400000 in
theorem heldEqX_none (p : Option Addr) (c : Nat) (w : World) :
    Calls Try.prog 57 #[.slice p 0 c, .int .i64 1] w fun e w' => e = .returned (.int .i64 1) ∧ Below w.heap.size w w' := by
  go_enter Try.func57, Try.ntmps57
  go_wp2
  refine wp_loop_rounds 1 ?_
  rw [rounds_succ]
  go_wp2
  go_ret
  exact ⟨by simp, Below.refl _ _⟩

set_option maxRecDepth 20000 in
set_option maxHeartbeats 800000 in
theorem eqEqsR_by (z : Int) (p p' : Option Addr) (n c c' : Nat) (w : World) (h : ∀ wc, Below w.heap.size w wc → Calls Try.prog 55 #[.slice p n c, .slice p' n c'] wc fun e w' => e = .returned (.bool true) ∧ Below wc.heap.size wc w') :
    Calls Try.prog 31 #[.agg #[.int .i64 z, .slice p n c], .agg #[.int .i64 z, .slice p' n c']] w fun e w' => e = .returned (.bool true) ∧ Below w.heap.size w w' := by
  have X1 := hidden ((Two.new w (.int .i64 z) (.slice p n c) 55).keep (alloc_below _ (.cells #[.int .i64 z, .slice p' n c'] 55)))
  have X2 := hidden (Two.new (w.alloc (.cells #[.int .i64 z, .slice p n c] 55)) (.int .i64 z) (.slice p' n c') 55)
  simp only [World.size_alloc] at X2
  have B := hidden (keepB (alloc_below w (.cells #[.int .i64 z, .slice p n c] 55)) (alloc_below (w.alloc (.cells #[.int .i64 z, .slice p n c] 55)) (.cells #[.int .i64 z, .slice p' n c'] 55)))
  have S := hidden (h _ B.out)
  clear h
  have x0 := X1.out.c0
  have x1 := X1.out.c1
  have y0 := X2.out.c0
  have y1 := X2.out.c1
  go_enter Try.func31, Try.ntmps31
  go_wp2_with fail
  with_reducible refine S.out.mono ?_
  rintro e w1 ⟨rfl, hb⟩
  replace B := hidden (keepB B.out hb)
  clear hb x0 x1 y0 y1 S
  go_wp2
  go_ret
  exact ⟨rfl, B.out⟩

theorem eqEqsR_eq (z : Int) (g g' n c c' : Nat) (D : EqL) (w : World) (h : Eqs w g 0 n D) (h' : Eqs w g' 0 n D) (hk : KeptE n D) :
    Calls Try.prog 31 #[.agg #[.int .i64 z, .slice (some ⟨g, 0, none⟩) n c], .agg #[.int .i64 z, .slice (some ⟨g', 0, none⟩) n c']] w fun e w' => e = .returned (.bool true) ∧ Below w.heap.size w w' :=
  eqEqsR_by z _ _ n c c' w fun wc hb => eqEquationS_eq g 0 g' 0 n c c' D wc (h.keep hb) (h'.keep hb) hk

theorem eqEqsR_none (z : Int) (p p' : Option Addr) (c c' : Nat) (w : World) :
    Calls Try.prog 31 #[.agg #[.int .i64 z, .slice p 0 c], .agg #[.int .i64 z, .slice p' 0 c']] w fun e w' => e = .returned (.bool true) ∧ Below w.heap.size w w' :=
  eqEqsR_by z p p' 0 c c' w fun wc _ => eqEqX_none p p' c c' wc

set_option maxRecDepth 20000 in
set_option maxHeartbeats 800000 in
theorem markEqsR_any (y : Int) (lo hi g n c : Nat) (D : EqL) (w : World) (h : OwnFX w lo hi g n c (fl2 D)) (hk : KeptE n D) (ht : (1 : Int) + sumM (fl2 D) (n * 2) ≤ 1099511627776) :
    Calls Try.prog 32 #[.agg #[.int .i64 y, .slice (some ⟨g, 0, none⟩) n c], .int .i64 1] w fun e w' => e = .returned (.int .i64 (1 + sumM (fl2 D) (n * 2))) ∧ OwnFX w' lo hi g n c (mkD 1 (fl2 D) (n * 2)) ∧ Rng lo hi w w' := by
  have X := hidden (Two.new w (.int .i64 y) (.slice (some ⟨g, 0, none⟩) n c) 55)
  have hb := alloc_below w (.cells #[.int .i64 y, .slice (some ⟨g, 0, none⟩) n c] 55)
  have S := hidden (markEqX_any lo hi g n c 1 D _ (h.keep hb) hk (by omega) ht)
  have HB := hidden hb
  have x1 := X.out.c1
  clear h hb hk
  go_enter Try.func32, Try.ntmps32
  go_wp2_with fail
  with_reducible refine S.out.mono ?_
  rintro e w2 ⟨rfl, ho, hr⟩
  have O := hidden ho
  have R := hidden ((Rng.by HB.out).trans hr)
  clear x1 ho hr S
  go_wp2
  go_ret
  exact ⟨rfl, O.out, R.out⟩

set_option maxRecDepth 20000 in
set_option maxHeartbeats 800000 in
theorem heldEqsR_any (y : Int) (lo hi g n c : Nat) (D : EqL) (w : World) (h : OwnFX w lo hi g n c (mkD 1 (fl2 D) (n * 2))) (hk : KeptE n D) (ht : 1 + sumM (fl2 D) (n * 2) ≤ 1099511627776) :
    Calls Try.prog 33 #[.agg #[.int .i64 y, .slice (some ⟨g, 0, none⟩) n c], .int .i64 1] w fun e w' => e = .returned (.int .i64 (1 + sumM (fl2 D) (n * 2))) ∧ Below w.heap.size w w' := by
  have X := hidden (Two.new w (.int .i64 y) (.slice (some ⟨g, 0, none⟩) n c) 55)
  have hb := alloc_below w (.cells #[.int .i64 y, .slice (some ⟨g, 0, none⟩) n c] 55)
  have S := heldEqX_any lo hi g n c 1 D _ (h.keep hb) hk ht
  rw [show ((1 : Nat) : Int) = 1 from rfl] at S
  have SS := hidden S
  have HB := hidden hb
  have x1 := X.out.c1
  clear h hb hk S
  go_enter Try.func33, Try.ntmps33
  go_wp2_with fail
  with_reducible refine SS.out.mono ?_
  rintro e w2 ⟨rfl, hb⟩
  have B := hidden (keepB HB.out hb)
  clear x1 hb SS
  go_wp2
  go_ret
  exact ⟨rfl, B.out⟩

set_option maxRecDepth 20000 in
set_option maxHeartbeats 800000 in
theorem markEqsR_none (y : Int) (p : Option Addr) (c : Nat) (w : World) :
    Calls Try.prog 32 #[.agg #[.int .i64 y, .slice p 0 c], .int .i64 1] w fun e w' => e = .returned (.int .i64 1) ∧ Below w.heap.size w w' := by
  have X := hidden (Two.new w (.int .i64 y) (.slice p 0 c) 55)
  have HB := hidden (alloc_below w (.cells #[.int .i64 y, .slice p 0 c] 55))
  have x1 := X.out.c1
  go_enter Try.func32, Try.ntmps32
  go_wp2_with fail
  with_reducible refine (markEqX_none _ _ _).mono ?_
  rintro e w2 ⟨rfl, hb⟩
  have B := hidden (keepB HB.out hb)
  clear x1 hb
  go_wp2
  go_ret
  exact ⟨rfl, B.out⟩

set_option maxRecDepth 20000 in
set_option maxHeartbeats 800000 in
theorem heldEqsR_none (y : Int) (p : Option Addr) (c : Nat) (w : World) :
    Calls Try.prog 33 #[.agg #[.int .i64 y, .slice p 0 c], .int .i64 1] w fun e w' => e = .returned (.int .i64 1) ∧ Below w.heap.size w w' := by
  have X := hidden (Two.new w (.int .i64 y) (.slice p 0 c) 55)
  have HB := hidden (alloc_below w (.cells #[.int .i64 y, .slice p 0 c] 55))
  have x1 := X.out.c1
  go_enter Try.func33, Try.ntmps33
  go_wp2_with fail
  with_reducible refine (heldEqX_none _ _ _).mono ?_
  rintro e w2 ⟨rfl, hb⟩
  have B := hidden (keepB HB.out hb)
  clear x1 hb
  go_wp2
  go_ret
  exact ⟨rfl, B.out⟩

end Go.Proofs.Ytcnkkoegfjggaaa
