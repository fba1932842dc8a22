/- Contracts: the fault of an equation, as the model and as the program tells it. -/
import Derived.Test.YtdcngfdklpdpkaaEqn
import Derived.Test.YtdcngfdklpdpkaaGround
namespace Go.Proofs.Ytdcngfdklpdpkaa
open Go.RowKit

open Classical in
noncomputable def lowB (m : Nat) (T : Nat → Int) : Bool := decide (∀ i, i < m → -6 ≤ T i)

/-- What EquationFault answers. -/
noncomputable def eqF (n : Nat) (N : Nat → ByteArray) (A : Nat → Int) (m1 : Nat) (L1 : Nat → Int) (m2 : Nat) (L2 : Nat → Int) : Int :=
  if termF n N A m1 L1 = 0 then (if termF n N A m2 L2 = 0 then (if lowB m1 L1 = true ∧ lowB m2 L2 = true then 0 else 3) else termF n N A m2 L2) else termF n N A m1 L1

section
variable {n : Nat} {N : Nat → ByteArray} {A : Nat → Int} {m1 : Nat} {L1 : Nat → Int} {m2 : Nat} {L2 : Nat → Int}
theorem eqF_left (h : termF n N A m1 L1 ≠ 0) : eqF n N A m1 L1 m2 L2 = termF n N A m1 L1 := by rw [eqF, if_neg h]
theorem eqF_right (h : termF n N A m1 L1 = 0) (h2 : termF n N A m2 L2 ≠ 0) : eqF n N A m1 L1 m2 L2 = termF n N A m2 L2 := by rw [eqF, if_pos h, if_neg h2]
theorem eqF_low (h : termF n N A m1 L1 = 0) (h2 : termF n N A m2 L2 = 0) (h3 : lowB m1 L1 = true) (h4 : lowB m2 L2 = true) : eqF n N A m1 L1 m2 L2 = 0 := by rw [eqF, if_pos h, if_pos h2, if_pos ⟨h3, h4⟩]
theorem eqF_high (h : termF n N A m1 L1 = 0) (h2 : termF n N A m2 L2 = 0) (h3 : lowB m1 L1 = false ∨ lowB m2 L2 = false) : eqF n N A m1 L1 m2 L2 = 3 := by
  rw [eqF, if_pos h, if_pos h2, if_neg]
  rintro ⟨a, b⟩
  rcases h3 with c | c
  · rw [a] at c; cases c
  · rw [b] at c; cases c
end

set_option maxRecDepth 20000 in
set_option maxHeartbeats 400000 in
theorem l4Low_any (b off m c : Nat) (T : Nat → Int) (w : World) (h : Ints w b off m T) (hm : m ≤ 1048576) :
    Calls Try.prog 55 #[.slice (some ⟨b, off, none⟩) m c] w fun e w' => e = .returned (.bool (lowB m T)) ∧ Below w.heap.size w w' := by
  go_enter Try.func55, Try.ntmps55
  go_wp2_with fail
  go_loopw [3] (fun i wr => ∃ k : Nat, k ≤ m ∧ i = .int .i64 k ∧ Hid (∀ i, i < k → -6 ≤ T i) ∧ Hid (Below w.heap.size w wr)) (fun i _ => m - (intOf i).toNat)
  case atStart => exact ⟨0, Nat.zero_le _, rfl, hidden (fun i hi => by omega), hidden (Below.refl _ _)⟩
  case round =>
    obtain ⟨k, hk, rfl, HE, HB⟩ := hrel
    by_cases hlt : k < m
    · have c1 := (h.keep HB.out).cell k hlt
      by_cases hz : T k < -6
      · have HR := hidden (show lowB m T = false by simp only [lowB, decide_eq_false_iff_not]; intro hh; have := hh k hlt; omega)
        go_wp2
        go_ret
        exact ⟨by rw [HR.out]; rfl, HB.out⟩
      · have HZ := hidden hz
        go_wp2
        go_roundw
        case rel => exact ⟨k + 1, by omega, by go_num, hidden (fun j hj => by
          by_cases e : j = k
          · rw [e]; have := HZ.out; omega
          · exact HE.out j (by omega)), HB⟩
        case measure => simp [intOf]; omega
    · have HR := hidden (show lowB m T = true by
        simp only [lowB, decide_eq_true_eq]
        exact fun i hi => HE.out i (by omega))
      go_wp2
      go_ret
      exact ⟨by rw [HR.out]; rfl, HB.out⟩

def beyB (x : Int) : Bool := varB x && decide (x < -6)

set_option maxRecDepth 20000 in
set_option maxHeartbeats 400000 in
theorem variableOfE_any (x : Int) (w : World) (hx : -1000 ≤ x ∧ x ≤ 1000) :
    Calls Try.prog 93 #[.int .i64 x] w fun e w' => e = .returned (.int .i64 (-1 - x)) ∧ Below w.heap.size w w' := by
  go_enter Try.func93, Try.ntmps93
  go_wp2
  go_ret
  exact ⟨by go_num, Below.refl _ _⟩

set_option maxRecDepth 20000 in
set_option maxHeartbeats 400000 in
theorem isBeyond_any (x : Int) (w : World) :
    Calls Try.prog 60 #[.int .i64 x] w fun e w' => e = .returned (.bool (beyB x)) ∧ Below w.heap.size w w' := by
  go_enter Try.func60, Try.ntmps60
  go_wp2_with fail
  with_reducible refine (isVariable_any _ _).mono ?_
  rintro e w1 ⟨rfl, hb⟩
  have B := hidden hb
  clear hb
  generalize hz : varB x = ib
  cases ib
  · have HR := hidden (show beyB x = false by simp [beyB, hz])
    clear hz
    go_wp2
    go_ret
    exact ⟨by rw [HR.out]; rfl, B.out⟩
  · have HR := hidden (show beyB x = decide (x < -6) by simp [beyB, hz])
    have hx : -12 ≤ x ∧ x ≤ -1 := by simpa [varB] using hz
    clear hz
    go_wp2_with fail
    with_reducible refine (variableOfE_any _ _ (by omega)).mono ?_
    rintro e w2 ⟨rfl, hb⟩
    replace B := hidden (keepB B.out hb)
    clear hb
    by_cases h6 : x < -6
    · have q : decide ((6 : Int) ≤ -1 - x) = true := by simp; omega
      have HQ := hidden h6
      clear h6 hx
      go_wp2
      go_ret
      exact ⟨by rw [HR.out]; simp [HQ.out], B.out⟩
    · have q : decide ((6 : Int) ≤ -1 - x) = false := by simp; omega
      have HQ := hidden h6
      clear h6 hx
      go_wp2
      go_ret
      exact ⟨by rw [HR.out]; simp [HQ.out], B.out⟩

open Classical in
noncomputable def hasBey (m : Nat) (T : Nat → Int) : Bool := decide (∃ i, i < m ∧ beyB (T i) = true)

theorem hasBey_low {n : Nat} {A : Nat → Int} {m : Nat} {T : Nat → Int} (h : Nods n A m T) : hasBey m T = !lowB m T := by
  cases hl : lowB m T
  · simp only [lowB, decide_eq_false_iff_not] at hl
    simp only [hasBey, Bool.not_false, decide_eq_true_eq]
    refine Classical.byContradiction fun hc => hl fun i hi => ?_
    refine Classical.byContradiction fun h6 => hc ⟨i, hi, ?_⟩
    rcases nodeB_cases (h.node i hi) with ⟨j, e, _⟩ | ⟨h1, h2⟩
    · omega
    · simp [beyB, varB]; omega
  · simp only [lowB, decide_eq_true_eq] at hl
    simp only [hasBey, Bool.not_true, decide_eq_false_iff_not]
    rintro ⟨i, hi, e⟩
    have := hl i hi
    simp [beyB] at e
    omega

set_option maxRecDepth 20000 in
set_option maxHeartbeats 400000 in
theorem indexBey_any (b off m c : Nat) (T : Nat → Int) (w : World) (h : Ints w b off m T) (hm : m ≤ 1048576) :
    Calls Try.prog 91 #[.slice (some ⟨b, off, none⟩) m c, .func (Fn.func 60) #[] #[]] w fun e w' => (∃ r : Int, e = .returned (.int .i64 r) ∧ (decide (0 ≤ r) = hasBey m T)) ∧ Below w.heap.size w w' := by
  go_enter Try.func91, Try.ntmps91
  go_wp2_with fail
  go_loopw [8] (fun i wr => ∃ k : Nat, k ≤ m ∧ i = .int .i64 k ∧ Hid (∀ i, i < k → beyB (T i) = false) ∧ Hid (Below w.heap.size w wr)) (fun i _ => m - (intOf i).toNat)
  case atStart => exact ⟨0, Nat.zero_le _, rfl, hidden (fun i hi => by omega), hidden (Below.refl _ _)⟩
  case round =>
    obtain ⟨k, hk, rfl, HE, HB⟩ := hrel
    by_cases hlt : k < m
    · have c1 := (h.keep HB.out).cell k hlt
      go_wp2_with fail
      with_reducible refine (isBeyond_any _ _).mono ?_
      rintro e w1 ⟨rfl, hb⟩
      have B1 := hidden (keepB HB.out hb)
      clear hb c1 HB
      generalize hz : beyB (T k) = ib
      cases ib
      · have HR := hidden hz
        clear hz
        go_wp2
        go_roundw
        case rel => exact ⟨k + 1, by omega, by go_num, hidden (fun j hj => by
          by_cases e : j = k
          · rw [e]; exact HR.out
          · exact HE.out j (by omega)), B1⟩
        case measure => simp [intOf]; omega
      · have HR := hidden (show hasBey m T = true by simp only [hasBey, decide_eq_true_eq]; exact ⟨k, hlt, hz⟩)
        clear hz
        go_wp2
        go_ret
        exact ⟨⟨_, rfl, by rw [HR.out]; simp⟩, B1.out⟩
    · have HR := hidden (show hasBey m T = false by
        simp only [hasBey, decide_eq_false_iff_not]
        rintro ⟨i, hi, e⟩
        rw [HE.out i (by omega)] at e; cases e)
      go_wp2
      go_ret
      exact ⟨⟨_, rfl, by rw [HR.out]; rfl⟩, HB.out⟩

set_option maxRecDepth 20000 in
set_option maxHeartbeats 400000 in
theorem containsBey_any (b off m c : Nat) (T : Nat → Int) (w : World) (h : Ints w b off m T) (hm : m ≤ 1048576) :
    Calls Try.prog 59 #[.slice (some ⟨b, off, none⟩) m c, .func (Fn.func 60) #[] #[]] w fun e w' => e = .returned (.bool (hasBey m T)) ∧ Below w.heap.size w w' := by
  go_enter Try.func59, Try.ntmps59
  go_wp2_with fail
  refine (indexBey_any b off m c T w h hm).mono ?_
  rintro e w1 ⟨⟨r, rfl, hr⟩, hb⟩
  have HR := hidden hr
  clear hr
  go_wp2
  go_ret
  exact ⟨by rw [← HR.out]; rfl, hb⟩

set_option maxRecDepth 20000 in
set_option maxHeartbeats 1600000 in
theorem l4Fault_any (B E b off n c b1 o1 m1 c1 b2 o2 m2 c2 : Nat) (N : Nat → ByteArray) (A L1 L2 : Nat → Int) (w : World) (hd : One w B (.slice (some ⟨b, off, none⟩) n c)) (he : Two w E (.slice (some ⟨b1, o1, none⟩) m1 c1) (.slice (some ⟨b2, o2, none⟩) m2 c2)) (h : Syms w b off n N A) (h1 : Ints w b1 o1 m1 L1) (h2 : Ints w b2 o2 m2 L2) (hf : faultF n N A = 0) (hm1 : m1 ≤ 1048576) (hm2 : m2 ≤ 1048576) :
    Calls Try.prog 64 #[.pointer (some ⟨B, 0, none⟩), .pointer (some ⟨E, 0, none⟩)] w fun e w' => e = .returned (.int .i64 (eqF n N A m1 L1 m2 L2)) ∧ Below w.heap.size w w' := by
  have HS := hidden (fault_sound hf)
  have T1 := hidden (term_l (m := m1) (T := L1) hf)
  have T2 := hidden (term_l (m := m2) (T := L2) hf)
  have D := hidden hd
  have X := hidden he
  have Q := hidden h
  have I1 := hidden h1
  have I2 := hidden h2
  clear hf hd he h h1 h2
  have x0 := X.out.c0
  go_enter Try.func64, Try.ntmps64
  go_wp2_with fail
  with_reducible refine (l3Fault_all _ _ _ _ _ _ _ _ _ N A L1 _ D.out Q.out I1.out HS.out hm1).mono ?_
  rintro e w1 ⟨rfl, hb⟩
  have B := hidden hb
  replace D := hidden (D.out.keep hb)
  replace X := hidden (X.out.keep hb)
  replace Q := hidden (Q.out.keep hb)
  replace I1 := hidden (I1.out.keep hb)
  replace I2 := hidden (I2.out.keep hb)
  clear hb x0
  rw [← T1.out]
  by_cases hz : termF n N A m1 L1 = 0
  · have Z1 := hidden hz
    rw [hz]
    clear hz
    have x0 := X.out.c1
    go_wp2_with fail
    with_reducible refine (l3Fault_all _ _ _ _ _ _ _ _ _ N A L2 _ D.out Q.out I2.out HS.out hm2).mono ?_
    rintro e w2 ⟨rfl, hb⟩
    replace B := hidden (keepB B.out hb)
    replace D := hidden (D.out.keep hb)
    replace X := hidden (X.out.keep hb)
    replace I1 := hidden (I1.out.keep hb)
    replace I2 := hidden (I2.out.keep hb)
    clear hb x0
    rw [← T2.out]
    by_cases hz : termF n N A m2 L2 = 0
    · have Z2 := hidden hz
      rw [hz]
      clear hz
      have x0 := X.out.c0
      go_wp2_with fail
      with_reducible refine (l4Low_any _ _ _ _ L1 _ I1.out hm1).mono ?_
      rintro e w3 ⟨rfl, hb⟩
      replace B := hidden (keepB B.out hb)
      replace X := hidden (X.out.keep hb)
      replace I2 := hidden (I2.out.keep hb)
      clear hb x0
      generalize hl : lowB m1 L1 = ib
      cases ib
      · have HR := hidden (eqF_high Z1.out Z2.out (Or.inl hl))
        clear hl
        go_wp2
        go_ret
        exact ⟨by rw [HR.out]; rfl, B.out⟩
      · have HL := hidden hl
        clear hl
        have x0 := X.out.c1
        go_wp2_with fail
        with_reducible refine (l4Low_any _ _ _ _ L2 _ I2.out hm2).mono ?_
        rintro e w4 ⟨rfl, hb⟩
        replace B := hidden (keepB B.out hb)
        clear hb x0
        generalize hl : lowB m2 L2 = ib
        cases ib
        · have HR := hidden (eqF_high Z1.out Z2.out (Or.inr hl))
          clear hl
          go_wp2
          go_ret
          exact ⟨by rw [HR.out]; rfl, B.out⟩
        · have HR := hidden (eqF_low Z1.out Z2.out HL.out hl)
          clear hl
          go_wp2
          go_ret
          exact ⟨by rw [HR.out]; rfl, B.out⟩
    · have HR := hidden (eqF_right Z1.out hz)
      have hz' : (termF n N A m2 L2 != 0) = true := by simpa using hz
      generalize termF n N A m2 L2 = z at *
      clear hz
      go_wp2
      go_ret
      exact ⟨by rw [HR.out]; rfl, B.out⟩
  · have HR := hidden (eqF_left (m2 := m2) (L2 := L2) hz)
    have hz' : (termF n N A m1 L1 != 0) = true := by simpa using hz
    generalize termF n N A m1 L1 = z at *
    clear hz
    go_wp2
    go_ret
    exact ⟨by rw [HR.out]; rfl, B.out⟩

/-- What sidesFault answers. -/
noncomputable def sdF (n : Nat) (N : Nat → ByteArray) (A : Nat → Int) (m1 : Nat) (L1 : Nat → Int) (m2 : Nat) (L2 : Nat → Int) : Int :=
  if termF n N A m1 L1 = 0 then termF n N A m2 L2 else termF n N A m1 L1

theorem sdF_left {n : Nat} {N : Nat → ByteArray} {A : Nat → Int} {m1 : Nat} {L1 : Nat → Int} {m2 : Nat} {L2 : Nat → Int} (h : termF n N A m1 L1 ≠ 0) : sdF n N A m1 L1 m2 L2 = termF n N A m1 L1 := by rw [sdF, if_neg h]
theorem sdF_right {n : Nat} {N : Nat → ByteArray} {A : Nat → Int} {m1 : Nat} {L1 : Nat → Int} {m2 : Nat} {L2 : Nat → Int} (h : termF n N A m1 L1 = 0) : sdF n N A m1 L1 m2 L2 = termF n N A m2 L2 := by rw [sdF, if_pos h]
theorem sdF_both {n : Nat} {N : Nat → ByteArray} {A : Nat → Int} {m1 : Nat} {L1 : Nat → Int} {m2 : Nat} {L2 : Nat → Int} (h : sdF n N A m1 L1 m2 L2 = 0) : termF n N A m1 L1 = 0 ∧ termF n N A m2 L2 = 0 := by
  by_cases h1 : termF n N A m1 L1 = 0
  · exact ⟨h1, by rw [← sdF_right (m2 := m2) (L2 := L2) h1]; exact h⟩
  · rw [sdF_left h1] at h; exact absurd h h1
theorem sdF_eqF {n : Nat} {N : Nat → ByteArray} {A : Nat → Int} {m1 : Nat} {L1 : Nat → Int} {m2 : Nat} {L2 : Nat → Int} (h : sdF n N A m1 L1 m2 L2 ≠ 0) : eqF n N A m1 L1 m2 L2 = sdF n N A m1 L1 m2 L2 := by
  by_cases h1 : termF n N A m1 L1 = 0
  · rw [sdF_right h1] at h ⊢; exact eqF_right h1 h
  · rw [sdF_left h1]; exact eqF_left h1

set_option maxRecDepth 20000 in
set_option maxHeartbeats 1600000 in
theorem sides_any (b off n c b1 o1 m1 c1 b2 o2 m2 c2 : Nat) (N : Nat → ByteArray) (A L1 L2 : Nat → Int) (w : World) (h : Syms w b off n N A) (h1 : Ints w b1 o1 m1 L1) (h2 : Ints w b2 o2 m2 L2) (hk : Kept n N A) (hm1 : m1 ≤ 1048576) (hm2 : m2 ≤ 1048576) :
    Calls Try.prog 98 #[.agg #[.slice (some ⟨b, off, none⟩) n c], .agg #[.slice (some ⟨b1, o1, none⟩) m1 c1, .slice (some ⟨b2, o2, none⟩) m2 c2]] w fun e w' => e = .returned (.int .i64 (sdF n N A m1 L1 m2 L2)) ∧ Below w.heap.size w w' := by
  have A1 := hidden (alloc_below w (.cells #[.slice (some ⟨b, off, none⟩) n c] 33))
  have D := hidden (One.new w (.slice (some ⟨b, off, none⟩) n c) 33)
  have A2 := hidden (alloc_below (w.alloc (.cells #[.slice (some ⟨b, off, none⟩) n c] 33)) (.cells #[.slice (some ⟨b1, o1, none⟩) m1 c1, .slice (some ⟨b2, o2, none⟩) m2 c2] 59))
  have X := hidden (Two.new (w.alloc (.cells #[.slice (some ⟨b, off, none⟩) n c] 33)) (.slice (some ⟨b1, o1, none⟩) m1 c1) (.slice (some ⟨b2, o2, none⟩) m2 c2) 59)
  replace D := hidden (D.out.keep A2.out)
  have B := hidden (keepB A1.out A2.out)
  have Q := hidden (h.keep B.out)
  have I1 := hidden (h1.keep B.out)
  have I2 := hidden (h2.keep B.out)
  have HK := hidden hk
  clear h h1 h2 hk
  go_enter Try.func98, Try.ntmps98
  go_wp2_with fail
  with_reducible refine (implTerm_any _ _ _ _ _ _ _ _ N A L1 _ Q.out I1.out HK.out hm1).mono ?_
  rintro e w1 ⟨rfl, hb⟩
  replace D := hidden (D.out.keep hb)
  replace X := hidden (X.out.keep hb)
  replace B := hidden (keepB B.out hb)
  replace I2 := hidden (I2.out.keep hb)
  replace Q := hidden (Q.out.keep hb)
  clear hb
  by_cases hz : termF n N A m1 L1 = 0
  · have HR := hidden (sdF_right (m2 := m2) (L2 := L2) hz)
    rw [hz]
    clear hz
    have d0 := D.out.c0
    have x1 := X.out.c1
    simp only [World.size_alloc] at x1
    go_wp2_with fail
    with_reducible refine (implTerm_any _ _ _ _ _ _ _ _ N A L2 _ Q.out I2.out HK.out hm2).mono ?_
    rintro e w2 ⟨rfl, hb⟩
    replace B := hidden (keepB B.out hb)
    clear hb d0 x1
    go_wp2
    go_ret
    exact ⟨by rw [HR.out]; rfl, B.out⟩
  · have HR := hidden (sdF_left (m2 := m2) (L2 := L2) hz)
    have hz' : (termF n N A m1 L1 != 0) = true := by simpa using hz
    generalize termF n N A m1 L1 = z at *
    clear hz
    go_wp2
    go_ret
    exact ⟨by rw [HR.out]; rfl, B.out⟩

set_option maxRecDepth 20000 in
set_option maxHeartbeats 1600000 in
theorem implEqF_any (b off n c b1 o1 m1 c1 b2 o2 m2 c2 : Nat) (N : Nat → ByteArray) (A L1 L2 : Nat → Int) (w : World) (h : Syms w b off n N A) (h1 : Ints w b1 o1 m1 L1) (h2 : Ints w b2 o2 m2 L2) (hk : Kept n N A) (hm1 : m1 ≤ 1048576) (hm2 : m2 ≤ 1048576) :
    Calls Try.prog 67 #[.agg #[.slice (some ⟨b, off, none⟩) n c], .agg #[.slice (some ⟨b1, o1, none⟩) m1 c1, .slice (some ⟨b2, o2, none⟩) m2 c2]] w fun e w' => e = .returned (.int .i64 (eqF n N A m1 L1 m2 L2)) ∧ Below w.heap.size w w' := by
  have A1 := hidden (alloc_below w (.cells #[.slice (some ⟨b, off, none⟩) n c] 33))
  have A2 := hidden (alloc_below (w.alloc (.cells #[.slice (some ⟨b, off, none⟩) n c] 33)) (.cells #[.slice (some ⟨b1, o1, none⟩) m1 c1, .slice (some ⟨b2, o2, none⟩) m2 c2] 59))
  have X := hidden (Two.new (w.alloc (.cells #[.slice (some ⟨b, off, none⟩) n c] 33)) (.slice (some ⟨b1, o1, none⟩) m1 c1) (.slice (some ⟨b2, o2, none⟩) m2 c2) 59)
  simp only [World.size_alloc] at X
  have B := hidden (keepB A1.out A2.out)
  have Q := hidden (h.keep B.out)
  have I1 := hidden (h1.keep B.out)
  have I2 := hidden (h2.keep B.out)
  have HK := hidden hk
  clear h h1 h2 hk
  go_enter Try.func67, Try.ntmps67
  go_wp2_with fail
  with_reducible refine (sides_any _ _ _ _ _ _ _ _ _ _ _ _ N A L1 L2 _ Q.out I1.out I2.out HK.out hm1 hm2).mono ?_
  rintro e w1 ⟨rfl, hb⟩
  replace X := hidden (X.out.keep hb)
  replace B := hidden (keepB B.out hb)
  replace I1 := hidden (I1.out.keep hb)
  replace I2 := hidden (I2.out.keep hb)
  clear hb
  by_cases hz : sdF n N A m1 L1 m2 L2 = 0
  · have Z := hidden (sdF_both hz)
    rw [hz]
    clear hz
    have L1' := hidden (hasBey_low (term_right Z.out.1).nods)
    have L2' := hidden (hasBey_low (term_right Z.out.2).nods)
    have x0 := X.out.c0
    go_wp2_with fail
    with_reducible refine (containsBey_any _ _ _ _ L1 _ I1.out hm1).mono ?_
    rintro e w2 ⟨rfl, hb⟩
    rw [L1'.out]
    replace X := hidden (X.out.keep hb)
    replace B := hidden (keepB B.out hb)
    replace I2 := hidden (I2.out.keep hb)
    clear hb x0
    generalize hl : lowB m1 L1 = ib
    cases ib
    · have HR := hidden (eqF_high Z.out.1 Z.out.2 (Or.inl hl))
      clear hl
      simp only [Bool.not_false]
      go_wp2
      go_ret
      exact ⟨by rw [HR.out]; rfl, B.out⟩
    · have HL := hidden hl
      clear hl
      simp only [Bool.not_true]
      have x0 := X.out.c1
      go_wp2_with fail
      with_reducible refine (containsBey_any _ _ _ _ L2 _ I2.out hm2).mono ?_
      rintro e w3 ⟨rfl, hb⟩
      rw [L2'.out]
      replace B := hidden (keepB B.out hb)
      clear hb x0
      generalize hl : lowB m2 L2 = ib
      cases ib
      · have HR := hidden (eqF_high Z.out.1 Z.out.2 (Or.inr hl))
        clear hl
        simp only [Bool.not_false]
        go_wp2
        go_ret
        exact ⟨by rw [HR.out]; rfl, B.out⟩
      · have HR := hidden (eqF_low Z.out.1 Z.out.2 HL.out hl)
        clear hl
        simp only [Bool.not_true]
        go_wp2
        go_ret
        exact ⟨by rw [HR.out]; rfl, B.out⟩
  · have HR := hidden (sdF_eqF hz)
    have hz' : (sdF n N A m1 L1 m2 L2 != 0) = true := by simpa using hz
    generalize sdF n N A m1 L1 m2 L2 = z at *
    clear hz
    go_wp2
    go_ret
    exact ⟨by rw [HR.out]; rfl, B.out⟩

end Go.Proofs.Ytdcngfdklpdpkaa
