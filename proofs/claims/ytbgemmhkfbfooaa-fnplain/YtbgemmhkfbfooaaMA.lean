/- Several texts as one: Eqn, Ground, EqnF. -/
import Derived.Test.YtbgemmhkfbfooaaTermF
import Derived.Test.YtbgemmhkfbfooaaIntsRes
/- Contracts: equations: how great they are, their copies and their comparison. -/
namespace Go.Proofs.Ytbgemmhkfbfooaa
open Go.RowKit

/-- A block of two cells that may be written. -/
structure Own2 (w : World) (b : Nat) (x y : Value) : Prop where
  two : Two w b x y
  f0 : w.frozen? ⟨b, 0, none⟩ = false
  f1 : w.frozen? ⟨b, 1, none⟩ = false

theorem Own2.new (w : World) (x y : Value) (t : TypeId) : Own2 (w.alloc (.cells #[x, y] t)) w.heap.size x y := by
  refine ⟨Two.new w x y t, ?_, ?_⟩ <;> simp [go_sem]

theorem Own2.keep {w w' : World} {b : Nat} {x y : Value} (h : Own2 w b x y) (hb : Below w.heap.size w w') : Own2 w' b x y :=
  ⟨h.two.keep hb, by rw [(bcell hb).2 _ _ h.two.blk]; exact h.f0, by rw [(bcell hb).2 _ _ h.two.blk]; exact h.f1⟩

theorem Own2.set0 {w : World} {b : Nat} {x y : Value} (h : Own2 w b x y) (v : Value) : Own2 (w.setCell ⟨b, 0, none⟩ v) b v y :=
  ⟨⟨by simpa using h.two.blk, World.cell?_setCell_same _ _ _ h.two.c0, by rw [World.cell?_setCell_other _ _ _ _ (by simp)]; exact h.two.c1⟩, by simpa [go_sem] using h.f0, by simpa [go_sem] using h.f1⟩

theorem Own2.set1 {w : World} {b : Nat} {x y : Value} (h : Own2 w b x y) (v : Value) : Own2 (w.setCell ⟨b, 1, none⟩ v) b x v :=
  ⟨⟨by simpa using h.two.blk, by rw [World.cell?_setCell_other _ _ _ _ (by simp)]; exact h.two.c0, World.cell?_setCell_same _ _ _ h.two.c1⟩, by simpa [go_sem] using h.f0, by simpa [go_sem] using h.f1⟩

theorem Own2.other {w : World} {b : Nat} {x y : Value} (h : Own2 w b x y) (a : Addr) (v : Value) (hne : b ≠ a.block) : Own2 (w.setCell a v) b x y :=
  ⟨⟨by simpa using h.two.blk, by rw [World.cell?_setCell_other _ _ _ _ (by intro e; exact hne (by rw [e]))]; exact h.two.c0, by rw [World.cell?_setCell_other _ _ _ _ (by intro e; exact hne (by rw [e]))]; exact h.two.c1⟩, by simpa [go_sem] using h.f0, by simpa [go_sem] using h.f1⟩

theorem Two.other {w : World} {b : Nat} {x y : Value} (h : Two w b x y) (a : Addr) (v : Value) (hne : b ≠ a.block) : Two (w.setCell a v) b x y :=
  ⟨by simpa using h.blk, by rw [World.cell?_setCell_other _ _ _ _ (by intro e; exact hne (by rw [e]))]; exact h.c0, by rw [World.cell?_setCell_other _ _ _ _ (by intro e; exact hne (by rw [e]))]; exact h.c1⟩

end Go.Proofs.Ytbgemmhkfbfooaa

/- Contracts: whether a term has no variable, as the model and as the program asks it. -/
namespace Go.Proofs.Ytbgemmhkfbfooaa
open Go.RowKit

open Classical in
noncomputable def gndB (m : Nat) (T : Nat → Int) : Bool := decide (∀ i, i < m → 0 ≤ T i)
open Classical in
noncomputable def hasVar (m : Nat) (T : Nat → Int) : Bool := decide (∃ i, i < m ∧ varB (T i) = true)

open Classical in
/-- What IsGround answers. -/
noncomputable def grB (n : Nat) (N : Nat → ByteArray) (A : Nat → Int) (m : Nat) (T : Nat → Int) : Bool := decide (termF n N A m T = 0 ∧ ∀ i, i < m → 0 ≤ T i)

set_option maxRecDepth 20000 in
set_option maxHeartbeats 400000 in
theorem indexVar_any (b off m c : Nat) (T : Nat → Int) (w : World) (h : Ints w b off m T) (hm : m ≤ 1048576) :
    Calls Try.prog 54 #[.slice (some ⟨b, off, none⟩) m c, .func (Fn.func 39) #[] #[]] w fun e w' => (∃ r : Int, e = .returned (.int .i64 r) ∧ (decide (0 ≤ r) = hasVar m T)) ∧ Below w.heap.size w w' := by
  go_enter Try.func54, Try.ntmps54
  go_wp2_with fail
  go_loopw [8] (fun i wr => ∃ k : Nat, k ≤ m ∧ i = .int .i64 k ∧ Hid (∀ i, i < k → varB (T i) = false) ∧ Hid (Below w.heap.size w wr)) (fun i _ => m - (intOf i).toNat)
  case atStart => exact ⟨0, Nat.zero_le _, rfl, hidden (fun i hi => by omega), hidden (Below.refl _ _)⟩
  case round =>
    obtain ⟨k, hk, rfl, HE, HB⟩ := hrel
    by_cases hlt : k < m
    · have c1 := (h.keep HB.out).cell k hlt
      go_wp2_with fail
      with_reducible refine (isVariable_any _ _).mono ?_
      rintro e w1 ⟨rfl, hb⟩
      have B1 := hidden (keepB HB.out hb)
      clear hb c1 HB
      generalize hz : varB (T k) = ib
      cases ib
      · have HR := hidden hz
        clear hz
        go_wp2
        go_roundw
        case rel => exact ⟨k + 1, by omega, by go_num, hidden (fun j hj => by
          by_cases e : j = k
          · rw [e]; exact HR.out
          · exact HE.out j (by omega)), B1⟩
        case measure => simp [intOf]; omega
      · have HR := hidden (show hasVar m T = true by simp only [hasVar, decide_eq_true_eq]; exact ⟨k, hlt, hz⟩)
        clear hz
        go_wp2
        go_ret
        exact ⟨⟨_, rfl, by rw [HR.out]; simp⟩, B1.out⟩
    · have HR := hidden (show hasVar m T = false by
        simp only [hasVar, decide_eq_false_iff_not]
        rintro ⟨i, hi, e⟩
        rw [HE.out i (by omega)] at e; cases e)
      go_wp2
      go_ret
      exact ⟨⟨_, rfl, by rw [HR.out]; rfl⟩, HB.out⟩

set_option maxRecDepth 20000 in
set_option maxHeartbeats 400000 in
theorem containsVar_any (b off m c : Nat) (T : Nat → Int) (w : World) (h : Ints w b off m T) (hm : m ≤ 1048576) :
    Calls Try.prog 29 #[.slice (some ⟨b, off, none⟩) m c, .func (Fn.func 39) #[] #[]] w fun e w' => e = .returned (.bool (hasVar m T)) ∧ Below w.heap.size w w' := by
  go_enter Try.func29, Try.ntmps29
  go_wp2_with fail
  refine (indexVar_any b off m c T w h hm).mono ?_
  rintro e w1 ⟨⟨r, rfl, hr⟩, hb⟩
  have HR := hidden hr
  clear hr
  go_wp2
  go_ret
  exact ⟨by rw [← HR.out]; rfl, hb⟩

theorem gr_fault {n : Nat} {N : Nat → ByteArray} {A : Nat → Int} {m : Nat} {T : Nat → Int} (h : termF n N A m T ≠ 0) : grB n N A m T = false := by simp [grB, h]
theorem gr_gnd {n : Nat} {N : Nat → ByteArray} {A : Nat → Int} {m : Nat} {T : Nat → Int} (h : termF n N A m T = 0) : grB n N A m T = gndB m T := by simp [grB, gndB, h]
theorem gr_var {n : Nat} {N : Nat → ByteArray} {A : Nat → Int} {m : Nat} {T : Nat → Int} (h : termF n N A m T = 0) : grB n N A m T = !hasVar m T := by
  have hN := (term_right h).nods
  rw [gr_gnd h]
  cases e : hasVar m T with
  | true =>
    simp only [hasVar, decide_eq_true_eq] at e
    obtain ⟨i, hi, hv⟩ := e
    simp only [varB, decide_eq_true_eq] at hv
    simp only [gndB, Bool.not_true, decide_eq_false_iff_not]
    intro h; have := h i hi; omega
  | false =>
    simp only [hasVar, decide_eq_false_iff_not] at e
    simp only [gndB, Bool.not_false, decide_eq_true_eq]
    intro i hi
    rcases nodeB_cases (hN.node i hi) with ⟨j, ej, _⟩ | hv
    · omega
    · exact absurd ⟨i, hi, by simp only [varB, decide_eq_true_eq]; exact hv⟩ e

end Go.Proofs.Ytbgemmhkfbfooaa

/- Contracts: the fault of an equation, as the model and as the program tells it. -/
namespace Go.Proofs.Ytbgemmhkfbfooaa
open Go.RowKit

open Classical in
noncomputable def lowB (m : Nat) (T : Nat → Int) : Bool := decide (∀ i, i < m → -6 ≤ T i)

/-- What EquationFault answers. -/
noncomputable def eqF (n : Nat) (N : Nat → ByteArray) (A : Nat → Int) (m1 : Nat) (L1 : Nat → Int) (m2 : Nat) (L2 : Nat → Int) : Int :=
  if termF n N A m1 L1 = 0 then (if termF n N A m2 L2 = 0 then (if lowB m1 L1 = true ∧ lowB m2 L2 = true then 0 else 3) else termF n N A m2 L2) else termF n N A m1 L1

section
variable {n : Nat} {N : Nat → ByteArray} {A : Nat → Int} {m1 : Nat} {L1 : Nat → Int} {m2 : Nat} {L2 : Nat → Int}
theorem eqF_left (h : termF n N A m1 L1 ≠ 0) : eqF n N A m1 L1 m2 L2 = termF n N A m1 L1 := by rw [eqF, if_neg h]
theorem eqF_right (h : termF n N A m1 L1 = 0) (h2 : termF n N A m2 L2 ≠ 0) : eqF n N A m1 L1 m2 L2 = termF n N A m2 L2 := by rw [eqF, if_pos h, if_neg h2]
theorem eqF_low (h : termF n N A m1 L1 = 0) (h2 : termF n N A m2 L2 = 0) (h3 : lowB m1 L1 = true) (h4 : lowB m2 L2 = true) : eqF n N A m1 L1 m2 L2 = 0 := by rw [eqF, if_pos h, if_pos h2, if_pos ⟨h3, h4⟩]
theorem eqF_high (h : termF n N A m1 L1 = 0) (h2 : termF n N A m2 L2 = 0) (h3 : lowB m1 L1 = false ∨ lowB m2 L2 = false) : eqF n N A m1 L1 m2 L2 = 3 := by
  rw [eqF, if_pos h, if_pos h2, if_neg]
  rintro ⟨a, b⟩
  rcases h3 with c | c
  · rw [a] at c; cases c
  · rw [b] at c; cases c
end

def beyB (x : Int) : Bool := varB x && decide (x < -6)

set_option maxRecDepth 20000 in
set_option maxHeartbeats 400000 in
theorem variableOfE_any (x : Int) (w : World) (hx : -1000 ≤ x ∧ x ≤ 1000) :
    Calls Try.prog 28 #[.int .i64 x] w fun e w' => e = .returned (.int .i64 (-1 - x)) ∧ Below w.heap.size w w' := by
  go_enter Try.func28, Try.ntmps28
  go_wp2
  go_ret
  exact ⟨by go_num, Below.refl _ _⟩

set_option maxRecDepth 20000 in
set_option maxHeartbeats 400000 in
theorem isBeyond_any (x : Int) (w : World) :
    Calls Try.prog 30 #[.int .i64 x] w fun e w' => e = .returned (.bool (beyB x)) ∧ Below w.heap.size w w' := by
  go_enter Try.func30, Try.ntmps30
  go_wp2_with fail
  with_reducible refine (isVariable_any _ _).mono ?_
  rintro e w1 ⟨rfl, hb⟩
  have B := hidden hb
  clear hb
  generalize hz : varB x = ib
  cases ib
  · have HR := hidden (show beyB x = false by simp [beyB, hz])
    clear hz
    go_wp2
    go_ret
    exact ⟨by rw [HR.out]; rfl, B.out⟩
  · have HR := hidden (show beyB x = decide (x < -6) by simp [beyB, hz])
    have hx : -12 ≤ x ∧ x ≤ -1 := by simpa [varB] using hz
    clear hz
    go_wp2_with fail
    with_reducible refine (variableOfE_any _ _ (by omega)).mono ?_
    rintro e w2 ⟨rfl, hb⟩
    replace B := hidden (keepB B.out hb)
    clear hb
    by_cases h6 : x < -6
    · have q : decide ((6 : Int) ≤ -1 - x) = true := by simp; omega
      have HQ := hidden h6
      clear h6 hx
      go_wp2
      go_ret
      exact ⟨by rw [HR.out]; simp [HQ.out], B.out⟩
    · have q : decide ((6 : Int) ≤ -1 - x) = false := by simp; omega
      have HQ := hidden h6
      clear h6 hx
      go_wp2
      go_ret
      exact ⟨by rw [HR.out]; simp [HQ.out], B.out⟩

open Classical in
noncomputable def hasBey (m : Nat) (T : Nat → Int) : Bool := decide (∃ i, i < m ∧ beyB (T i) = true)

theorem hasBey_low {n : Nat} {A : Nat → Int} {m : Nat} {T : Nat → Int} (h : Nods n A m T) : hasBey m T = !lowB m T := by
  cases hl : lowB m T
  · simp only [lowB, decide_eq_false_iff_not] at hl
    simp only [hasBey, Bool.not_false, decide_eq_true_eq]
    refine Classical.byContradiction fun hc => hl fun i hi => ?_
    refine Classical.byContradiction fun h6 => hc ⟨i, hi, ?_⟩
    rcases nodeB_cases (h.node i hi) with ⟨j, e, _⟩ | ⟨h1, h2⟩
    · omega
    · simp [beyB, varB]; omega
  · simp only [lowB, decide_eq_true_eq] at hl
    simp only [hasBey, Bool.not_true, decide_eq_false_iff_not]
    rintro ⟨i, hi, e⟩
    have := hl i hi
    simp [beyB] at e
    omega

set_option maxRecDepth 20000 in
set_option maxHeartbeats 400000 in
theorem indexBey_any (b off m c : Nat) (T : Nat → Int) (w : World) (h : Ints w b off m T) (hm : m ≤ 1048576) :
    Calls Try.prog 54 #[.slice (some ⟨b, off, none⟩) m c, .func (Fn.func 30) #[] #[]] w fun e w' => (∃ r : Int, e = .returned (.int .i64 r) ∧ (decide (0 ≤ r) = hasBey m T)) ∧ Below w.heap.size w w' := by
  go_enter Try.func54, Try.ntmps54
  go_wp2_with fail
  go_loopw [8] (fun i wr => ∃ k : Nat, k ≤ m ∧ i = .int .i64 k ∧ Hid (∀ i, i < k → beyB (T i) = false) ∧ Hid (Below w.heap.size w wr)) (fun i _ => m - (intOf i).toNat)
  case atStart => exact ⟨0, Nat.zero_le _, rfl, hidden (fun i hi => by omega), hidden (Below.refl _ _)⟩
  case round =>
    obtain ⟨k, hk, rfl, HE, HB⟩ := hrel
    by_cases hlt : k < m
    · have c1 := (h.keep HB.out).cell k hlt
      go_wp2_with fail
      with_reducible refine (isBeyond_any _ _).mono ?_
      rintro e w1 ⟨rfl, hb⟩
      have B1 := hidden (keepB HB.out hb)
      clear hb c1 HB
      generalize hz : beyB (T k) = ib
      cases ib
      · have HR := hidden hz
        clear hz
        go_wp2
        go_roundw
        case rel => exact ⟨k + 1, by omega, by go_num, hidden (fun j hj => by
          by_cases e : j = k
          · rw [e]; exact HR.out
          · exact HE.out j (by omega)), B1⟩
        case measure => simp [intOf]; omega
      · have HR := hidden (show hasBey m T = true by simp only [hasBey, decide_eq_true_eq]; exact ⟨k, hlt, hz⟩)
        clear hz
        go_wp2
        go_ret
        exact ⟨⟨_, rfl, by rw [HR.out]; simp⟩, B1.out⟩
    · have HR := hidden (show hasBey m T = false by
        simp only [hasBey, decide_eq_false_iff_not]
        rintro ⟨i, hi, e⟩
        rw [HE.out i (by omega)] at e; cases e)
      go_wp2
      go_ret
      exact ⟨⟨_, rfl, by rw [HR.out]; rfl⟩, HB.out⟩

set_option maxRecDepth 20000 in
set_option maxHeartbeats 400000 in
theorem containsBey_any (b off m c : Nat) (T : Nat → Int) (w : World) (h : Ints w b off m T) (hm : m ≤ 1048576) :
    Calls Try.prog 29 #[.slice (some ⟨b, off, none⟩) m c, .func (Fn.func 30) #[] #[]] w fun e w' => e = .returned (.bool (hasBey m T)) ∧ Below w.heap.size w w' := by
  go_enter Try.func29, Try.ntmps29
  go_wp2_with fail
  refine (indexBey_any b off m c T w h hm).mono ?_
  rintro e w1 ⟨⟨r, rfl, hr⟩, hb⟩
  have HR := hidden hr
  clear hr
  go_wp2
  go_ret
  exact ⟨by rw [← HR.out]; rfl, hb⟩

/-- What sidesFault answers. -/
noncomputable def sdF (n : Nat) (N : Nat → ByteArray) (A : Nat → Int) (m1 : Nat) (L1 : Nat → Int) (m2 : Nat) (L2 : Nat → Int) : Int :=
  if termF n N A m1 L1 = 0 then termF n N A m2 L2 else termF n N A m1 L1

theorem sdF_left {n : Nat} {N : Nat → ByteArray} {A : Nat → Int} {m1 : Nat} {L1 : Nat → Int} {m2 : Nat} {L2 : Nat → Int} (h : termF n N A m1 L1 ≠ 0) : sdF n N A m1 L1 m2 L2 = termF n N A m1 L1 := by rw [sdF, if_neg h]
theorem sdF_right {n : Nat} {N : Nat → ByteArray} {A : Nat → Int} {m1 : Nat} {L1 : Nat → Int} {m2 : Nat} {L2 : Nat → Int} (h : termF n N A m1 L1 = 0) : sdF n N A m1 L1 m2 L2 = termF n N A m2 L2 := by rw [sdF, if_pos h]
theorem sdF_both {n : Nat} {N : Nat → ByteArray} {A : Nat → Int} {m1 : Nat} {L1 : Nat → Int} {m2 : Nat} {L2 : Nat → Int} (h : sdF n N A m1 L1 m2 L2 = 0) : termF n N A m1 L1 = 0 ∧ termF n N A m2 L2 = 0 := by
  by_cases h1 : termF n N A m1 L1 = 0
  · exact ⟨h1, by rw [← sdF_right (m2 := m2) (L2 := L2) h1]; exact h⟩
  · rw [sdF_left h1] at h; exact absurd h h1
theorem sdF_eqF {n : Nat} {N : Nat → ByteArray} {A : Nat → Int} {m1 : Nat} {L1 : Nat → Int} {m2 : Nat} {L2 : Nat → Int} (h : sdF n N A m1 L1 m2 L2 ≠ 0) : eqF n N A m1 L1 m2 L2 = sdF n N A m1 L1 m2 L2 := by
  by_cases h1 : termF n N A m1 L1 = 0
  · rw [sdF_right h1] at h ⊢; exact eqF_right h1 h
  · rw [sdF_left h1]; exact eqF_left h1

set_option maxRecDepth 20000 in
set_option maxHeartbeats 1600000 in
theorem sides_any (b off n c b1 o1 m1 c1 b2 o2 m2 c2 : Nat) (N : Nat → ByteArray) (A L1 L2 : Nat → Int) (w : World) (h : Syms w b off n N A) (h1 : Ints w b1 o1 m1 L1) (h2 : Ints w b2 o2 m2 L2) (hk : Kept n N A) (hm1 : m1 ≤ 1048576) (hm2 : m2 ≤ 1048576) :
    Calls Try.prog 17 #[.agg #[.slice (some ⟨b, off, none⟩) n c], .agg #[.slice (some ⟨b1, o1, none⟩) m1 c1, .slice (some ⟨b2, o2, none⟩) m2 c2]] w fun e w' => e = .returned (.int .i64 (sdF n N A m1 L1 m2 L2)) ∧ Below w.heap.size w w' := by
  have A1 := hidden (alloc_below w (.cells #[.slice (some ⟨b, off, none⟩) n c] 26))
  have D := hidden (One.new w (.slice (some ⟨b, off, none⟩) n c) 26)
  have A2 := hidden (alloc_below (w.alloc (.cells #[.slice (some ⟨b, off, none⟩) n c] 26)) (.cells #[.slice (some ⟨b1, o1, none⟩) m1 c1, .slice (some ⟨b2, o2, none⟩) m2 c2] 29))
  have X := hidden (Two.new (w.alloc (.cells #[.slice (some ⟨b, off, none⟩) n c] 26)) (.slice (some ⟨b1, o1, none⟩) m1 c1) (.slice (some ⟨b2, o2, none⟩) m2 c2) 29)
  replace D := hidden (D.out.keep A2.out)
  have B := hidden (keepB A1.out A2.out)
  have Q := hidden (h.keep B.out)
  have I1 := hidden (h1.keep B.out)
  have I2 := hidden (h2.keep B.out)
  have HK := hidden hk
  clear h h1 h2 hk
  go_enter Try.func17, Try.ntmps17
  go_wp2_with fail
  with_reducible refine (implTerm_any _ _ _ _ _ _ _ _ N A L1 _ Q.out I1.out HK.out hm1).mono ?_
  rintro e w1 ⟨rfl, hb⟩
  replace D := hidden (D.out.keep hb)
  replace X := hidden (X.out.keep hb)
  replace B := hidden (keepB B.out hb)
  replace I2 := hidden (I2.out.keep hb)
  replace Q := hidden (Q.out.keep hb)
  clear hb
  by_cases hz : termF n N A m1 L1 = 0
  · have HR := hidden (sdF_right (m2 := m2) (L2 := L2) hz)
    rw [hz]
    clear hz
    have d0 := D.out.c0
    have x1 := X.out.c1
    simp only [World.size_alloc] at x1
    go_wp2_with fail
    with_reducible refine (implTerm_any _ _ _ _ _ _ _ _ N A L2 _ Q.out I2.out HK.out hm2).mono ?_
    rintro e w2 ⟨rfl, hb⟩
    replace B := hidden (keepB B.out hb)
    clear hb d0 x1
    go_wp2
    go_ret
    exact ⟨by rw [HR.out]; rfl, B.out⟩
  · have HR := hidden (sdF_left (m2 := m2) (L2 := L2) hz)
    have hz' : (termF n N A m1 L1 != 0) = true := by simpa using hz
    generalize termF n N A m1 L1 = z at *
    clear hz
    go_wp2
    go_ret
    exact ⟨by rw [HR.out]; rfl, B.out⟩

set_option maxRecDepth 20000 in
set_option maxHeartbeats 1600000 in
theorem implEqF_any (b off n c b1 o1 m1 c1 b2 o2 m2 c2 : Nat) (N : Nat → ByteArray) (A L1 L2 : Nat → Int) (w : World) (h : Syms w b off n N A) (h1 : Ints w b1 o1 m1 L1) (h2 : Ints w b2 o2 m2 L2) (hk : Kept n N A) (hm1 : m1 ≤ 1048576) (hm2 : m2 ≤ 1048576) :
    Calls Try.prog 10 #[.agg #[.slice (some ⟨b, off, none⟩) n c], .agg #[.slice (some ⟨b1, o1, none⟩) m1 c1, .slice (some ⟨b2, o2, none⟩) m2 c2]] w fun e w' => e = .returned (.int .i64 (eqF n N A m1 L1 m2 L2)) ∧ Below w.heap.size w w' := by
  have A1 := hidden (alloc_below w (.cells #[.slice (some ⟨b, off, none⟩) n c] 26))
  have A2 := hidden (alloc_below (w.alloc (.cells #[.slice (some ⟨b, off, none⟩) n c] 26)) (.cells #[.slice (some ⟨b1, o1, none⟩) m1 c1, .slice (some ⟨b2, o2, none⟩) m2 c2] 29))
  have X := hidden (Two.new (w.alloc (.cells #[.slice (some ⟨b, off, none⟩) n c] 26)) (.slice (some ⟨b1, o1, none⟩) m1 c1) (.slice (some ⟨b2, o2, none⟩) m2 c2) 29)
  simp only [World.size_alloc] at X
  have B := hidden (keepB A1.out A2.out)
  have Q := hidden (h.keep B.out)
  have I1 := hidden (h1.keep B.out)
  have I2 := hidden (h2.keep B.out)
  have HK := hidden hk
  clear h h1 h2 hk
  go_enter Try.func10, Try.ntmps10
  go_wp2_with fail
  with_reducible refine (sides_any _ _ _ _ _ _ _ _ _ _ _ _ N A L1 L2 _ Q.out I1.out I2.out HK.out hm1 hm2).mono ?_
  rintro e w1 ⟨rfl, hb⟩
  replace X := hidden (X.out.keep hb)
  replace B := hidden (keepB B.out hb)
  replace I1 := hidden (I1.out.keep hb)
  replace I2 := hidden (I2.out.keep hb)
  clear hb
  by_cases hz : sdF n N A m1 L1 m2 L2 = 0
  · have Z := hidden (sdF_both hz)
    rw [hz]
    clear hz
    have L1' := hidden (hasBey_low (term_right Z.out.1).nods)
    have L2' := hidden (hasBey_low (term_right Z.out.2).nods)
    have x0 := X.out.c0
    go_wp2_with fail
    with_reducible refine (containsBey_any _ _ _ _ L1 _ I1.out hm1).mono ?_
    rintro e w2 ⟨rfl, hb⟩
    rw [L1'.out]
    replace X := hidden (X.out.keep hb)
    replace B := hidden (keepB B.out hb)
    replace I2 := hidden (I2.out.keep hb)
    clear hb x0
    generalize hl : lowB m1 L1 = ib
    cases ib
    · have HR := hidden (eqF_high Z.out.1 Z.out.2 (Or.inl hl))
      clear hl
      simp only [Bool.not_false]
      go_wp2
      go_ret
      exact ⟨by rw [HR.out]; rfl, B.out⟩
    · have HL := hidden hl
      clear hl
      simp only [Bool.not_true]
      have x0 := X.out.c1
      go_wp2_with fail
      with_reducible refine (containsBey_any _ _ _ _ L2 _ I2.out hm2).mono ?_
      rintro e w3 ⟨rfl, hb⟩
      rw [L2'.out]
      replace B := hidden (keepB B.out hb)
      clear hb x0
      generalize hl : lowB m2 L2 = ib
      cases ib
      · have HR := hidden (eqF_high Z.out.1 Z.out.2 (Or.inr hl))
        clear hl
        simp only [Bool.not_false]
        go_wp2
        go_ret
        exact ⟨by rw [HR.out]; rfl, B.out⟩
      · have HR := hidden (eqF_low Z.out.1 Z.out.2 HL.out hl)
        clear hl
        simp only [Bool.not_true]
        go_wp2
        go_ret
        exact ⟨by rw [HR.out]; rfl, B.out⟩
  · have HR := hidden (sdF_eqF hz)
    have hz' : (sdF n N A m1 L1 m2 L2 != 0) = true := by simpa using hz
    generalize sdF n N A m1 L1 m2 L2 = z at *
    clear hz
    go_wp2
    go_ret
    exact ⟨by rw [HR.out]; rfl, B.out⟩

end Go.Proofs.Ytbgemmhkfbfooaa
