/- Contracts: the fault of an equation, as the model and as the program tells it. -/
import Derived.Test.YtenlogljpgdbpaaEqn
import Derived.Test.YtenlogljpgdbpaaGround
namespace Go.Proofs.Ytenlogljpgdbpaa
open Go.RowKit

open Classical in
noncomputable def lowB (m : Nat) (T : Nat → Int) : Bool := decide (∀ i, i < m → -6 ≤ T i)

/-- What EquationFault answers. -/
noncomputable def eqF (n : Nat) (N : Nat → ByteArray) (A : Nat → Int) (m1 : Nat) (L1 : Nat → Int) (m2 : Nat) (L2 : Nat → Int) : Int :=
  if termF n N A m1 L1 = 0 then (if termF n N A m2 L2 = 0 then (if lowB m1 L1 = true ∧ lowB m2 L2 = true then 0 else 3) else termF n N A m2 L2) else termF n N A m1 L1

section
variable {n : Nat} {N : Nat → ByteArray} {A : Nat → Int} {m1 : Nat} {L1 : Nat → Int} {m2 : Nat} {L2 : Nat → Int}
theorem eqF_left (h : termF n N A m1 L1 ≠ 0) : eqF n N A m1 L1 m2 L2 = termF n N A m1 L1 := by rw [eqF, if_neg h]
theorem eqF_right (h : termF n N A m1 L1 = 0) (h2 : termF n N A m2 L2 ≠ 0) : eqF n N A m1 L1 m2 L2 = termF n N A m2 L2 := by rw [eqF, if_pos h, if_neg h2]
theorem eqF_low (h : termF n N A m1 L1 = 0) (h2 : termF n N A m2 L2 = 0) (h3 : lowB m1 L1 = true) (h4 : lowB m2 L2 = true) : eqF n N A m1 L1 m2 L2 = 0 := by rw [eqF, if_pos h, if_pos h2, if_pos ⟨h3, h4⟩]
theorem eqF_high (h : termF n N A m1 L1 = 0) (h2 : termF n N A m2 L2 = 0) (h3 : lowB m1 L1 = false ∨ lowB m2 L2 = false) : eqF n N A m1 L1 m2 L2 = 3 := by
  rw [eqF, if_pos h, if_pos h2, if_neg]
  rintro ⟨a, b⟩
  rcases h3 with c | c
  · rw [a] at c; cases c
  · rw [b] at c; cases c
end

def beyB (x : Int) : Bool := varB x && decide (x < -6)

set_option maxRecDepth 20000 in
set_option maxHeartbeats 400000 in
theorem variableOfE_any (x : Int) (w : World) (hx : -1000 ≤ x ∧ x ≤ 1000) :
    Calls Try.prog 91 #[.int .i64 x] w fun e w' => e = .returned (.int .i64 (-1 - x)) ∧ Below w.heap.size w w' := by
  go_enter Try.func91, Try.ntmps91
  go_wp2
  go_ret
  exact ⟨by go_num, Below.refl _ _⟩

open Classical in
noncomputable def hasBey (m : Nat) (T : Nat → Int) : Bool := decide (∃ i, i < m ∧ beyB (T i) = true)

theorem hasBey_low {n : Nat} {A : Nat → Int} {m : Nat} {T : Nat → Int} (h : Nods n A m T) : hasBey m T = !lowB m T := by
  cases hl : lowB m T
  · simp only [lowB, decide_eq_false_iff_not] at hl
    simp only [hasBey, Bool.not_false, decide_eq_true_eq]
    refine Classical.byContradiction fun hc => hl fun i hi => ?_
    refine Classical.byContradiction fun h6 => hc ⟨i, hi, ?_⟩
    rcases nodeB_cases (h.node i hi) with ⟨j, e, _⟩ | ⟨h1, h2⟩
    · omega
    · simp [beyB, varB]; omega
  · simp only [lowB, decide_eq_true_eq] at hl
    simp only [hasBey, Bool.not_true, decide_eq_false_iff_not]
    rintro ⟨i, hi, e⟩
    have := hl i hi
    simp [beyB] at e
    omega

/-- What sidesFault answers. -/
noncomputable def sdF (n : Nat) (N : Nat → ByteArray) (A : Nat → Int) (m1 : Nat) (L1 : Nat → Int) (m2 : Nat) (L2 : Nat → Int) : Int :=
  if termF n N A m1 L1 = 0 then termF n N A m2 L2 else termF n N A m1 L1

theorem sdF_left {n : Nat} {N : Nat → ByteArray} {A : Nat → Int} {m1 : Nat} {L1 : Nat → Int} {m2 : Nat} {L2 : Nat → Int} (h : termF n N A m1 L1 ≠ 0) : sdF n N A m1 L1 m2 L2 = termF n N A m1 L1 := by rw [sdF, if_neg h]
theorem sdF_right {n : Nat} {N : Nat → ByteArray} {A : Nat → Int} {m1 : Nat} {L1 : Nat → Int} {m2 : Nat} {L2 : Nat → Int} (h : termF n N A m1 L1 = 0) : sdF n N A m1 L1 m2 L2 = termF n N A m2 L2 := by rw [sdF, if_pos h]
theorem sdF_both {n : Nat} {N : Nat → ByteArray} {A : Nat → Int} {m1 : Nat} {L1 : Nat → Int} {m2 : Nat} {L2 : Nat → Int} (h : sdF n N A m1 L1 m2 L2 = 0) : termF n N A m1 L1 = 0 ∧ termF n N A m2 L2 = 0 := by
  by_cases h1 : termF n N A m1 L1 = 0
  · exact ⟨h1, by rw [← sdF_right (m2 := m2) (L2 := L2) h1]; exact h⟩
  · rw [sdF_left h1] at h; exact absurd h h1
theorem sdF_eqF {n : Nat} {N : Nat → ByteArray} {A : Nat → Int} {m1 : Nat} {L1 : Nat → Int} {m2 : Nat} {L2 : Nat → Int} (h : sdF n N A m1 L1 m2 L2 ≠ 0) : eqF n N A m1 L1 m2 L2 = sdF n N A m1 L1 m2 L2 := by
  by_cases h1 : termF n N A m1 L1 = 0
  · rw [sdF_right h1] at h ⊢; exact eqF_right h1 h
  · rw [sdF_left h1]; exact eqF_left h1

set_option maxRecDepth 20000 in
set_option maxHeartbeats 1600000 in
theorem sides_any (b off n c b1 o1 m1 c1 b2 o2 m2 c2 : Nat) (N : Nat → ByteArray) (A L1 L2 : Nat → Int) (w : World) (h : Syms w b off n N A) (h1 : Ints w b1 o1 m1 L1) (h2 : Ints w b2 o2 m2 L2) (hk : Kept n N A) (hm1 : m1 ≤ 1048576) (hm2 : m2 ≤ 1048576) :
    Calls Try.prog 31 #[.agg #[.slice (some ⟨b, off, none⟩) n c], .agg #[.slice (some ⟨b1, o1, none⟩) m1 c1, .slice (some ⟨b2, o2, none⟩) m2 c2]] w fun e w' => e = .returned (.int .i64 (sdF n N A m1 L1 m2 L2)) ∧ Below w.heap.size w w' := by
  have A1 := hidden (alloc_below w (.cells #[.slice (some ⟨b, off, none⟩) n c] 35))
  have D := hidden (One.new w (.slice (some ⟨b, off, none⟩) n c) 35)
  have A2 := hidden (alloc_below (w.alloc (.cells #[.slice (some ⟨b, off, none⟩) n c] 35)) (.cells #[.slice (some ⟨b1, o1, none⟩) m1 c1, .slice (some ⟨b2, o2, none⟩) m2 c2] 61))
  have X := hidden (Two.new (w.alloc (.cells #[.slice (some ⟨b, off, none⟩) n c] 35)) (.slice (some ⟨b1, o1, none⟩) m1 c1) (.slice (some ⟨b2, o2, none⟩) m2 c2) 61)
  replace D := hidden (D.out.keep A2.out)
  have B := hidden (keepB A1.out A2.out)
  have Q := hidden (h.keep B.out)
  have I1 := hidden (h1.keep B.out)
  have I2 := hidden (h2.keep B.out)
  have HK := hidden hk
  clear h h1 h2 hk
  go_enter Try.func31, Try.ntmps31
  go_wp2_with fail
  with_reducible refine (implTerm_any _ _ _ _ _ _ _ _ N A L1 _ Q.out I1.out HK.out hm1).mono ?_
  rintro e w1 ⟨rfl, hb⟩
  replace D := hidden (D.out.keep hb)
  replace X := hidden (X.out.keep hb)
  replace B := hidden (keepB B.out hb)
  replace I2 := hidden (I2.out.keep hb)
  replace Q := hidden (Q.out.keep hb)
  clear hb
  by_cases hz : termF n N A m1 L1 = 0
  · have HR := hidden (sdF_right (m2 := m2) (L2 := L2) hz)
    rw [hz]
    clear hz
    have d0 := D.out.c0
    have x1 := X.out.c1
    simp only [World.size_alloc] at x1
    go_wp2_with fail
    with_reducible refine (implTerm_any _ _ _ _ _ _ _ _ N A L2 _ Q.out I2.out HK.out hm2).mono ?_
    rintro e w2 ⟨rfl, hb⟩
    replace B := hidden (keepB B.out hb)
    clear hb d0 x1
    go_wp2
    go_ret
    exact ⟨by rw [HR.out]; rfl, B.out⟩
  · have HR := hidden (sdF_left (m2 := m2) (L2 := L2) hz)
    have hz' : (termF n N A m1 L1 != 0) = true := by simpa using hz
    generalize termF n N A m1 L1 = z at *
    clear hz
    go_wp2
    go_ret
    exact ⟨by rw [HR.out]; rfl, B.out⟩

end Go.Proofs.Ytenlogljpgdbpaa
