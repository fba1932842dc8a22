/- Contracts: PlainEquation, as the program answers it. -/
import Derived.Test.YtkaoafdemckagaaPlnJ
import Derived.Deep.RegionHeld3
namespace Go.Proofs.Ytkaoafdemckagaa
open Go.RowKit

/-- Three cells that may be written. -/
structure Own3 (w : World) (b : Nat) (x y z : Value) : Prop where
  blk : b < w.heap.size
  c0 : w.cell? ⟨b, 0, none⟩ = some x
  c1 : w.cell? ⟨b, 1, none⟩ = some y
  c2 : w.cell? ⟨b, 2, none⟩ = some z
  f0 : w.frozen? ⟨b, 0, none⟩ = false
  f1 : w.frozen? ⟨b, 1, none⟩ = false
  f2 : w.frozen? ⟨b, 2, none⟩ = false

theorem Own3.new (w : World) (x y z : Value) (t : TypeId) : Own3 (w.alloc (.cells #[x, y, z] t)) w.heap.size x y z := by
  refine ⟨by simp, ?_, ?_, ?_, ?_, ?_, ?_⟩ <;> simp [go_sem]

theorem Own3.keep {w w' : World} {b : Nat} {x y z : Value} (h : Own3 w b x y z) (hb : Below w.heap.size w w') : Own3 w' b x y z :=
  ⟨Nat.lt_of_lt_of_le h.blk hb.size, by rw [(bcell hb).1 _ _ h.blk]; exact h.c0, by rw [(bcell hb).1 _ _ h.blk]; exact h.c1, by rw [(bcell hb).1 _ _ h.blk]; exact h.c2, by rw [(bcell hb).2 _ _ h.blk]; exact h.f0, by rw [(bcell hb).2 _ _ h.blk]; exact h.f1, by rw [(bcell hb).2 _ _ h.blk]; exact h.f2⟩

/-- The variables of an equation. -/
def eqV (m1 : Nat) (L1 : Nat → Int) (m2 : Nat) (L2 : Nat → Int) : List Int := pv (both m1 L1 L2) (m1 + m2)

open Classical in
/-- What PlainEquation answers as its code. -/
noncomputable def plC (n : Nat) (N : Nat → ByteArray) (A : Nat → Int) (m1 : Nat) (L1 : Nat → Int) (m2 : Nat) (L2 : Nat → Int) : Int :=
  if sdF n N A m1 L1 m2 L2 = 0 then (if 6 < (eqV m1 L1 m2 L2).length then 2 else 0) else sdF n N A m1 L1 m2 L2

section
variable {n : Nat} {N : Nat → ByteArray} {A : Nat → Int} {m1 : Nat} {L1 : Nat → Int} {m2 : Nat} {L2 : Nat → Int}
theorem plC_fault (h : sdF n N A m1 L1 m2 L2 ≠ 0) : plC n N A m1 L1 m2 L2 = sdF n N A m1 L1 m2 L2 := by rw [plC, if_neg h]
theorem plC_many (h : sdF n N A m1 L1 m2 L2 = 0) (h6 : 6 < (eqV m1 L1 m2 L2).length) : plC n N A m1 L1 m2 L2 = 2 := by rw [plC, if_pos h, if_pos h6]
theorem plC_ok (h : sdF n N A m1 L1 m2 L2 = 0) (h6 : ¬ 6 < (eqV m1 L1 m2 L2).length) : plC n N A m1 L1 m2 L2 = 0 := by rw [plC, if_pos h, if_neg h6]
end

/-- An equation as an answer: a fault, or two lists in memory of their own. -/
def PAns (w : World) (C : Int) (k1 : Nat) (U1 : Nat → Int) (k2 : Nat) (U2 : Nat → Int) (e : Ending) (w' : World) : Prop :=
  (C ≠ 0 ∧ e = .returned (.agg #[.int .i64 C, .slice none 0 0, .slice none 0 0])) ∨
  (C = 0 ∧ ∃ g1 d1 g2 d2, e = .returned (.agg #[.int .i64 0, .slice (some ⟨g1, 0, none⟩) k1 d1, .slice (some ⟨g2, 0, none⟩) k2 d2]) ∧ w.heap.size ≤ g1 ∧ g1 < g2 ∧ OwnI w' w.heap.size g1 k1 d1 U1 k1 ∧ OwnI w' w.heap.size g2 k2 d2 U2 k2)

theorem both_node {n m1 m2 : Nat} {A L1 L2 : Nat → Int} (h1 : Nods n A m1 L1) (h2 : Nods n A m2 L2) : ∀ i, i < m1 + m2 → nodeB (both m1 L1 L2 i) n = true := by
  intro i hi
  unfold both
  split
  · exact h1.node i (by assumption)
  · exact h2.node _ (by omega)

theorem both_in1 {m1 m2 : Nat} {L1 L2 : Nat → Int} : ∀ i, i < m1 → L1 i < 0 → L1 i ∈ eqV m1 L1 m2 L2 := by
  intro i hi h0
  have e : both m1 L1 L2 i = L1 i := by unfold both; rw [if_pos hi]
  obtain ⟨r, hr⟩ := pv_more (both m1 L1 L2) (m1 + m2 - (i + 1)) (i + 1)
  rw [show i + 1 + (m1 + m2 - (i + 1)) = m1 + m2 by omega] at hr
  unfold eqV
  rw [hr, ← e]
  exact List.mem_append_left _ (pv_mem (by rw [e]; exact h0))

theorem both_in2 {m1 m2 : Nat} {L1 L2 : Nat → Int} : ∀ i, i < m2 → L2 i < 0 → L2 i ∈ eqV m1 L1 m2 L2 := by
  intro i hi h0
  have e : both m1 L1 L2 (m1 + i) = L2 i := by unfold both; rw [if_neg (by omega)]; congr 1; omega
  obtain ⟨r, hr⟩ := pv_more (both m1 L1 L2) (m1 + m2 - (m1 + i + 1)) (m1 + i + 1)
  rw [show m1 + i + 1 + (m1 + m2 - (m1 + i + 1)) = m1 + m2 by omega] at hr
  unfold eqV
  rw [hr, ← e]
  exact List.mem_append_left _ (pv_mem (by rw [e]; exact h0))

theorem eqV_length (m1 : Nat) (L1 : Nat → Int) (m2 : Nat) (L2 : Nat → Int) : (eqV m1 L1 m2 L2).length ≤ m1 + m2 := pv_length _ _

theorem VarSl.form {w : World} {B : Nat} {v : Value} {V : List Int} (h : VarSl w B v V) : ∃ a d, v = .slice a V.length d := by
  rcases h with ⟨rfl, rfl⟩ | ⟨g, d, rfl, _⟩
  · exact ⟨none, 0, rfl⟩
  · exact ⟨some ⟨g, 0, none⟩, d, rfl⟩

set_option maxRecDepth 20000 in
set_option maxHeartbeats 3200000 in
theorem implPlain_any (b off n c b1 o1 m1 c1 b2 o2 m2 c2 : Nat) (N : Nat → ByteArray) (A L1 L2 : Nat → Int) (w : World) (h : Syms w b off n N A) (h1 : Ints w b1 o1 m1 L1) (h2 : Ints w b2 o2 m2 L2) (hk : Kept n N A) (hm1 : m1 ≤ 1048576) (hm2 : m2 ≤ 1048576) :
    Calls Try.prog 24 #[.agg #[.slice (some ⟨b, off, none⟩) n c], .agg #[.slice (some ⟨b1, o1, none⟩) m1 c1, .slice (some ⟨b2, o2, none⟩) m2 c2]] w fun e w' => PAns w (plC n N A m1 L1 m2 L2) m1 (fun i => rn (eqV m1 L1 m2 L2) (L1 i)) m2 (fun i => rn (eqV m1 L1 m2 L2) (L2 i)) e w' ∧ Below w.heap.size w w' := by
  have A1 := hidden (alloc_below w (.cells #[.slice (some ⟨b, off, none⟩) n c] 32))
  have A2 := hidden (alloc_below (w.alloc (.cells #[.slice (some ⟨b, off, none⟩) n c] 32)) (.cells #[.slice (some ⟨b1, o1, none⟩) m1 c1, .slice (some ⟨b2, o2, none⟩) m2 c2] 43))
  have X := hidden (Two.new (w.alloc (.cells #[.slice (some ⟨b, off, none⟩) n c] 32)) (.slice (some ⟨b1, o1, none⟩) m1 c1) (.slice (some ⟨b2, o2, none⟩) m2 c2) 43)
  have A3 := hidden (alloc_below ((w.alloc (.cells #[.slice (some ⟨b, off, none⟩) n c] 32)).alloc (.cells #[.slice (some ⟨b1, o1, none⟩) m1 c1, .slice (some ⟨b2, o2, none⟩) m2 c2] 43)) (.cells #[.int .i64 0, .slice none 0 0, .slice none 0 0] 49))
  have R := hidden (Own3.new ((w.alloc (.cells #[.slice (some ⟨b, off, none⟩) n c] 32)).alloc (.cells #[.slice (some ⟨b1, o1, none⟩) m1 c1, .slice (some ⟨b2, o2, none⟩) m2 c2] 43)) (.int .i64 0) (.slice none 0 0) (.slice none 0 0) 49)
  have D := hidden (((One.new w (.slice (some ⟨b, off, none⟩) n c) 32).keep A2.out).keep A3.out)
  replace X := hidden (X.out.keep A3.out)
  simp only [World.size_alloc] at X R
  have B := hidden (keepB (keepB A1.out A2.out) A3.out)
  have Q := hidden (h.keep B.out)
  have I1 := hidden (h1.keep B.out)
  have I2 := hidden (h2.keep B.out)
  have HK := hidden hk
  clear h h1 h2 hk A1 A2 A3
  have d0 := D.out.c0
  have x0 := X.out.c0
  have x1 := X.out.c1
  go_enter Try.func24, Try.ntmps24
  go_wp2_with fail
  with_reducible refine (sides_any _ _ _ _ _ _ _ _ _ _ _ _ N A L1 L2 _ Q.out I1.out I2.out HK.out hm1 hm2).mono ?_
  rintro e w1 ⟨rfl, hb⟩
  replace X := hidden (X.out.keep hb)
  replace R := hidden (R.out.keep hb)
  replace B := hidden (keepB B.out hb)
  replace I1 := hidden (I1.out.keep hb)
  replace I2 := hidden (I2.out.keep hb)
  clear hb d0 x0 x1 D Q
  by_cases hf : sdF n N A m1 L1 m2 L2 = 0
  · have HF := hidden hf
    have T1 := hidden (term_right (sdF_both hf).1)
    have T2 := hidden (term_right (sdF_both hf).2)
    have h24 := T1.out.nods.most
    have h24' := T2.out.nods.most
    have hp1 := T1.out.pos
    have hp2 := T2.out.pos
    rw [hf]
    clear hf
    have x0 := X.out.c0
    have x1 := X.out.c1
    have A4 := hidden (alloc_below w1 (.cells #[.slice (some ⟨b1, o1, none⟩) m1 c1, .slice (some ⟨b2, o2, none⟩) m2 c2] 25))
    have Y := hidden (Two.new w1 (.slice (some ⟨b1, o1, none⟩) m1 c1) (.slice (some ⟨b2, o2, none⟩) m2 c2) 25)
    go_wp2_with fail
    with_reducible refine (concat2_any _ _ _ _ _ _ _ _ _ L1 L2 _ Y.out (I1.out.keep A4.out) (I2.out.keep A4.out) (by omega) ⟨by omega, by omega⟩).mono ?_
    rintro e w2 ⟨g, d, rfl, hgb, hrow, hb⟩
    rw [both_vals] at hrow
    replace hb := keepB A4.out hb
    replace X := hidden (X.out.keep hb)
    replace R := hidden (R.out.keep hb)
    replace B := hidden (keepB B.out hb)
    replace I1 := hidden (I1.out.keep hb)
    replace I2 := hidden (I2.out.keep hb)
    have HO := hidden (row_own hrow).ints
    clear hb x0 x1 A4 Y hrow hgb
    go_wp2_with fail
    with_reducible refine (variableNodes_any _ _ n _ _ (both m1 L1 L2) _ HO.out (by omega) (both_node T1.out.nods T2.out.nods)).mono ?_
    rintro e w3 ⟨⟨v, rfl, hv⟩, hb⟩
    replace X := hidden (X.out.keep hb)
    replace R := hidden (R.out.keep hb)
    replace B := hidden (keepB B.out hb)
    replace I1 := hidden (I1.out.keep hb)
    replace I2 := hidden (I2.out.keep hb)
    have HV := hidden (show VarSl w3 w2.heap.size v (eqV m1 L1 m2 L2) from hv)
    have HL := hidden (eqV_length m1 L1 m2 L2)
    clear hb hv HO
    obtain ⟨a, dv, hvf⟩ := HV.out.form
    subst hvf
    have hl48 : (eqV m1 L1 m2 L2).length ≤ 48 := by have := HL.out; omega
    by_cases h6 : 6 < (eqV m1 L1 m2 L2).length
    · have HA := hidden (plC_many HF.out h6)
      have h6' : (6 : Int) < (eqV m1 L1 m2 L2).length := by omega
      obtain ⟨_, q0, q1, q2, f0, f1, f2⟩ := id R.out
      clear h6 hl48
      generalize (eqV m1 L1 m2 L2).length = V at *
      go_wp2
      exact bodyPost_ret (v := .agg #[.int .i64 2, .slice none 0 0, .slice none 0 0]) (by simp [results, Try.results24, go_sem, q0, q1, q2]) rfl ⟨.inl ⟨by rw [HA.out]; decide, by rw [HA.out]⟩, ((B.out.setCell (by simp; omega) _).setCell (by simp; omega) _).setCell (by simp; omega) _⟩
    · have HA := hidden (plC_ok HF.out h6)
      have h6' : ¬ (6 : Int) < (eqV m1 L1 m2 L2).length := by omega
      have CK := hidden (show ∀ w', Below w3.heap.size w3 w' → (w'.cell? ⟨w.heap.size + 1, 0, none⟩ = some (.slice (some ⟨b1, o1, none⟩) m1 c1) ∧ w'.cell? ⟨w.heap.size + 1, 1, none⟩ = some (.slice (some ⟨b2, o2, none⟩) m2 c2)) from fun w' hb => ⟨(X.out.keep hb).c0, (X.out.keep hb).c1⟩)
      have RK := hidden (show ∀ w', Below w3.heap.size w3 w' → Own3 w' (w.heap.size + 1 + 1) (.int .i64 0) (.slice none 0 0) (.slice none 0 0) from fun w' hb => R.out.keep hb)
      have S1 := hidden (show ∀ wc, Below w3.heap.size w3 wc → Calls Try.prog 54 #[.slice (some ⟨b1, o1, none⟩) m1 c1, .slice a (eqV m1 L1 m2 L2).length dv] wc fun e w' => ∃ g1 d1, e = .returned (.slice (some ⟨g1, 0, none⟩) m1 d1) ∧ w3.heap.size ≤ g1 ∧ Hid (OwnI w' w3.heap.size g1 m1 d1 (fun i => rn (eqV m1 L1 m2 L2) (L1 i)) m1) ∧ Below w3.heap.size w3 w' ∧ (w'.cell? ⟨w.heap.size + 1, 0, none⟩ = some (.slice (some ⟨b1, o1, none⟩) m1 c1) ∧ w'.cell? ⟨w.heap.size + 1, 1, none⟩ = some (.slice (some ⟨b2, o2, none⟩) m2 c2)) from fun wc hc => by
        refine (renumbered_any _ _ _ n _ _ _ (eqV m1 L1 m2 L2) L1 _ (I1.out.keep hc) (HV.out.keep hc) (by omega) (by omega) T1.out.nods.node both_in1).mono ?_
        rintro e w' ⟨⟨g1, d1, rfl, hg, ho⟩, hb⟩
        exact ⟨g1, d1, rfl, Nat.le_trans hc.size hg, hidden (ho.base (Nat.le_trans hc.size hg)), keepB hc hb, CK.out _ (keepB hc hb)⟩)
      have S2 := hidden (show ∀ wc g1 d1, Below w3.heap.size w3 wc → Hid (OwnI wc w3.heap.size g1 m1 d1 (fun i => rn (eqV m1 L1 m2 L2) (L1 i)) m1) → Calls Try.prog 54 #[.slice (some ⟨b2, o2, none⟩) m2 c2, .slice a (eqV m1 L1 m2 L2).length dv] wc fun e w' => ∃ g2 d2, e = .returned (.slice (some ⟨g2, 0, none⟩) m2 d2) ∧ Hid (g1 < g2 ∧ OwnI w' w3.heap.size g1 m1 d1 (fun i => rn (eqV m1 L1 m2 L2) (L1 i)) m1 ∧ OwnI w' w3.heap.size g2 m2 d2 (fun i => rn (eqV m1 L1 m2 L2) (L2 i)) m2) ∧ Below w3.heap.size w3 w' ∧ (w'.cell? ⟨w.heap.size + 1, 0, none⟩ = some (.slice (some ⟨b1, o1, none⟩) m1 c1) ∧ w'.cell? ⟨w.heap.size + 1, 1, none⟩ = some (.slice (some ⟨b2, o2, none⟩) m2 c2)) from fun wc g1 d1 hc ho1 => by
        refine (renumbered_any _ _ _ n _ _ _ (eqV m1 L1 m2 L2) L2 _ (I2.out.keep hc) (HV.out.keep hc) (by omega) (by omega) T2.out.nods.node both_in2).mono ?_
        rintro e w' ⟨⟨g2, d2, rfl, hg, ho⟩, hb⟩
        exact ⟨g2, d2, rfl, hidden ⟨Nat.lt_of_lt_of_le ho1.out.lt hg, ho1.out.keep hb, ho.base (Nat.le_trans hc.size hg)⟩, keepB hc hb, CK.out _ (keepB hc hb)⟩)
      have x0 := X.out.c0
      have x1 := X.out.c1
      have BS := hidden B.out.size
      have RB := hidden R.out.blk
      clear h6 hl48 CK R X I1 I2 HV HL T1 T2
      generalize (eqV m1 L1 m2 L2).length = V at *
      go_wp2_with fail
      go_region_held3 (fun wz => wz.cell? ⟨w.heap.size + 1, 0, none⟩ = some (.slice (some ⟨b1, o1, none⟩) m1 c1) ∧ wz.cell? ⟨w.heap.size + 1, 1, none⟩ = some (.slice (some ⟨b2, o2, none⟩) m2 c2)) (first | exact ⟨by assumption, by assumption⟩ | go_keep) (first
        | (go_at_call 54; with_reducible refine (S1.out _ ?_).mono ?_; exact (Below.refl _ _).drew; rintro e v5 ⟨g5', d5', rfl, hg5, o5', b5', y5, y6⟩)
        | (go_at_call 54; with_reducible refine (S2.out _ _ _ b5' o5').mono ?_; rintro e v6 ⟨g6', d6', rfl, o6', b6', y7, y8⟩; obtain ⟨_, q0, q1, q2, f0, f1, f2⟩ := RK.out _ b6'))
      all_goals go_wp2
      all_goals (
        obtain ⟨l5, o5, o6⟩ := o6'.out
        have r1 := RB.out
        have r2 := BS.out
        refine bodyPost_ret (v := .agg #[.int .i64 0, .slice (some ⟨g5', 0, none⟩) m1 d5', .slice (some ⟨g6', 0, none⟩) m2 d6']) (by simp [results, Try.results24, go_sem, q0, q1, q2]) rfl ⟨.inr ⟨HA.out, g5', d5', g6', d6', rfl, by omega, l5, ?_, ?_⟩, ?_⟩
        · exact (((o5.other _ _ (by show g5' ≠ w.heap.size + 1 + 1; omega)).other _ _ (by show g5' ≠ w.heap.size + 1 + 1; omega)).other _ _ (by show g5' ≠ w.heap.size + 1 + 1; omega)).base (by omega)
        · exact (((o6.other _ _ (by show g6' ≠ w.heap.size + 1 + 1; omega)).other _ _ (by show g6' ≠ w.heap.size + 1 + 1; omega)).other _ _ (by show g6' ≠ w.heap.size + 1 + 1; omega)).base (by omega)
        · exact (((keepB B.out b6').setCell (by simp; omega) _).setCell (by simp; omega) _).setCell (by simp; omega) _)
  · have HA := hidden (plC_fault hf)
    have HC := hidden hf
    have hf' : (sdF n N A m1 L1 m2 L2 != 0) = true := by simpa using hf
    obtain ⟨z, hz⟩ : ∃ z, sdF n N A m1 L1 m2 L2 = z := ⟨_, rfl⟩
    rw [hz] at hf' ⊢
    have HZ := hidden hz
    clear hf hz
    obtain ⟨_, q0, q1, q2, f0, f1, f2⟩ := id R.out
    go_wp2
    exact bodyPost_ret (v := .agg #[.int .i64 z, .slice none 0 0, .slice none 0 0]) (by simp [results, Try.results24, go_sem, q0, q1, q2]) rfl ⟨.inl ⟨by rw [HA.out]; exact HC.out, by rw [HA.out, HZ.out]⟩, ((B.out.setCell (by simp; omega) _).setCell (by simp; omega) _).setCell (by simp; omega) _⟩

end Go.Proofs.Ytkaoafdemckagaa
