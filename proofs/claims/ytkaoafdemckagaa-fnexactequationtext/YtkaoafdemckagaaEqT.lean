/- Contracts: EquationText, as the model and as the program answers it. -/
import Derived.Test.YtkaoafdemckagaaTxtF
import Derived.Test.YtkaoafdemckagaaEqnF
import Derived.Deep.RegionHeld3
namespace Go.Proofs.Ytkaoafdemckagaa
open Go.RowKit

/-- The text of an equation. -/
def eqT (N : Nat → ByteArray) (A : Nat → Int) (m1 : Nat) (L1 : Nat → Int) (m2 : Nat) (L2 : Nat → Int) : ByteArray := (bs (txt N A L1 m1 0) ++ ⟨#[61]⟩) ++ bs (txt N A L2 m2 0)

/-- What EquationText tells beside the fault. -/
noncomputable def eqS (n : Nat) (N : Nat → ByteArray) (A : Nat → Int) (m1 : Nat) (L1 : Nat → Int) (m2 : Nat) (L2 : Nat → Int) : ByteArray := if eqF n N A m1 L1 m2 L2 = 0 then eqT N A m1 L1 m2 L2 else ⟨#[]⟩

section
variable {n : Nat} {N : Nat → ByteArray} {A : Nat → Int} {m1 : Nat} {L1 : Nat → Int} {m2 : Nat} {L2 : Nat → Int}
theorem eqS_ok (h : eqF n N A m1 L1 m2 L2 = 0) : eqS n N A m1 L1 m2 L2 = eqT N A m1 L1 m2 L2 := by rw [eqS, if_pos h]
theorem eqS_bad (h : eqF n N A m1 L1 m2 L2 ≠ 0) : eqS n N A m1 L1 m2 L2 = ⟨#[]⟩ := by rw [eqS, if_neg h]
theorem eqF_sides (h : eqF n N A m1 L1 m2 L2 = 0) : termF n N A m1 L1 = 0 ∧ termF n N A m2 L2 = 0 := by
  by_cases h1 : termF n N A m1 L1 = 0
  · by_cases h2 : termF n N A m2 L2 = 0
    · exact ⟨h1, h2⟩
    · rw [eqF_right h1 h2] at h; exact absurd h h2
  · rw [eqF_left h1] at h; exact absurd h h1
end

set_option maxRecDepth 20000 in
set_option maxHeartbeats 1600000 in
theorem l4Say_any (B E b off n c b1 o1 m1 c1 b2 o2 m2 c2 : Nat) (N : Nat → ByteArray) (A L1 L2 : Nat → Int) (w : World) (hd : One w B (.slice (some ⟨b, off, none⟩) n c)) (he : Two w E (.slice (some ⟨b1, o1, none⟩) m1 c1) (.slice (some ⟨b2, o2, none⟩) m2 c2)) (h : Syms w b off n N A) (h1 : Ints w b1 o1 m1 L1) (h2 : Ints w b2 o2 m2 L2) (g1 : Trm n A m1 L1) (g2 : Trm n A m2 L2) (hf : faultF n N A = 0) :
    Calls Try.prog 49 #[.pointer (some ⟨B, 0, none⟩), .pointer (some ⟨E, 0, none⟩)] w fun e w' => e = .returned (.string (eqT N A m1 L1 m2 L2)) ∧ Below w.heap.size w w' := by
  have D := hidden hd
  have X := hidden he
  have Q := hidden h
  have I1 := hidden h1
  have I2 := hidden h2
  have l1 : (bs (txt N A L1 m1 0)).size ≤ 2300000000000 := by rw [bs_size]; exact txt_short hf g1 _
  have l2 : (bs (txt N A L2 m2 0)).size ≤ 2300000000000 := by rw [bs_size]; exact txt_short hf g2 _
  have HR := hidden (show (bs (txt N A L1 m1 0) ++ ⟨#[61]⟩) ++ bs (txt N A L2 m2 0) = eqT N A m1 L1 m2 L2 from rfl)
  have S1 := hidden (show ∀ wc, Below w.heap.size w wc → Calls Try.prog 37 #[.pointer (some ⟨B, 0, none⟩), .slice (some ⟨b1, o1, none⟩) m1 c1, .int .i64 0] wc fun e w' => e = .returned (.string (bs (txt N A L1 m1 0))) ∧ Below w.heap.size w w' ∧ w'.cell? ⟨E, 0, none⟩ = some (.slice (some ⟨b1, o1, none⟩) m1 c1) ∧ w'.cell? ⟨E, 1, none⟩ = some (.slice (some ⟨b2, o2, none⟩) m2 c2) from fun wc hc => by
    refine (l4Text_0 B b off n c b1 o1 m1 c1 N A L1 g1 hf wc (D.out.keep hc) (Q.out.keep hc) (I1.out.keep hc)).mono ?_
    rintro e w' ⟨rfl, hb⟩
    exact ⟨rfl, keepB hc hb, (X.out.keep (keepB hc hb)).c0, (X.out.keep (keepB hc hb)).c1⟩)
  have S2 := hidden (show ∀ wc, Below w.heap.size w wc → Calls Try.prog 37 #[.pointer (some ⟨B, 0, none⟩), .slice (some ⟨b2, o2, none⟩) m2 c2, .int .i64 0] wc fun e w' => e = .returned (.string (bs (txt N A L2 m2 0))) ∧ Below w.heap.size w w' ∧ w'.cell? ⟨E, 0, none⟩ = some (.slice (some ⟨b1, o1, none⟩) m1 c1) ∧ w'.cell? ⟨E, 1, none⟩ = some (.slice (some ⟨b2, o2, none⟩) m2 c2) from fun wc hc => by
    refine (l4Text_0 B b off n c b2 o2 m2 c2 N A L2 g2 hf wc (D.out.keep hc) (Q.out.keep hc) (I2.out.keep hc)).mono ?_
    rintro e w' ⟨rfl, hb⟩
    exact ⟨rfl, keepB hc hb, (X.out.keep (keepB hc hb)).c0, (X.out.keep (keepB hc hb)).c1⟩)
  have x0 := X.out.c0
  have x1 := X.out.c1
  clear hd he h h1 h2 g1 g2 hf D Q I1 I2
  generalize bs (txt N A L1 m1 0) = u at *
  generalize bs (txt N A L2 m2 0) = v at *
  have z1 : ¬ 9223372036854775807 < u.size + 1 := by omega
  have z2 : ¬ 9223372036854775807 < u.size + 1 + v.size := by omega
  have z3 : ¬ 9223372036854775807 < (u ++ ⟨#[61]⟩).size + v.size := by rw [ByteArray.size_append]; show ¬ _ < u.size + 1 + v.size; omega
  go_enter Try.func49, Try.ntmps49
  go_wp2_with fail
  go_region_held3 (fun wz => wz.cell? ⟨E, 0, none⟩ = some (.slice (some ⟨b1, o1, none⟩) m1 c1) ∧ wz.cell? ⟨E, 1, none⟩ = some (.slice (some ⟨b2, o2, none⟩) m2 c2)) (first | exact ⟨by assumption, by assumption⟩ | go_keep) (first
    | (go_at_call 37; with_reducible refine (S1.out _ ?_).mono ?_; exact (Below.refl _ _).drew; rintro e v5 ⟨rfl, b5', y5, y6⟩)
    | (go_at_call 37; with_reducible refine (S2.out _ b5').mono ?_; rintro e v6 ⟨rfl, b6', y7, y8⟩))
  all_goals go_wp2
  all_goals go_ret
  all_goals exact ⟨by rw [← HR.out]; rfl, b6'⟩

set_option maxRecDepth 20000 in
set_option maxHeartbeats 1600000 in
theorem specEqT_any (b off n c b1 o1 m1 c1 b2 o2 m2 c2 : Nat) (N : Nat → ByteArray) (A L1 L2 : Nat → Int) (w : World) (h : Syms w b off n N A) (h1 : Ints w b1 o1 m1 L1) (h2 : Ints w b2 o2 m2 L2) (hk : Kept n N A) (hm1 : m1 ≤ 1048576) (hm2 : m2 ≤ 1048576) :
    Calls Try.prog 21 #[.agg #[.slice (some ⟨b, off, none⟩) n c], .agg #[.slice (some ⟨b1, o1, none⟩) m1 c1, .slice (some ⟨b2, o2, none⟩) m2 c2]] w fun e w' => e = .returned (.agg #[.int .i64 (eqF n N A m1 L1 m2 L2), .string (eqS n N A m1 L1 m2 L2)]) ∧ Below w.heap.size w w' := by
  have A1 := hidden (alloc_below w (.cells #[.slice (some ⟨b, off, none⟩) n c] 32))
  have D := hidden (One.new w (.slice (some ⟨b, off, none⟩) n c) 32)
  have A2 := hidden (alloc_below (w.alloc (.cells #[.slice (some ⟨b, off, none⟩) n c] 32)) (.cells #[.slice (some ⟨b1, o1, none⟩) m1 c1, .slice (some ⟨b2, o2, none⟩) m2 c2] 43))
  have X := hidden (Two.new (w.alloc (.cells #[.slice (some ⟨b, off, none⟩) n c] 32)) (.slice (some ⟨b1, o1, none⟩) m1 c1) (.slice (some ⟨b2, o2, none⟩) m2 c2) 43)
  have A3 := hidden (alloc_below ((w.alloc (.cells #[.slice (some ⟨b, off, none⟩) n c] 32)).alloc (.cells #[.slice (some ⟨b1, o1, none⟩) m1 c1, .slice (some ⟨b2, o2, none⟩) m2 c2] 43)) (.cells #[.int .i64 0, .string ⟨#[]⟩] 28))
  have R := hidden (Res.new ((w.alloc (.cells #[.slice (some ⟨b, off, none⟩) n c] 32)).alloc (.cells #[.slice (some ⟨b1, o1, none⟩) m1 c1, .slice (some ⟨b2, o2, none⟩) m2 c2] 43)) (.int .i64 0) (.string ⟨#[]⟩) 28)
  replace D := hidden ((D.out.keep A2.out).keep A3.out)
  replace X := hidden (X.out.keep A3.out)
  simp only [World.size_alloc] at X R
  have B := hidden (keepB (keepB A1.out A2.out) A3.out)
  have Q := hidden (h.keep B.out)
  have I1 := hidden (h1.keep B.out)
  have I2 := hidden (h2.keep B.out)
  have HK := hidden hk
  clear h h1 h2 hk A1 A2 A3
  have d0 := D.out.c0
  have x0 := X.out.c0
  have x1 := X.out.c1
  go_enter Try.func21, Try.ntmps21
  go_wp2_with fail
  with_reducible refine (specEqF_any _ _ _ _ _ _ _ _ _ _ _ _ N A L1 L2 _ Q.out I1.out I2.out HK.out hm1 hm2).mono ?_
  rintro e w1 ⟨rfl, hb⟩
  replace D := hidden (D.out.keep hb)
  replace X := hidden (X.out.keep hb)
  replace R := hidden (R.out.keep hb)
  replace B := hidden (keepB B.out hb)
  replace I1 := hidden (I1.out.keep hb)
  replace I2 := hidden (I2.out.keep hb)
  replace Q := hidden (Q.out.keep hb)
  clear hb d0 x0 x1
  by_cases hf : eqF n N A m1 L1 m2 L2 = 0
  · have HA := hidden (eqS_ok hf)
    have HF := hidden hf
    have HT := hidden (eqF_sides hf)
    have F0 := hidden (term_sig HT.out.1)
    rw [hf]
    clear hf
    go_wp2_with fail
    with_reducible refine (l4Say_any _ _ _ _ _ _ _ _ _ _ _ _ _ _ N A L1 L2 _ D.out X.out Q.out I1.out I2.out (term_right HT.out.1) (term_right HT.out.2) F0.out).mono ?_
    rintro e w2 ⟨rfl, hb⟩
    replace R := hidden (R.out.keep hb)
    replace B := hidden (keepB B.out hb)
    clear hb D I1 I2 Q X
    generalize eqT N A m1 L1 m2 L2 = u at *
    obtain ⟨_, q0, q1, f0, f1⟩ := id R.out
    go_wp2
    exact bodyPost_ret (v := .agg #[.int .i64 0, .string u]) (by simp [results, Try.results21, go_sem, q0, q1]) rfl ⟨by rw [HA.out, HF.out], (B.out.setCell (by simp; omega) _).setCell (by simp; omega) _⟩
  · have HA := hidden (eqS_bad hf)
    have hf' : (eqF n N A m1 L1 m2 L2 != 0) = true := by simpa using hf
    obtain ⟨z, hz⟩ : ∃ z, eqF n N A m1 L1 m2 L2 = z := ⟨_, rfl⟩
    rw [hz] at hf' ⊢
    have HZ := hidden hz
    clear hf hz
    obtain ⟨_, q0, q1, f0, f1⟩ := id R.out
    go_wp2
    exact bodyPost_ret (v := .agg #[.int .i64 z, .string ⟨#[]⟩]) (by simp [results, Try.results21, go_sem, q0, q1]) rfl ⟨by rw [HA.out, HZ.out], (B.out.setCell (by simp; omega) _).setCell (by simp; omega) _⟩

set_option maxRecDepth 20000 in
set_option maxHeartbeats 1600000 in
theorem implEqT_any (b off n c b1 o1 m1 c1 b2 o2 m2 c2 : Nat) (N : Nat → ByteArray) (A L1 L2 : Nat → Int) (w : World) (h : Syms w b off n N A) (h1 : Ints w b1 o1 m1 L1) (h2 : Ints w b2 o2 m2 L2) (hk : Kept n N A) (hm1 : m1 ≤ 1048576) (hm2 : m2 ≤ 1048576) (hc1 : m1 ≤ c1) (hc2 : m2 ≤ c2) :
    Calls Try.prog 22 #[.agg #[.slice (some ⟨b, off, none⟩) n c], .agg #[.slice (some ⟨b1, o1, none⟩) m1 c1, .slice (some ⟨b2, o2, none⟩) m2 c2]] w fun e w' => e = .returned (.agg #[.int .i64 (eqF n N A m1 L1 m2 L2), .string (eqS n N A m1 L1 m2 L2)]) ∧ Below w.heap.size w w' := by
  have A1 := hidden (alloc_below w (.cells #[.slice (some ⟨b, off, none⟩) n c] 32))
  have D := hidden (One.new w (.slice (some ⟨b, off, none⟩) n c) 32)
  have A2 := hidden (alloc_below (w.alloc (.cells #[.slice (some ⟨b, off, none⟩) n c] 32)) (.cells #[.slice (some ⟨b1, o1, none⟩) m1 c1, .slice (some ⟨b2, o2, none⟩) m2 c2] 43))
  have X := hidden (Two.new (w.alloc (.cells #[.slice (some ⟨b, off, none⟩) n c] 32)) (.slice (some ⟨b1, o1, none⟩) m1 c1) (.slice (some ⟨b2, o2, none⟩) m2 c2) 43)
  have A3 := hidden (alloc_below ((w.alloc (.cells #[.slice (some ⟨b, off, none⟩) n c] 32)).alloc (.cells #[.slice (some ⟨b1, o1, none⟩) m1 c1, .slice (some ⟨b2, o2, none⟩) m2 c2] 43)) (.cells #[.int .i64 0, .string ⟨#[]⟩] 28))
  have R := hidden (Res.new ((w.alloc (.cells #[.slice (some ⟨b, off, none⟩) n c] 32)).alloc (.cells #[.slice (some ⟨b1, o1, none⟩) m1 c1, .slice (some ⟨b2, o2, none⟩) m2 c2] 43)) (.int .i64 0) (.string ⟨#[]⟩) 28)
  replace D := hidden ((D.out.keep A2.out).keep A3.out)
  replace X := hidden (X.out.keep A3.out)
  simp only [World.size_alloc] at X R
  have B := hidden (keepB (keepB A1.out A2.out) A3.out)
  have Q := hidden (h.keep B.out)
  have I1 := hidden (h1.keep B.out)
  have I2 := hidden (h2.keep B.out)
  have HK := hidden hk
  clear h h1 h2 hk A1 A2 A3
  have d0 := D.out.c0
  have x0 := X.out.c0
  have x1 := X.out.c1
  go_enter Try.func22, Try.ntmps22
  go_wp2_with fail
  with_reducible refine (implEqF_any _ _ _ _ _ _ _ _ _ _ _ _ N A L1 L2 _ Q.out I1.out I2.out HK.out hm1 hm2).mono ?_
  rintro e w1 ⟨rfl, hb⟩
  replace D := hidden (D.out.keep hb)
  replace X := hidden (X.out.keep hb)
  replace R := hidden (R.out.keep hb)
  replace B := hidden (keepB B.out hb)
  replace I1 := hidden (I1.out.keep hb)
  replace I2 := hidden (I2.out.keep hb)
  replace Q := hidden (Q.out.keep hb)
  clear hb d0 x0 x1
  by_cases hf : eqF n N A m1 L1 m2 L2 = 0
  · have HA := hidden (eqS_ok hf)
    have HF := hidden hf
    have HT := hidden (eqF_sides hf)
    have F0 := hidden (term_sig HT.out.1)
    rw [hf]
    clear hf
    have l1 : (bs (txt N A L1 m1 0)).size ≤ 2300000000000 := by rw [bs_size]; exact txt_short F0.out (term_right HT.out.1) _
    have l2 : (bs (txt N A L2 m2 0)).size ≤ 2300000000000 := by rw [bs_size]; exact txt_short F0.out (term_right HT.out.2) _
    have HR := hidden (show (bs (txt N A L1 m1 0) ++ ⟨#[61]⟩) ++ bs (txt N A L2 m2 0) = eqT N A m1 L1 m2 L2 from rfl)
    have CK := hidden (show ∀ w', Below w1.heap.size w1 w' → (w'.cell? ⟨w.heap.size, 0, none⟩ = some (.slice (some ⟨b, off, none⟩) n c) ∧ w'.cell? ⟨w.heap.size + 1, 0, none⟩ = some (.slice (some ⟨b1, o1, none⟩) m1 c1) ∧ w'.cell? ⟨w.heap.size + 1, 1, none⟩ = some (.slice (some ⟨b2, o2, none⟩) m2 c2)) from fun w' hb => ⟨(D.out.keep hb).c0, (X.out.keep hb).c0, (X.out.keep hb).c1⟩)
    have S1 := hidden (show ∀ wc, Below w1.heap.size w1 wc → Calls Try.prog 41 #[.agg #[.slice (some ⟨b, off, none⟩) n c], .slice (some ⟨b1, o1, none⟩) m1 c1, .int .i64 0] wc fun e w' => e = .returned (.string (bs (txt N A L1 m1 0))) ∧ Below w1.heap.size w1 w' ∧ (w'.cell? ⟨w.heap.size, 0, none⟩ = some (.slice (some ⟨b, off, none⟩) n c) ∧ w'.cell? ⟨w.heap.size + 1, 0, none⟩ = some (.slice (some ⟨b1, o1, none⟩) m1 c1) ∧ w'.cell? ⟨w.heap.size + 1, 1, none⟩ = some (.slice (some ⟨b2, o2, none⟩) m2 c2)) from fun wc hc => by
      refine (textThere_0 b off n c b1 o1 m1 c1 N A L1 (term_right HT.out.1) F0.out hc1 wc (Q.out.keep hc) (I1.out.keep hc)).mono ?_
      rintro e w' ⟨rfl, hb⟩
      exact ⟨rfl, keepB hc hb, CK.out _ (keepB hc hb)⟩)
    have S2 := hidden (show ∀ wc, Below w1.heap.size w1 wc → Calls Try.prog 41 #[.agg #[.slice (some ⟨b, off, none⟩) n c], .slice (some ⟨b2, o2, none⟩) m2 c2, .int .i64 0] wc fun e w' => e = .returned (.string (bs (txt N A L2 m2 0))) ∧ Below w1.heap.size w1 w' ∧ (w'.cell? ⟨w.heap.size, 0, none⟩ = some (.slice (some ⟨b, off, none⟩) n c) ∧ w'.cell? ⟨w.heap.size + 1, 0, none⟩ = some (.slice (some ⟨b1, o1, none⟩) m1 c1) ∧ w'.cell? ⟨w.heap.size + 1, 1, none⟩ = some (.slice (some ⟨b2, o2, none⟩) m2 c2)) from fun wc hc => by
      refine (textThere_0 b off n c b2 o2 m2 c2 N A L2 (term_right HT.out.2) F0.out hc2 wc (Q.out.keep hc) (I2.out.keep hc)).mono ?_
      rintro e w' ⟨rfl, hb⟩
      exact ⟨rfl, keepB hc hb, CK.out _ (keepB hc hb)⟩)
    have RK := hidden (show ∀ w', Below w1.heap.size w1 w' → Res w' (w.heap.size + 1 + 1) (.int .i64 0) (.string ⟨#[]⟩) from fun w' hb => R.out.keep hb)
    have d0 := D.out.c0
    have x0 := X.out.c0
    have x1 := X.out.c1
    clear D X Q I1 I2 CK
    generalize bs (txt N A L1 m1 0) = u at *
    generalize bs (txt N A L2 m2 0) = v at *
    generalize eqT N A m1 L1 m2 L2 = z at *
    have z1 : ¬ 9223372036854775807 < u.size + 1 := by omega
    have z2 : ¬ 9223372036854775807 < u.size + 1 + v.size := by omega
    have z3 : ¬ 9223372036854775807 < (u ++ ⟨#[61]⟩).size + v.size := by rw [ByteArray.size_append]; show ¬ _ < u.size + 1 + v.size; omega
    go_wp2_with fail
    have n0 : ¬ (w.heap.size = w.heap.size + 1 + 1) := by omega
    have n1 : ¬ (w.heap.size + 1 + 1 = w.heap.size) := by omega
    go_region_held3 (fun wz => wz.cell? ⟨w.heap.size, 0, none⟩ = some (.slice (some ⟨b, off, none⟩) n c) ∧ wz.cell? ⟨w.heap.size + 1, 0, none⟩ = some (.slice (some ⟨b1, o1, none⟩) m1 c1) ∧ wz.cell? ⟨w.heap.size + 1, 1, none⟩ = some (.slice (some ⟨b2, o2, none⟩) m2 c2)) (first | exact ⟨by assumption, by assumption, by assumption⟩ | go_keep) (first
      | (go_at_call 41; with_reducible refine (S1.out _ ?_).mono ?_; exact (Below.refl _ _).drew; rintro e v5 ⟨rfl, b5', y5, y6, y7⟩)
      | (go_at_call 41; with_reducible refine (S2.out _ b5').mono ?_; rintro e v6 ⟨rfl, b6', y8, y9, y10⟩; obtain ⟨_, q0, q1, f0, f1⟩ := RK.out _ b6'))
    all_goals go_wp2
    all_goals exact bodyPost_ret (v := .agg #[.int .i64 0, .string (u ++ ⟨#[61]⟩ ++ v)]) (by simp [results, Try.results22, go_sem, q0, q1]) rfl ⟨by rw [HA.out, HF.out, HR.out], ((keepB B.out b6').setCell (by simp; omega) _).setCell (by simp; omega) _⟩
  · have HA := hidden (eqS_bad hf)
    have hf' : (eqF n N A m1 L1 m2 L2 != 0) = true := by simpa using hf
    obtain ⟨z, hz⟩ : ∃ z, eqF n N A m1 L1 m2 L2 = z := ⟨_, rfl⟩
    rw [hz] at hf' ⊢
    have HZ := hidden hz
    clear hf hz
    obtain ⟨_, q0, q1, f0, f1⟩ := id R.out
    go_wp2
    exact bodyPost_ret (v := .agg #[.int .i64 z, .string ⟨#[]⟩]) (by simp [results, Try.results22, go_sem, q0, q1]) rfl ⟨by rw [HA.out, HZ.out], (B.out.setCell (by simp; omega) _).setCell (by simp; omega) _⟩

end Go.Proofs.Ytkaoafdemckagaa
