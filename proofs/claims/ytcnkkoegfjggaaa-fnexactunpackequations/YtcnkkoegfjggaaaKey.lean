/- Contracts: the key of two terms: KeyOf of the model and of the program. -/
import Derived.Test.YtcnkkoegfjggaaaJoin
import Derived.Test.YtcnkkoegfjggaaaGround
namespace Go.Proofs.Ytcnkkoegfjggaaa
open Go.RowKit

open Classical in
/-- What keeps two right terms from a key. -/
noncomputable def shortC (m1 : Nat) (T1 : Nat → Int) (m2 : Nat) (T2 : Nat → Int) : Int :=
  if gndB m1 T1 = true ∧ gndB m2 T2 = true then (if 8 < m1 ∨ 8 < m2 then 2 else 0) else 1

/-- The fault of two terms that are to be a key. -/
noncomputable def keyC (n : Nat) (N : Nat → ByteArray) (A : Nat → Int) (m1 : Nat) (T1 : Nat → Int) (m2 : Nat) (T2 : Nat → Int) : Int :=
  if termF n N A m1 T1 = 0 then (if termF n N A m2 T2 = 0 then shortC m1 T1 m2 T2 else termF n N A m2 T2) else termF n N A m1 T1

section
variable {n : Nat} {N : Nat → ByteArray} {A : Nat → Int} {m1 m2 : Nat} {T1 T2 : Nat → Int}
theorem term_sig (h : termF n N A m1 T1 = 0) : faultF n N A = 0 := by
  by_cases hf : faultF n N A = 0
  · exact hf
  · rw [term_fault hf] at h; exact h
theorem key_one (h : termF n N A m1 T1 ≠ 0) : keyC n N A m1 T1 m2 T2 = termF n N A m1 T1 := by rw [keyC, if_neg h]
theorem key_two (h : termF n N A m1 T1 = 0) (h2 : termF n N A m2 T2 ≠ 0) : keyC n N A m1 T1 m2 T2 = termF n N A m2 T2 := by rw [keyC, if_pos h, if_neg h2]
theorem key_short (h : termF n N A m1 T1 = 0) (h2 : termF n N A m2 T2 = 0) : keyC n N A m1 T1 m2 T2 = shortC m1 T1 m2 T2 := by rw [keyC, if_pos h, if_pos h2]
theorem key_right (h : keyC n N A m1 T1 m2 T2 = 0) : termF n N A m1 T1 = 0 ∧ termF n N A m2 T2 = 0 ∧ shortC m1 T1 m2 T2 = 0 := by
  by_cases h1 : termF n N A m1 T1 = 0
  · by_cases h2 : termF n N A m2 T2 = 0
    · rw [key_short h1 h2] at h; exact ⟨h1, h2, h⟩
    · rw [key_two h1 h2] at h; exact absurd h h2
  · rw [key_one h1] at h; exact absurd h h1
theorem short_form (h : ¬ (gndB m1 T1 = true ∧ gndB m2 T2 = true)) : shortC m1 T1 m2 T2 = 1 := by rw [shortC, if_neg h]
theorem short_many (h : gndB m1 T1 = true ∧ gndB m2 T2 = true) (h8 : 8 < m1 ∨ 8 < m2) : shortC m1 T1 m2 T2 = 2 := by rw [shortC, if_pos h, if_pos h8]
theorem short_ok (h : gndB m1 T1 = true ∧ gndB m2 T2 = true) (h8 : ¬ (8 < m1 ∨ 8 < m2)) : shortC m1 T1 m2 T2 = 0 := by rw [shortC, if_pos h, if_neg h8]
end

set_option maxRecDepth 20000 in
set_option maxHeartbeats 800000 in
theorem l5Short_any (b1 o1 m1 c1 b2 o2 m2 c2 : Nat) (T1 T2 : Nat → Int) (w : World) (h1 : Ints w b1 o1 m1 T1) (h2 : Ints w b2 o2 m2 T2) (hm1 : m1 ≤ 1048576) (hm2 : m2 ≤ 1048576) :
    Calls Try.prog 76 #[.slice (some ⟨b1, o1, none⟩) m1 c1, .slice (some ⟨b2, o2, none⟩) m2 c2] w fun e w' => e = .returned (.int .i64 (shortC m1 T1 m2 T2)) ∧ Below w.heap.size w w' := by
  have H2 := hidden h2
  go_enter Try.func76, Try.ntmps76
  go_wp2_with fail
  with_reducible refine (l3Ground_any _ _ _ _ T1 _ h1 hm1).mono ?_
  rintro e w1 ⟨rfl, hb⟩
  have B := hidden hb
  replace H2 := hidden (H2.out.keep hb)
  clear hb h1 h2
  generalize hg : gndB m1 T1 = ib
  cases ib
  · have HR := hidden (short_form (m1 := m1) (T1 := T1) (m2 := m2) (T2 := T2) (by rw [hg]; simp))
    clear hg
    go_wp2
    go_ret
    exact ⟨by rw [HR.out]; rfl, B.out⟩
  · have HG := hidden hg
    clear hg
    go_wp2_with fail
    with_reducible refine (l3Ground_any _ _ _ _ T2 _ H2.out hm2).mono ?_
    rintro e w2 ⟨rfl, hb⟩
    replace B := hidden (keepB B.out hb)
    clear hb
    generalize hg2 : gndB m2 T2 = ib2
    cases ib2
    · have HR := hidden (short_form (m1 := m1) (T1 := T1) (m2 := m2) (T2 := T2) (by rw [hg2]; simp))
      clear hg2
      go_wp2
      go_ret
      exact ⟨by rw [HR.out]; rfl, B.out⟩
    · have HG2 := hidden hg2
      clear hg2
      by_cases e1 : 8 < m1
      · have HR := hidden (short_many ⟨HG.out, HG2.out⟩ (Or.inl e1))
        have g1 : (8 : Int) < m1 := by omega
        go_wp2
        go_ret
        exact ⟨by rw [HR.out]; rfl, B.out⟩
      · have g1 : decide ((8 : Int) < m1) = false := by simp; omega
        by_cases e2 : 8 < m2
        · have HR := hidden (short_many ⟨HG.out, HG2.out⟩ (Or.inr e2))
          have g2 : (8 : Int) < m2 := by omega
          clear e1
          go_wp2
          go_ret
          exact ⟨by rw [HR.out]; rfl, B.out⟩
        · have HR := hidden (short_ok ⟨HG.out, HG2.out⟩ (by omega : ¬ (8 < m1 ∨ 8 < m2)))
          have g2 : decide ((8 : Int) < m2) = false := by simp; omega
          clear e1 e2
          go_wp2
          go_ret
          exact ⟨by rw [HR.out]; rfl, B.out⟩

theorem OwnR.src {w : World} {B g n d : Nat} {xs : List Value} (h : OwnR w B g n d xs) : ∀ j v, xs[j]? = some v → w.cell? ((⟨g, 0, none⟩ : Addr).add j) = some v := by
  intro j v hj
  have hl : xs.length = n * 1 := h.1
  have hlt : j < xs.length := by
    by_cases hlt : j < xs.length
    · exact hlt
    · rw [List.getElem?_eq_none (by omega)] at hj; cases hj
  have ha : (⟨g, 0, none⟩ : Addr).add j = ⟨g, j, none⟩ := by
    by_cases h0 : j = 0 <;> simp [Addr.add, h0]
  rw [ha, World.ownsRow.cellAt h j (by omega)]
  exact hj

theorem packV_one (T : Nat → Int) (m : Nat) : ∀ u ∈ packV T m, u.oneCell' = true := Byt.byteNews _

set_option maxRecDepth 20000 in
set_option maxHeartbeats 1600000 in
theorem keyFault_any (b off n c b1 o1 m1 c1 b2 o2 m2 c2 : Nat) (N : Nat → ByteArray) (A T1 T2 : Nat → Int) (w : World) (h : Syms w b off n N A) (h1 : Ints w b1 o1 m1 T1) (h2 : Ints w b2 o2 m2 T2) (hk : Kept n N A) (hm1 : m1 ≤ 1048576) (hm2 : m2 ≤ 1048576) :
    Calls Try.prog 51 #[.agg #[.slice (some ⟨b, off, none⟩) n c], .slice (some ⟨b1, o1, none⟩) m1 c1, .slice (some ⟨b2, o2, none⟩) m2 c2] w fun e w' => e = .returned (.int .i64 (keyC n N A m1 T1 m2 T2)) ∧ Below w.heap.size w w' := by
  have D := hidden (One.new w (.slice (some ⟨b, off, none⟩) n c) 32)
  have B := hidden (alloc_below w (.cells #[.slice (some ⟨b, off, none⟩) n c] 32))
  have Q := hidden (h.keep B.out)
  have I1 := hidden (h1.keep B.out)
  have I2 := hidden (h2.keep B.out)
  have HK := hidden hk
  clear h h1 h2 hk
  go_enter Try.func51, Try.ntmps51
  go_wp2_with fail
  with_reducible refine (implTerm_any _ _ _ _ _ _ _ _ N A T1 _ Q.out I1.out HK.out hm1).mono ?_
  rintro e w1 ⟨rfl, hb⟩
  replace D := hidden (D.out.keep hb)
  replace B := hidden (keepB B.out hb)
  replace Q := hidden (Q.out.keep hb)
  replace I1 := hidden (I1.out.keep hb)
  replace I2 := hidden (I2.out.keep hb)
  clear hb
  by_cases hf : termF n N A m1 T1 = 0
  · have HF := hidden hf
    rw [hf]
    clear hf
    have d0 := D.out.c0
    go_wp2_with fail
    with_reducible refine (implTerm_any _ _ _ _ _ _ _ _ N A T2 _ Q.out I2.out HK.out hm2).mono ?_
    rintro e w2 ⟨rfl, hb⟩
    replace D := hidden (D.out.keep hb)
    replace B := hidden (keepB B.out hb)
    replace Q := hidden (Q.out.keep hb)
    replace I1 := hidden (I1.out.keep hb)
    replace I2 := hidden (I2.out.keep hb)
    clear hb d0
    by_cases hf : termF n N A m2 T2 = 0
    · have HF2 := hidden hf
      have HS := hidden (key_short HF.out hf)
      rw [hf]
      clear hf
      have d0 := D.out.c0
      go_wp2_with fail
      with_reducible refine (implGround_any _ _ _ _ _ _ _ _ N A T1 _ Q.out I1.out HK.out hm1).mono ?_
      rintro e w3 ⟨rfl, hb⟩
      rw [gr_gnd HF.out]
      replace D := hidden (D.out.keep hb)
      replace B := hidden (keepB B.out hb)
      replace Q := hidden (Q.out.keep hb)
      replace I2 := hidden (I2.out.keep hb)
      clear hb d0 I1
      generalize hg : gndB m1 T1 = ib
      cases ib
      · have HR := hidden (short_form (m1 := m1) (T1 := T1) (m2 := m2) (T2 := T2) (by rw [hg]; simp))
        clear hg
        go_wp2
        go_ret
        exact ⟨by rw [HS.out, HR.out]; rfl, B.out⟩
      · have HG := hidden hg
        clear hg
        have d0 := D.out.c0
        go_wp2_with fail
        with_reducible refine (implGround_any _ _ _ _ _ _ _ _ N A T2 _ Q.out I2.out HK.out hm2).mono ?_
        rintro e w4 ⟨rfl, hb⟩
        rw [gr_gnd HF2.out]
        replace B := hidden (keepB B.out hb)
        clear hb d0 D Q I2
        generalize hg2 : gndB m2 T2 = ib2
        cases ib2
        · have HR := hidden (short_form (m1 := m1) (T1 := T1) (m2 := m2) (T2 := T2) (by rw [hg2]; simp))
          clear hg2
          go_wp2
          go_ret
          exact ⟨by rw [HS.out, HR.out]; rfl, B.out⟩
        · have HG2 := hidden hg2
          clear hg2
          by_cases e1 : 8 < m1
          · have HR := hidden (short_many ⟨HG.out, HG2.out⟩ (Or.inl e1))
            have g1 : (8 : Int) < m1 := by omega
            go_wp2
            go_ret
            exact ⟨by rw [HS.out, HR.out]; rfl, B.out⟩
          · have g1 : decide ((8 : Int) < m1) = false := by simp; omega
            by_cases e2 : 8 < m2
            · have HR := hidden (short_many ⟨HG.out, HG2.out⟩ (Or.inr e2))
              have g2 : (8 : Int) < m2 := by omega
              clear e1
              go_wp2
              go_ret
              exact ⟨by rw [HS.out, HR.out]; rfl, B.out⟩
            · have HR := hidden (short_ok ⟨HG.out, HG2.out⟩ (by omega : ¬ (8 < m1 ∨ 8 < m2)))
              have g2 : decide ((8 : Int) < m2) = false := by simp; omega
              clear e1 e2
              go_wp2
              go_ret
              exact ⟨by rw [HS.out, HR.out]; rfl, B.out⟩
    · have HR := hidden (key_two HF.out hf)
      have hf' : (termF n N A m2 T2 != 0) = true := by simpa using hf
      generalize termF n N A m2 T2 = z at *
      clear hf
      go_wp2
      go_ret
      exact ⟨by rw [HR.out]; rfl, B.out⟩
  · have HR := hidden (key_one (m2 := m2) (T2 := T2) hf)
    have hf' : (termF n N A m1 T1 != 0) = true := by simpa using hf
    generalize termF n N A m1 T1 = z at *
    clear hf
    go_wp2
    go_ret
    exact ⟨by rw [HR.out]; rfl, B.out⟩

end Go.Proofs.Ytcnkkoegfjggaaa
