/- Contracts: PlainEquation, as the model answers it: the whole. -/
import Derived.Test.YtkaoafdemckagaaPlnS
namespace Go.Proofs.Ytkaoafdemckagaa
open Go.RowKit

set_option maxRecDepth 20000 in
set_option maxHeartbeats 3200000 in
theorem specPlain_any (b off n c b1 o1 m1 c1 b2 o2 m2 c2 : Nat) (N : Nat → ByteArray) (A L1 L2 : Nat → Int) (w : World) (h : Syms w b off n N A) (h1 : Ints w b1 o1 m1 L1) (h2 : Ints w b2 o2 m2 L2) (hk : Kept n N A) (hm1 : m1 ≤ 1048576) (hm2 : m2 ≤ 1048576) :
    Calls Try.prog 23 #[.agg #[.slice (some ⟨b, off, none⟩) n c], .agg #[.slice (some ⟨b1, o1, none⟩) m1 c1, .slice (some ⟨b2, o2, none⟩) m2 c2]] w fun e w' => PAns w (plC n N A m1 L1 m2 L2) m1 (fun i => rn (eqV m1 L1 m2 L2) (L1 i)) m2 (fun i => rn (eqV m1 L1 m2 L2) (L2 i)) e w' ∧ Below w.heap.size w w' := by
  have A1 := hidden (alloc_below w (.cells #[.slice (some ⟨b, off, none⟩) n c] 32))
  have A2 := hidden (alloc_below (w.alloc (.cells #[.slice (some ⟨b, off, none⟩) n c] 32)) (.cells #[.slice (some ⟨b1, o1, none⟩) m1 c1, .slice (some ⟨b2, o2, none⟩) m2 c2] 43))
  have X := hidden (Two.new (w.alloc (.cells #[.slice (some ⟨b, off, none⟩) n c] 32)) (.slice (some ⟨b1, o1, none⟩) m1 c1) (.slice (some ⟨b2, o2, none⟩) m2 c2) 43)
  have A3 := hidden (alloc_below ((w.alloc (.cells #[.slice (some ⟨b, off, none⟩) n c] 32)).alloc (.cells #[.slice (some ⟨b1, o1, none⟩) m1 c1, .slice (some ⟨b2, o2, none⟩) m2 c2] 43)) (.cells #[.int .i64 0, .slice none 0 0, .slice none 0 0] 49))
  have R := hidden (Own3.new ((w.alloc (.cells #[.slice (some ⟨b, off, none⟩) n c] 32)).alloc (.cells #[.slice (some ⟨b1, o1, none⟩) m1 c1, .slice (some ⟨b2, o2, none⟩) m2 c2] 43)) (.int .i64 0) (.slice none 0 0) (.slice none 0 0) 49)
  have D := hidden (((One.new w (.slice (some ⟨b, off, none⟩) n c) 32).keep A2.out).keep A3.out)
  replace X := hidden (X.out.keep A3.out)
  simp only [World.size_alloc] at X R
  have B := hidden (keepB (keepB A1.out A2.out) A3.out)
  have Q := hidden (h.keep B.out)
  have I1 := hidden (h1.keep B.out)
  have I2 := hidden (h2.keep B.out)
  have HK := hidden hk
  clear h h1 h2 hk A1 A2 A3
  have d0 := D.out.c0
  have x0 := X.out.c0
  go_enter Try.func23, Try.ntmps23
  go_wp2_with fail
  with_reducible refine (specTerm_any _ _ _ _ _ _ _ _ N A L1 _ Q.out I1.out HK.out hm1).mono ?_
  rintro e w1 ⟨rfl, hb⟩
  replace X := hidden (X.out.keep hb)
  replace R := hidden (R.out.keep hb)
  replace D := hidden (D.out.keep hb)
  replace B := hidden (keepB B.out hb)
  replace I1 := hidden (I1.out.keep hb)
  replace I2 := hidden (I2.out.keep hb)
  replace Q := hidden (Q.out.keep hb)
  clear hb d0 x0
  by_cases hf : termF n N A m1 L1 = 0
  · have HF := hidden hf
    have F0 := hidden (show faultF n N A = 0 from Classical.byContradiction fun hc => by rw [term_fault hc] at hf; exact hc hf)
    have TL := hidden (term_l (m := m2) (T := L2) F0.out)
    rw [hf]
    clear hf
    have x1 := X.out.c1
    go_wp2_with fail
    with_reducible refine (l3Fault_all _ _ _ _ _ _ _ _ _ N A L2 _ D.out Q.out I2.out (fault_sound F0.out) hm2).mono ?_
    rintro e w2 ⟨rfl, hb⟩
    rw [← TL.out]
    replace X := hidden (X.out.keep hb)
    replace R := hidden (R.out.keep hb)
    replace B := hidden (keepB B.out hb)
    replace I1 := hidden (I1.out.keep hb)
    replace I2 := hidden (I2.out.keep hb)
    clear hb x1 D Q
    by_cases hf2 : termF n N A m2 L2 = 0
    · have SD := hidden (show sdF n N A m1 L1 m2 L2 = 0 by rw [sdF_right HF.out]; exact hf2)
      have T1 := hidden (term_right HF.out)
      have T2 := hidden (term_right hf2)
      rw [hf2]
      clear hf2
      go_wp2_with fail
      with_reducible refine (l4Plain_any _ n _ _ _ _ _ _ _ _ A L1 L2 _ X.out I1.out I2.out T1.out T2.out).mono ?_
      have RB := hidden (Nat.lt_of_lt_of_le R.out.blk (Nat.le_refl _))
      have BS := hidden B.out.size
      rintro e w3 ⟨ha, hb⟩
      replace R := hidden (R.out.keep hb)
      replace B := hidden (keepB B.out hb)
      rcases ha with ⟨h6, rfl⟩ | ⟨h6, g1, d1, g2, d2, rfl, hg1, hg2, ho1, ho2⟩
      · have HA := hidden (plC_many SD.out h6)
        clear h6 hb
        replace R := hidden (R.out.keep (alloc_below w3 (.cells #[.slice none 0 0, .slice none 0 0] 43)))
        replace B := hidden (keepB B.out (alloc_below w3 (.cells #[.slice none 0 0, .slice none 0 0] 43)))
        obtain ⟨_, q0, q1, q2, f0, f1, f2⟩ := id R.out
        go_wp2
        exact bodyPost_ret (v := .agg #[.int .i64 2, .slice none 0 0, .slice none 0 0]) (by simp [results, Try.results23, go_sem, q0, q1, q2]) rfl ⟨.inl ⟨by rw [HA.out]; decide, by rw [HA.out]⟩, ((B.out.setCell (by simp; omega) _).setCell (by simp; omega) _).setCell (by simp; omega) _⟩
      · have HA := hidden (plC_ok SD.out h6)
        have O1 := hidden (ho1.keep (alloc_below w3 (.cells #[.slice (some ⟨g1, 0, none⟩) m1 d1, .slice (some ⟨g2, 0, none⟩) m2 d2] 43)))
        have O2 := hidden (ho2.keep (alloc_below w3 (.cells #[.slice (some ⟨g1, 0, none⟩) m1 d1, .slice (some ⟨g2, 0, none⟩) m2 d2] 43)))
        have Y := hidden (Two.new w3 (.slice (some ⟨g1, 0, none⟩) m1 d1) (.slice (some ⟨g2, 0, none⟩) m2 d2) 43)
        replace R := hidden (R.out.keep (alloc_below w3 (.cells #[.slice (some ⟨g1, 0, none⟩) m1 d1, .slice (some ⟨g2, 0, none⟩) m2 d2] 43)))
        replace B := hidden (keepB B.out (alloc_below w3 (.cells #[.slice (some ⟨g1, 0, none⟩) m1 d1, .slice (some ⟨g2, 0, none⟩) m2 d2] 43)))
        have HG := hidden (And.intro hg1 hg2)
        clear h6 hb ho1 ho2 hg1 hg2
        obtain ⟨_, q0, q1, q2, f0, f1, f2⟩ := id R.out
        have y0 := Y.out.c0
        have y1 := Y.out.c1
        go_wp2
        have r1 := RB.out
        have r2 := BS.out
        have r3 := HG.out
        refine bodyPost_ret (v := .agg #[.int .i64 0, .slice (some ⟨g1, 0, none⟩) m1 d1, .slice (some ⟨g2, 0, none⟩) m2 d2]) (by simp [results, Try.results23, go_sem, q0, q1, q2]) rfl ⟨.inr ⟨HA.out, g1, d1, g2, d2, rfl, by omega, r3.2, ?_, ?_⟩, ((B.out.setCell (by simp; omega) _).setCell (by simp; omega) _).setCell (by simp; omega) _⟩
        · exact (((O1.out.other _ _ (by show g1 ≠ w.heap.size + 1 + 1; omega)).other _ _ (by show g1 ≠ w.heap.size + 1 + 1; omega)).other _ _ (by show g1 ≠ w.heap.size + 1 + 1; omega)).base (by omega)
        · exact (((O2.out.other _ _ (by show g2 ≠ w.heap.size + 1 + 1; omega)).other _ _ (by show g2 ≠ w.heap.size + 1 + 1; omega)).other _ _ (by show g2 ≠ w.heap.size + 1 + 1; omega)).base (by omega)
    · have SD := hidden (sdF_right (m2 := m2) (L2 := L2) HF.out)
      have HA := hidden (plC_fault (by rw [SD.out]; exact hf2))
      have HC := hidden hf2
      have hf' : (termF n N A m2 L2 != 0) = true := by simpa using hf2
      obtain ⟨z, hz⟩ : ∃ z, termF n N A m2 L2 = z := ⟨_, rfl⟩
      rw [hz] at hf' ⊢
      have HZ := hidden hz
      clear hf2 hz
      obtain ⟨_, q0, q1, q2, f0, f1, f2⟩ := id R.out
      go_wp2
      exact bodyPost_ret (v := .agg #[.int .i64 z, .slice none 0 0, .slice none 0 0]) (by simp [results, Try.results23, go_sem, q0, q1, q2]) rfl ⟨.inl ⟨by rw [HA.out, SD.out]; exact HC.out, by rw [HA.out, SD.out, HZ.out]⟩, ((B.out.setCell (by simp; omega) _).setCell (by simp; omega) _).setCell (by simp; omega) _⟩
  · have SD := hidden (sdF_left (m2 := m2) (L2 := L2) hf)
    have HA := hidden (plC_fault (by rw [SD.out]; exact hf))
    have HC := hidden hf
    have hf' : (termF n N A m1 L1 != 0) = true := by simpa using hf
    obtain ⟨z, hz⟩ : ∃ z, termF n N A m1 L1 = z := ⟨_, rfl⟩
    rw [hz] at hf' ⊢
    have HZ := hidden hz
    clear hf hz
    obtain ⟨_, q0, q1, q2, f0, f1, f2⟩ := id R.out
    go_wp2
    exact bodyPost_ret (v := .agg #[.int .i64 z, .slice none 0 0, .slice none 0 0]) (by simp [results, Try.results23, go_sem, q0, q1, q2]) rfl ⟨.inl ⟨by rw [HA.out, SD.out]; exact HC.out, by rw [HA.out, SD.out, HZ.out]⟩, ((B.out.setCell (by simp; omega) _).setCell (by simp; omega) _).setCell (by simp; omega) _⟩

end Go.Proofs.Ytkaoafdemckagaa
