/- Contracts: the key of two terms: KeyOf of the model and of the program. -/
import Derived.Test.YtafhlkbjjjlkjaaKey
namespace Go.Proofs.Ytafhlkbjjjlkjaa
open Go.RowKit

theorem keyV_map (T1 T2 : Nat → Int) (m1 m2 : Nat) : packV T1 m1 ++ packV T2 m2 = (packT T1 m1 ++ packT T2 m2).map (Value.int .u8) := by simp [packV]
theorem keyV_len (T1 T2 : Nat → Int) (m1 m2 : Nat) : (packT T1 m1 ++ packT T2 m2).length = m1 + m2 := by simp [packT_len]

set_option maxRecDepth 20000 in
set_option maxHeartbeats 1600000 in
theorem specKey_any (b off n c b1 o1 m1 c1 b2 o2 m2 c2 : Nat) (N : Nat → ByteArray) (A T1 T2 : Nat → Int) (w : World) (h : Syms w b off n N A) (h1 : Ints w b1 o1 m1 T1) (h2 : Ints w b2 o2 m2 T2) (hk : Kept n N A) (hm1 : m1 ≤ 1048576) (hm2 : m2 ≤ 1048576) :
    Calls Try.prog 25 #[.agg #[.slice (some ⟨b, off, none⟩) n c], .slice (some ⟨b1, o1, none⟩) m1 c1, .slice (some ⟨b2, o2, none⟩) m2 c2] w fun e w' => BytAns w (keyC n N A m1 T1 m2 T2) (packT T1 m1 ++ packT T2 m2) e w' ∧ Below w.heap.size w w' := by
  have D := hidden ((One.new w (.slice (some ⟨b, off, none⟩) n c) 26).keep (alloc_below _ (.cells #[.int .i64 0, .slice none 0 0] 31)))
  have R := hidden (Res.new (w.alloc (.cells #[.slice (some ⟨b, off, none⟩) n c] 26)) (.int .i64 0) (.slice none 0 0) 31)
  have B := hidden (keepB (alloc_below w (.cells #[.slice (some ⟨b, off, none⟩) n c] 26)) (alloc_below _ (.cells #[.int .i64 0, .slice none 0 0] 31)))
  have Q := hidden (h.keep B.out)
  have I1 := hidden (h1.keep B.out)
  have I2 := hidden (h2.keep B.out)
  have HK := hidden hk
  rw [World.size_alloc] at R
  clear h h1 h2 hk
  go_enter Try.func25, Try.ntmps25
  go_wp2_with fail
  with_reducible refine (specTerm_any _ _ _ _ _ _ _ _ N A T1 _ Q.out I1.out HK.out hm1).mono ?_
  rintro e w1 ⟨rfl, hb⟩
  replace D := hidden (D.out.keep hb)
  replace R := hidden (R.out.keep hb)
  replace B := hidden (keepB B.out hb)
  replace Q := hidden (Q.out.keep hb)
  replace I1 := hidden (I1.out.keep hb)
  replace I2 := hidden (I2.out.keep hb)
  clear hb
  by_cases hf : termF n N A m1 T1 = 0
  · have HF := hidden hf
    have HS := hidden (fault_sound (term_sig hf))
    have HL := hidden (term_l (m := m2) (T := T2) (term_sig hf))
    rw [hf]
    clear hf
    go_wp2_with fail
    with_reducible refine (l3Fault_all _ _ _ _ _ _ _ _ _ N A T2 _ D.out Q.out I2.out HS.out hm2).mono ?_
    rintro e w2 ⟨rfl, hb⟩
    replace D := hidden (D.out.keep hb)
    replace R := hidden (R.out.keep hb)
    replace B := hidden (keepB B.out hb)
    replace Q := hidden (Q.out.keep hb)
    replace I1 := hidden (I1.out.keep hb)
    replace I2 := hidden (I2.out.keep hb)
    clear hb
    rw [← HL.out]
    by_cases hf : termF n N A m2 T2 = 0
    · have HF2 := hidden hf
      have HC := hidden (key_short HF.out hf)
      rw [hf]
      clear hf
      go_wp2_with fail
      with_reducible refine (l5Short_any _ _ _ _ _ _ _ _ T1 T2 _ I1.out I2.out hm1 hm2).mono ?_
      rintro e w3 ⟨rfl, hb⟩
      replace D := hidden (D.out.keep hb)
      replace R := hidden (R.out.keep hb)
      replace B := hidden (keepB B.out hb)
      replace Q := hidden (Q.out.keep hb)
      replace I1 := hidden (I1.out.keep hb)
      replace I2 := hidden (I2.out.keep hb)
      clear hb
      by_cases hf : shortC m1 T1 m2 T2 = 0
      · have HZ := hidden hf
        have HN1 := hidden (term_right HF.out).nods
        have HN2 := hidden (term_right HF2.out).nods
        have ha := HN1.out.most
        have hb := HN2.out.most
        rw [hf]
        clear hf
        go_wp2_with fail
        with_reducible refine (l5Key_any _ _ _ _ _ _ _ _ T1 T2 _ I1.out I2.out ha hb HN1.out.rng HN2.out.rng).mono ?_
        clear hb
        rintro r w4 ⟨g, d, rfl, hgg, ho, hb⟩
        rw [keyV_map] at ho
        have O := hidden ho
        have hR := R.out.blk
        have hBs := B.out.size
        replace R := hidden (R.out.keep hb)
        replace B := hidden (keepB B.out hb)
        clear hb D I1 I2 Q ho
        obtain ⟨_, q0, q1, f0, f1⟩ := id R.out
        go_wp2
        exact bodyPost_ret (v := .agg #[.int .i64 0, .slice (some ⟨g, 0, none⟩) (m1 + m2) d]) (by simp [results, Try.results25, go_sem, q0, q1]) rfl ⟨Or.inr ⟨by rw [HC.out, HZ.out], g, d, by rw [keyV_len], by omega, by
          rw [keyV_len]; exact ((O.out.other _ _ (by simp; omega)).other _ _ (by simp; omega)).base (by omega)⟩, (B.out.setCell (by simp) _).setCell (by simp) _⟩
      · have HN := hidden hf
        have hf' : (shortC m1 T1 m2 T2 != 0) = true := by simpa using hf
        generalize shortC m1 T1 m2 T2 = z at hf' HN HC ⊢
        clear hf
        obtain ⟨_, q0, q1, f0, f1⟩ := id R.out
        go_wp2
        exact bodyPost_ret (v := .agg #[.int .i64 z, .slice none 0 0]) (by simp [results, Try.results25, go_sem, q0, q1]) rfl ⟨Or.inl ⟨by rw [HC.out]; exact HN.out, by rw [HC.out]⟩, (B.out.setCell (by simp) _).setCell (by simp) _⟩
    · have HN := hidden hf
      have HC := hidden (key_two HF.out hf)
      have hf' : (termF n N A m2 T2 != 0) = true := by simpa using hf
      generalize termF n N A m2 T2 = z at hf' HN HC ⊢
      clear hf
      obtain ⟨_, q0, q1, f0, f1⟩ := id R.out
      go_wp2
      exact bodyPost_ret (v := .agg #[.int .i64 z, .slice none 0 0]) (by simp [results, Try.results25, go_sem, q0, q1]) rfl ⟨Or.inl ⟨by rw [HC.out]; exact HN.out, by rw [HC.out]⟩, (B.out.setCell (by simp) _).setCell (by simp) _⟩
  · have HN := hidden hf
    have HC := hidden (key_one (m2 := m2) (T2 := T2) hf)
    have hf' : (termF n N A m1 T1 != 0) = true := by simpa using hf
    generalize termF n N A m1 T1 = z at hf' HN HC ⊢
    clear hf
    obtain ⟨_, q0, q1, f0, f1⟩ := id R.out
    go_wp2
    exact bodyPost_ret (v := .agg #[.int .i64 z, .slice none 0 0]) (by simp [results, Try.results25, go_sem, q0, q1]) rfl ⟨Or.inl ⟨by rw [HC.out]; exact HN.out, by rw [HC.out]⟩, (B.out.setCell (by simp) _).setCell (by simp) _⟩

theorem pieces_two (w : World) (B1 B2 g1 d1 g2 d2 : Nat) (l1 l2 : List Int) (t : TypeId) (h1 : OwnR w B1 g1 l1.length d1 (l1.map (Value.int .u8))) (h2 : OwnR w B2 g2 l2.length d2 (l2.map (Value.int .u8))) (p1 : 0 < l1.length) (p2 : 0 < l2.length) :
    Pieces (w.alloc (.cells #[.slice (some ⟨g1, 0, none⟩) l1.length d1, .slice (some ⟨g2, 0, none⟩) l2.length d2] t)) w.heap.size 0 2 (fun i => if i = 0 then g1 else g2) (fun i => if i = 0 then d1 else d2) (fun i => if i = 0 then l1 else l2) := by
  have a := alloc_below w (.cells #[.slice (some ⟨g1, 0, none⟩) l1.length d1, .slice (some ⟨g2, 0, none⟩) l2.length d2] t)
  have row : ∀ {B g d : Nat} {l : List Int}, OwnR w B g l.length d (l.map (Value.int .u8)) → ∀ j, j < l.length → w.cell? ⟨g, j, none⟩ = some (.int .u8 (l.getD j 0)) := by
    intro B g d l h j hj
    rw [World.ownsRow.cellAt h j (by omega), List.getElem?_map, List.getElem?_eq_getElem hj]
    simp [List.getD_eq_getElem?_getD, List.getElem?_eq_getElem hj]
  refine ⟨fun _ => by simp, fun i hi => ?_, fun i hi => ?_, fun i hi j hj => ?_, fun i hi => ?_⟩
  · match i, hi with
    | 0, _ => simp [go_sem]
    | 1, _ => simp [go_sem]
  · match i, hi with
    | 0, _ => exact Nat.lt_of_lt_of_le h1.lt a.size
    | 1, _ => exact Nat.lt_of_lt_of_le h2.lt a.size
  · match i, hi with
    | 0, _ => exact ((bcell a).1 _ _ h1.lt).trans (row h1 j hj)
    | 1, _ => exact ((bcell a).1 _ _ h2.lt).trans (row h2 j hj)
  · match i, hi with
    | 0, _ => exact p1
    | 1, _ => exact p2

set_option maxRecDepth 20000 in
set_option maxHeartbeats 1600000 in
theorem implKey_any (b off n c b1 o1 m1 c1 b2 o2 m2 c2 : Nat) (N : Nat → ByteArray) (A T1 T2 : Nat → Int) (w : World) (h : Syms w b off n N A) (h1 : Ints w b1 o1 m1 T1) (h2 : Ints w b2 o2 m2 T2) (hk : Kept n N A) (hm1 : m1 ≤ 1048576) (hm2 : m2 ≤ 1048576) :
    Calls Try.prog 24 #[.agg #[.slice (some ⟨b, off, none⟩) n c], .slice (some ⟨b1, o1, none⟩) m1 c1, .slice (some ⟨b2, o2, none⟩) m2 c2] w fun e w' => BytAns w (keyC n N A m1 T1 m2 T2) (packT T1 m1 ++ packT T2 m2) e w' ∧ Below w.heap.size w w' := by
  have D := hidden ((One.new w (.slice (some ⟨b, off, none⟩) n c) 26).keep (alloc_below _ (.cells #[.int .i64 0, .slice none 0 0] 31)))
  have R := hidden (Res.new (w.alloc (.cells #[.slice (some ⟨b, off, none⟩) n c] 26)) (.int .i64 0) (.slice none 0 0) 31)
  have B := hidden (keepB (alloc_below w (.cells #[.slice (some ⟨b, off, none⟩) n c] 26)) (alloc_below _ (.cells #[.int .i64 0, .slice none 0 0] 31)))
  have Q := hidden (h.keep B.out)
  have I1 := hidden (h1.keep B.out)
  have I2 := hidden (h2.keep B.out)
  have HK := hidden hk
  rw [World.size_alloc] at R
  clear h h1 h2 hk
  go_enter Try.func24, Try.ntmps24
  go_wp2_with fail
  with_reducible refine (keyFault_any _ _ _ _ _ _ _ _ _ _ _ _ N A T1 T2 _ Q.out I1.out I2.out HK.out hm1 hm2).mono ?_
  rintro e w1 ⟨rfl, hb⟩
  replace D := hidden (D.out.keep hb)
  replace R := hidden (R.out.keep hb)
  replace B := hidden (keepB B.out hb)
  replace Q := hidden (Q.out.keep hb)
  replace I1 := hidden (I1.out.keep hb)
  replace I2 := hidden (I2.out.keep hb)
  clear hb
  by_cases hf : keyC n N A m1 T1 m2 T2 = 0
  · have HZ := hidden hf
    obtain ⟨k1, k2, k3⟩ := key_right hf
    have HN1 := hidden (term_right k1).nods
    have HN2 := hidden (term_right k2).nods
    have ha := HN1.out.most
    have hc := HN2.out.most
    have P1 := hidden (term_right k1).pos
    have P2 := hidden (term_right k2).pos
    rw [hf]
    clear hf k1 k2 k3
    go_wp2_with fail
    with_reducible refine (packNodes_any _ _ _ _ T1 _ I1.out ha HN1.out.rng).mono ?_
    rintro r w4 ⟨g1, d1, rfl, hg1, ho, hb⟩
    have O1 := hidden ho
    have hR := R.out.blk
    have hBs := B.out.size
    replace R := hidden (R.out.keep hb)
    replace B := hidden (keepB B.out hb)
    replace I2 := hidden (I2.out.keep hb)
    clear hb D I1 Q ho
    go_wp2_with fail
    with_reducible refine (packNodes_any _ _ _ _ T2 _ I2.out hc HN2.out.rng).mono ?_
    rintro r w5 ⟨g2, d2, rfl, hg2, ho, hb⟩
    replace O1 := hidden (O1.out.keep hb)
    have O2 := hidden ho
    replace R := hidden (R.out.keep hb)
    replace B := hidden (keepB B.out hb)
    have hB5 := B.out.size
    clear hb I2 ho
    have PP := hidden (pieces_two w5 _ _ g1 d1 g2 d2 (packT T1 m1) (packT T2 m2) 22 (by rw [packT_len]; exact O1.out) (by rw [packT_len]; exact O2.out) (by rw [packT_len]; exact P1.out) (by rw [packT_len]; exact P2.out))
    simp only [packT_len] at PP
    have hb := alloc_below w5 (.cells #[.slice (some ⟨g1, 0, none⟩) m1 d1, .slice (some ⟨g2, 0, none⟩) m2 d2] 22)
    replace R := hidden (R.out.keep hb)
    replace B := hidden (keepB B.out hb)
    have hB6 := B.out.size
    clear hb O1 O2
    have HJ := hidden (show joinTo (fun i => if i = 0 then packT T1 m1 else packT T2 m2) 2 = packT T1 m1 ++ packT T2 m2 by simp [joinTo])
    go_wp2_with fail
    with_reducible refine (joinBytes_any _ _ 2 _ _ _ (fun i => if i = 0 then packT T1 m1 else packT T2 m2) _ PP.out (by omega) (by rw [HJ.out, keyV_len]; omega)).mono ?_
    rintro r w6 ⟨g, rfl, hgg, ho, hb⟩
    rw [HJ.out] at ho ⊢
    have O := hidden ho
    have hR := R.out.blk
    replace R := hidden (R.out.keep hb)
    replace B := hidden (keepB B.out hb)
    clear hb ho PP
    obtain ⟨_, q0, q1, f0, f1⟩ := id R.out
    generalize hL : packT T1 m1 ++ packT T2 m2 = L at O ⊢
    have HL := hidden hL
    clear hL HJ
    go_wp2
    exact bodyPost_ret (v := .agg #[.int .i64 0, .slice (some ⟨g, 0, none⟩) L.length L.length]) (by simp [results, Try.results24, go_sem, q0, q1]) rfl ⟨Or.inr ⟨HZ.out, g, L.length, by rw [HL.out], by omega, by
      rw [HL.out]; exact ((O.out.other _ _ (by simp; omega)).other _ _ (by simp; omega)).base (by omega)⟩, (B.out.setCell (by simp) _).setCell (by simp) _⟩
  · have HN := hidden hf
    have HC := hidden (rfl : keyC n N A m1 T1 m2 T2 = keyC n N A m1 T1 m2 T2)
    have hf' : (keyC n N A m1 T1 m2 T2 != 0) = true := by simpa using hf
    generalize hz : keyC n N A m1 T1 m2 T2 = z at hf' HN ⊢
    replace HC := hidden hz
    clear hf hz
    obtain ⟨_, q0, q1, f0, f1⟩ := id R.out
    go_wp2
    exact bodyPost_ret (v := .agg #[.int .i64 z, .slice none 0 0]) (by simp [results, Try.results24, go_sem, q0, q1]) rfl ⟨Or.inl ⟨by rw [HC.out]; exact HN.out, by rw [HC.out]⟩, (B.out.setCell (by simp) _).setCell (by simp) _⟩

end Go.Proofs.Ytafhlkbjjjlkjaa
