/- Contracts: TermText, as the model and as the program answers it. -/
import Derived.Test.YtkaoafdemckagaaTxtI
namespace Go.Proofs.Ytkaoafdemckagaa
open Go.RowKit

/-- What TermText tells beside the fault. -/
noncomputable def tmS (n : Nat) (N : Nat → ByteArray) (A : Nat → Int) (m : Nat) (T : Nat → Int) : ByteArray := if termF n N A m T = 0 then bs (txt N A T m 0) else ⟨#[]⟩

theorem tmS_ok {n : Nat} {N : Nat → ByteArray} {A : Nat → Int} {m : Nat} {T : Nat → Int} (h : termF n N A m T = 0) : tmS n N A m T = bs (txt N A T m 0) := by rw [tmS, if_pos h]
theorem tmS_bad {n : Nat} {N : Nat → ByteArray} {A : Nat → Int} {m : Nat} {T : Nat → Int} (h : termF n N A m T ≠ 0) : tmS n N A m T = ⟨#[]⟩ := by rw [tmS, if_neg h]
theorem term_sig {n : Nat} {N : Nat → ByteArray} {A : Nat → Int} {m : Nat} {T : Nat → Int} (h : termF n N A m T = 0) : faultF n N A = 0 := by
  refine Classical.byContradiction fun hc => ?_
  rw [term_fault hc] at h; exact hc h

set_option maxRecDepth 20000 in
set_option maxHeartbeats 400000 in
theorem cloneS_any (s : ByteArray) (w : World) (hs : s.size ≤ 281474976710656) :
    Calls Try.prog 40 #[.string s] w fun e w' => e = .returned (.string s) ∧ Below w.heap.size w w' := by
  go_enter Try.func40, Try.ntmps40
  go_wp2_with fail
  with_reducible refine (Try.clone_str s _ hs).mono ?_
  rintro e w1 ⟨rfl, hb⟩
  have B := hidden hb
  clear hb
  go_wp2
  go_ret
  exact ⟨rfl, B.out⟩

set_option maxHeartbeats 400000 in
theorem eqText_eq (x : Int) (s : ByteArray) (w : World) :
    Calls Try.prog 13 #[.agg #[.int .i64 x, .string s], .agg #[.int .i64 x, .string s]] w fun e w' => e = .returned (.bool true) ∧ Below w.heap.size w w' := by
  go_enter Try.func13, Try.ntmps13
  go_wp2
  go_ret
  exact ⟨rfl, ((Below.refl _ _).alloc (Nat.le_refl _) _).alloc (by simp) _⟩

theorem l4Text_0 (B b off n c b' off' m c' : Nat) (N : Nat → ByteArray) (A T : Nat → Int) (hg : Trm n A m T) (hf : faultF n N A = 0) (w : World) (h0 : One w B (.slice (some ⟨b, off, none⟩) n c)) (h : Syms w b off n N A) (h' : Ints w b' off' m T) :
    Calls Try.prog 37 #[.pointer (some ⟨B, 0, none⟩), .slice (some ⟨b', off', none⟩) m c', .int .i64 0] w fun e w' => e = .returned (.string (bs (txt N A T m 0))) ∧ Below w.heap.size w w' :=
  l4Text_any B b off n c b' off' m c' N A T hg hf m 0 (by omega) hg.pos w h0 h h'

theorem textThere_0 (b off n c b' off' m c' : Nat) (N : Nat → ByteArray) (A T : Nat → Int) (hg : Trm n A m T) (hf : faultF n N A = 0) (hc' : m ≤ c') (w : World) (h : Syms w b off n N A) (h' : Ints w b' off' m T) :
    Calls Try.prog 41 #[.agg #[.slice (some ⟨b, off, none⟩) n c], .slice (some ⟨b', off', none⟩) m c', .int .i64 0] w fun e w' => e = .returned (.string (bs (txt N A T m 0))) ∧ Below w.heap.size w w' :=
  textThere_any b off n c b' off' m c' N A T hg hf hc' m 0 (by omega) hg.pos w h h'

set_option maxRecDepth 20000 in
set_option maxHeartbeats 1600000 in
theorem specTxt_any (b off n c b' off' m c' : Nat) (N : Nat → ByteArray) (A T : Nat → Int) (w : World) (h : Syms w b off n N A) (h' : Ints w b' off' m T) (hk : Kept n N A) (hm : m ≤ 1048576) :
    Calls Try.prog 9 #[.agg #[.slice (some ⟨b, off, none⟩) n c], .slice (some ⟨b', off', none⟩) m c'] w fun e w' => e = .returned (.agg #[.int .i64 (termF n N A m T), .string (tmS n N A m T)]) ∧ Below w.heap.size w w' := by
  have D := hidden ((One.new w (.slice (some ⟨b, off, none⟩) n c) 32).keep (alloc_below _ (.cells #[.int .i64 0, .string ⟨#[]⟩] 28)))
  have R := hidden (Res.new (w.alloc (.cells #[.slice (some ⟨b, off, none⟩) n c] 32)) (.int .i64 0) (.string ⟨#[]⟩) 28)
  have B := hidden (keepB (alloc_below w (.cells #[.slice (some ⟨b, off, none⟩) n c] 32)) (alloc_below _ (.cells #[.int .i64 0, .string ⟨#[]⟩] 28)))
  have Q := hidden (h.keep B.out)
  have I := hidden (h'.keep B.out)
  have HK := hidden hk
  rw [World.size_alloc] at R
  clear h h' hk
  go_enter Try.func9, Try.ntmps9
  go_wp2_with fail
  with_reducible refine (specTerm_any _ _ _ _ _ _ _ _ N A T _ Q.out I.out HK.out hm).mono ?_
  rintro e w1 ⟨rfl, hb⟩
  replace D := hidden (D.out.keep hb)
  replace R := hidden (R.out.keep hb)
  replace B := hidden (keepB B.out hb)
  replace I := hidden (I.out.keep hb)
  replace Q := hidden (Q.out.keep hb)
  clear hb
  by_cases hf : termF n N A m T = 0
  · have HA := hidden (tmS_ok hf)
    have HF := hidden hf
    have F0 := hidden (term_sig hf)
    have hlen : (bs (txt N A T m 0)).size ≤ 2300000000000 := by rw [bs_size]; exact txt_short F0.out (term_right hf) _
    rw [hf]
    clear hf
    go_wp2_with fail
    with_reducible refine (l4Text_0 _ _ _ _ _ _ _ _ _ N A T (term_right HF.out) F0.out _ D.out Q.out I.out).mono ?_
    rintro e w2 ⟨rfl, hb⟩
    replace R := hidden (R.out.keep hb)
    replace B := hidden (keepB B.out hb)
    clear hb D I Q
    generalize bs (txt N A T m 0) = u at *
    obtain ⟨_, q0, q1, f0, f1⟩ := id R.out
    go_wp2
    exact bodyPost_ret (v := .agg #[.int .i64 0, .string u]) (by simp [results, Try.results9, go_sem, q0, q1]) rfl ⟨by rw [HA.out, HF.out], (B.out.setCell (by simp) _).setCell (by simp) _⟩
  · have HA := hidden (tmS_bad hf)
    have hf' : (termF n N A m T != 0) = true := by simpa using hf
    obtain ⟨z, hz⟩ : ∃ z, termF n N A m T = z := ⟨_, rfl⟩
    rw [hz] at hf' ⊢
    have HZ := hidden hz
    clear hf hz
    obtain ⟨_, q0, q1, f0, f1⟩ := id R.out
    go_wp2
    exact bodyPost_ret (v := .agg #[.int .i64 z, .string ⟨#[]⟩]) (by simp [results, Try.results9, go_sem, q0, q1]) rfl ⟨by rw [HA.out, HZ.out], (B.out.setCell (by simp) _).setCell (by simp) _⟩

set_option maxRecDepth 20000 in
set_option maxHeartbeats 1600000 in
theorem implTxt_any (b off n c b' off' m c' : Nat) (N : Nat → ByteArray) (A T : Nat → Int) (w : World) (h : Syms w b off n N A) (h' : Ints w b' off' m T) (hk : Kept n N A) (hm : m ≤ 1048576) (hc : m ≤ c') :
    Calls Try.prog 12 #[.agg #[.slice (some ⟨b, off, none⟩) n c], .slice (some ⟨b', off', none⟩) m c'] w fun e w' => e = .returned (.agg #[.int .i64 (termF n N A m T), .string (tmS n N A m T)]) ∧ Below w.heap.size w w' := by
  have D := hidden ((One.new w (.slice (some ⟨b, off, none⟩) n c) 32).keep (alloc_below _ (.cells #[.int .i64 0, .string ⟨#[]⟩] 28)))
  have R := hidden (Res.new (w.alloc (.cells #[.slice (some ⟨b, off, none⟩) n c] 32)) (.int .i64 0) (.string ⟨#[]⟩) 28)
  have B := hidden (keepB (alloc_below w (.cells #[.slice (some ⟨b, off, none⟩) n c] 32)) (alloc_below _ (.cells #[.int .i64 0, .string ⟨#[]⟩] 28)))
  have Q := hidden (h.keep B.out)
  have I := hidden (h'.keep B.out)
  have HK := hidden hk
  rw [World.size_alloc] at R
  clear h h' hk
  go_enter Try.func12, Try.ntmps12
  go_wp2_with fail
  with_reducible refine (implTerm_any _ _ _ _ _ _ _ _ N A T _ Q.out I.out HK.out hm).mono ?_
  rintro e w1 ⟨rfl, hb⟩
  replace D := hidden (D.out.keep hb)
  replace R := hidden (R.out.keep hb)
  replace B := hidden (keepB B.out hb)
  replace I := hidden (I.out.keep hb)
  replace Q := hidden (Q.out.keep hb)
  clear hb
  by_cases hf : termF n N A m T = 0
  · have HA := hidden (tmS_ok hf)
    have HF := hidden hf
    have F0 := hidden (term_sig hf)
    have hlen : (bs (txt N A T m 0)).size ≤ 2300000000000 := by rw [bs_size]; exact txt_short F0.out (term_right hf) _
    rw [hf]
    clear hf
    have d0 := D.out.c0
    go_wp2_with fail
    with_reducible refine (textThere_0 _ _ _ _ _ _ _ _ N A T (term_right HF.out) F0.out hc _ Q.out I.out).mono ?_
    rintro e w2 ⟨rfl, hb⟩
    replace R := hidden (R.out.keep hb)
    replace B := hidden (keepB B.out hb)
    clear hb D I Q d0
    go_wp2_with fail
    with_reducible refine (cloneS_any _ _ (by omega)).mono ?_
    rintro e w3 ⟨rfl, hb⟩
    replace R := hidden (R.out.keep hb)
    replace B := hidden (keepB B.out hb)
    clear hb
    generalize bs (txt N A T m 0) = u at *
    obtain ⟨_, q0, q1, f0, f1⟩ := id R.out
    go_wp2
    exact bodyPost_ret (v := .agg #[.int .i64 0, .string u]) (by simp [results, Try.results12, go_sem, q0, q1]) rfl ⟨by rw [HA.out, HF.out], (B.out.setCell (by simp) _).setCell (by simp) _⟩
  · have HA := hidden (tmS_bad hf)
    have hf' : (termF n N A m T != 0) = true := by simpa using hf
    obtain ⟨z, hz⟩ : ∃ z, termF n N A m T = z := ⟨_, rfl⟩
    rw [hz] at hf' ⊢
    have HZ := hidden hz
    clear hf hz
    obtain ⟨_, q0, q1, f0, f1⟩ := id R.out
    go_wp2
    exact bodyPost_ret (v := .agg #[.int .i64 z, .string ⟨#[]⟩]) (by simp [results, Try.results12, go_sem, q0, q1]) rfl ⟨by rw [HA.out, HZ.out], (B.out.setCell (by simp) _).setCell (by simp) _⟩

end Go.Proofs.Ytkaoafdemckagaa
