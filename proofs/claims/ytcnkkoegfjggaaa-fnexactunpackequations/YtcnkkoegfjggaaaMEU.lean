/- Several texts as one: EqU, EqV. -/
import Derived.Test.YtcnkkoegfjggaaaMER
/- Contract: the model's UnpackEquations. -/
namespace Go.Proofs.Ytcnkkoegfjggaaa
open Go.RowKit

theorem setCell_grownE (w : World) (s o : Nat) (v : Value) : w.grownBy (w.setCell ⟨s, o, none⟩ v) (some s) :=
  ⟨rfl, rfl, rfl, by simp [World.setCell], fun k _ hk => Below.heap_setCell _ _ _ _ (fun e => hk (by simp [e]))⟩

theorem OwnFX.setLow {w : World} {lo g n c : Nat} {F : LsL} (h : OwnFX w lo w.heap.size g n c F) (s o : Nat) (u : Value) (hs : s < lo) : OwnFX (w.setCell ⟨s, o, none⟩ u) lo (w.setCell ⟨s, o, none⟩ u).heap.size g n c F := by
  have := h.grown (setCell_grownE w s o u) (Or.inl hs)
  rwa [show (w.setCell ⟨s, o, none⟩ u).heap.size = w.heap.size by simp]

/-- An answer with a list of equations. -/
def EqsAns (w : World) (C : Int) (r : Nat) (D : EqL) (e : Ending) (w' : World) : Prop :=
  (¬ (C = 0 ∧ 0 < r) ∧ ∃ q d, e = .returned (.agg #[.int .i64 C, .slice q 0 d])) ∨
  (C = 0 ∧ 0 < r ∧ ∃ lo g d, e = .returned (.agg #[.int .i64 0, .slice (some ⟨g, 0, none⟩) r d]) ∧ w.heap.size ≤ lo ∧ OwnFX w' lo w'.heap.size g r d (fl2 D))

open Classical in
/-- UnpackEquations' code. -/
noncomputable def uqC (n : Nat) (N : Nat → ByteArray) (A : Nat → Int) (m : Nat) (l : Nat → Int) : Int :=
  if faultF n N A = 0 then (if OkE n N A m l m then 0 else 5) else faultF n N A

section
variable {n : Nat} {N : Nat → ByteArray} {A : Nat → Int} {m : Nat} {l : Nat → Int}
theorem uq_fault (h : faultF n N A ≠ 0) : uqC n N A m l = faultF n N A := by rw [uqC, if_neg h]
theorem uq_text (h : faultF n N A = 0) (hk : ¬ OkE n N A m l m) : uqC n N A m l = 5 := by rw [uqC, if_pos h, if_neg hk]
theorem uq_ok (h : faultF n N A = 0) (hk : OkE n N A m l m) : uqC n N A m l = 0 := by rw [uqC, if_pos h, if_pos hk]
theorem uq_right (h : uqC n N A m l = 0) : OkE n N A m l m := by
  by_cases hf : faultF n N A = 0
  · by_cases hk : OkE n N A m l m
    · exact hk
    · rw [uq_text hf hk] at h; omega
  · rw [uq_fault hf] at h; exact absurd h hf
end

set_option maxRecDepth 20000 in
set_option maxHeartbeats 3200000 in
theorem specUnpackEqs_any (b off n c : Nat) (b' off' m c' : Nat) (N : Nat → ByteArray) (A l : Nat → Int) (w : World) (h : Syms w b off n N A) (h' : Byts w (some ⟨b', off', none⟩) m l) (hb' : b' < w.heap.size) (hk : Kept n N A) (hm : m ≤ 1048576) (hmc : m ≤ c') :
    Calls Try.prog 29 #[.agg #[.slice (some ⟨b, off, none⟩) n c], .slice (some ⟨b', off', none⟩) m c'] w fun e w' => EqsAns w (uqC n N A m l) (l 0).toNat (rdD n A m l) e w' ∧ Below w.heap.size w w' := by
  have D := hidden ((One.new w (.slice (some ⟨b, off, none⟩) n c) 32).keep (alloc_below _ (.cells #[.int .i64 0, .slice none 0 0] 55)))
  have R := hidden (Res.new (w.alloc (.cells #[.slice (some ⟨b, off, none⟩) n c] 32)) (.int .i64 0) (.slice none 0 0) 55)
  have B := hidden (keepB (alloc_below w (.cells #[.slice (some ⟨b, off, none⟩) n c] 32)) (alloc_below _ (.cells #[.int .i64 0, .slice none 0 0] 55)))
  have Q := hidden (h.keep B.out)
  have I := hidden (h'.keep B.out)
  have LB := hidden (Nat.lt_of_lt_of_le hb' B.out.size)
  have HK := hidden hk
  rw [World.size_alloc] at R
  clear h h' hk hb'
  go_enter Try.func29, Try.ntmps29
  go_wp2_with fail
  with_reducible refine (specFault_all _ _ _ _ N A _ Q.out HK.out).mono ?_
  rintro e w1 ⟨rfl, hb⟩
  replace D := hidden (D.out.keep hb)
  replace R := hidden (R.out.keep hb)
  replace B := hidden (keepB B.out hb)
  replace I := hidden (I.out.keep hb)
  replace Q := hidden (Q.out.keep hb)
  replace LB := hidden (Nat.lt_of_lt_of_le LB.out hb.size)
  clear hb
  by_cases hf : faultF n N A = 0
  · have HF := hidden hf
    rw [hf]
    clear hf
    go_wp2_with fail
    with_reducible refine (l5ReadAll_any _ _ _ _ _ _ _ m c' N A l _ D.out Q.out HF.out hm hmc I.out LB.out).mono ?_
    rintro r w3 ⟨ha, hb⟩
    have hR := R.out.blk
    have hBs := B.out.size
    replace R := hidden (R.out.keep hb)
    replace B := hidden (keepB B.out hb)
    have hw3 := hb.size
    clear hb D I Q LB
    rcases ha with ⟨h0, rfl⟩ | ⟨p, v, hok, rfl, hgr⟩
    · have HC := hidden (uq_text (m := m) (l := l) HF.out (h0 m))
      clear h0
      obtain ⟨_, q0, q1, f0, f1⟩ := id R.out
      go_wp2
      exact bodyPost_ret (v := .agg #[.int .i64 5, .slice none 0 0]) (by simp [results, Try.results29, go_sem, q0, q1]) rfl ⟨Or.inl ⟨by rw [HC.out]; simp, none, 0, by rw [HC.out]⟩, (B.out.setCell (by simp) _).setCell (by simp) _⟩
    · have hp := rdPos_le (by have := hok.1; omega) _ p hok.2.1
      have e1 : ((p : Int) == 0) = false := by simp; omega
      by_cases hpm : p = m
      · subst hpm
        have HC := hidden (uq_ok HF.out hok)
        have GR := hidden hgr
        have e2 : ((p : Int) != (p : Int)) = false := by simp
        clear hok hgr hp
        obtain ⟨_, q0, q1, f0, f1⟩ := id R.out
        by_cases hq : 0 < (l 0).toNat
        · obtain ⟨g, d, rfl, ho⟩ := GR.out.done hq
          have O := hidden ho
          clear GR ho
          go_wp2
          exact bodyPost_ret (v := .agg #[.int .i64 0, .slice (some ⟨g, 0, none⟩) (l 0).toNat d]) (by simp [results, Try.results29, go_sem, q0, q1]) rfl ⟨Or.inr ⟨HC.out, hq, w1.heap.size, g, d, rfl, by omega, ((O.out.setLow _ _ _ (by omega)).setLow _ _ _ (by omega))⟩, (B.out.setCell (by simp) _).setCell (by simp) _⟩
        · have hz : (l 0).toNat = 0 := by omega
          have HQ := hidden hq
          rw [hz] at GR
          clear hq
          rcases GR.out.slc with rfl | ⟨g, c2, rfl⟩
          · go_wp2
            exact bodyPost_ret (v := .agg #[.int .i64 0, .slice none 0 0]) (by simp [results, Try.results29, go_sem, q0, q1]) rfl ⟨Or.inl ⟨fun h => HQ.out h.2, none, 0, by rw [HC.out]⟩, (B.out.setCell (by simp) _).setCell (by simp) _⟩
          · go_wp2
            exact bodyPost_ret (v := .agg #[.int .i64 0, .slice (some ⟨g, 0, none⟩) 0 c2]) (by simp [results, Try.results29, go_sem, q0, q1]) rfl ⟨Or.inl ⟨fun h => HQ.out h.2, some ⟨g, 0, none⟩, c2, by rw [HC.out]⟩, (B.out.setCell (by simp) _).setCell (by simp) _⟩
      · have HC := hidden (uq_text (m := m) (l := l) HF.out (fun h => hpm (by have := hok.2.1.symm.trans h.2.1; simpa using this)))
        have e2 : ((p : Int) != (m : Int)) = true := by simp; omega
        clear hok hgr
        obtain ⟨_, q0, q1, f0, f1⟩ := id R.out
        go_wp2
        exact bodyPost_ret (v := .agg #[.int .i64 5, .slice none 0 0]) (by simp [results, Try.results29, go_sem, q0, q1]) rfl ⟨Or.inl ⟨by rw [HC.out]; simp, none, 0, by rw [HC.out]⟩, (B.out.setCell (by simp) _).setCell (by simp) _⟩
  · have HN := hidden hf
    have HC := hidden (uq_fault (m := m) (l := l) hf)
    have hf' : (faultF n N A != 0) = true := by simpa using hf
    generalize faultF n N A = z at hf' HN HC ⊢
    clear hf
    obtain ⟨_, q0, q1, f0, f1⟩ := id R.out
    go_wp2
    exact bodyPost_ret (v := .agg #[.int .i64 z, .slice none 0 0]) (by simp [results, Try.results29, go_sem, q0, q1]) rfl ⟨Or.inl ⟨by rw [HC.out]; exact fun h => HN.out h.1, none, 0, by rw [HC.out]⟩, (B.out.setCell (by simp) _).setCell (by simp) _⟩

end Go.Proofs.Ytcnkkoegfjggaaa

/- Contract: the program's UnpackEquations. -/
namespace Go.Proofs.Ytcnkkoegfjggaaa
open Go.RowKit

/-- What is read has lengths that the program copies. -/
theorem rdD_kept {n : Nat} {A : Nat → Int} {m : Nat} {l : Nat → Int} {j : Nat} (hj : j ≤ 1048576) : KeptE j (rdD n A m l) :=
  ⟨hj, fun i _ => by have := (rd_le (n := n) (A := A) (m := m - rdAt n A m l i) (l := behind l (rdAt n A m l i))).2; simp only [rdD, kA]; omega, fun i _ => by
    have := (rd_le (n := n) (A := A) (m := m - rdAt n A m l i - rdK n A (m - rdAt n A m l i) (behind l (rdAt n A m l i))) (l := behind (behind l (rdAt n A m l i)) (rdK n A (m - rdAt n A m l i) (behind l (rdAt n A m l i))))).2
    simp only [rdD, kB, rd2]; omega⟩

set_option maxRecDepth 20000 in
set_option maxHeartbeats 400000 in
theorem implEqs_nil (b off n c c' : Nat) (p : Option Addr) (N : Nat → ByteArray) (A : Nat → Int) (D : EqL) (w : World) (h : Syms w b off n N A) (hk : Kept n N A) :
    Calls Try.prog 54 #[.agg #[.slice (some ⟨b, off, none⟩) n c], .slice p 0 c'] w fun e w' => e = .returned (.int .i64 (eqsF n N A 0 D)) ∧ Below w.heap.size w w' := by
  have X := hidden (One.new w (.slice (some ⟨b, off, none⟩) n c) 32)
  have B := hidden (alloc_below w (.cells #[.slice (some ⟨b, off, none⟩) n c] 32))
  have Q := hidden (h.keep B.out)
  have HK := hidden hk
  clear h hk
  go_enter Try.func54, Try.ntmps54
  go_wp2_with fail
  with_reducible refine (implFault_all _ _ _ _ N A _ Q.out HK.out).mono ?_
  rintro e w1 ⟨rfl, hb⟩
  replace B := hidden (keepB B.out hb)
  clear hb
  by_cases hf : faultF n N A = 0
  · have HR := hidden (show eqsF n N A 0 D = 0 by rw [eqs_to hf (by omega)]; rfl)
    rw [hf]
    clear hf
    go_wp2
    refine wp_loop_rounds 1 ?_
    rw [rounds_succ]
    go_wp2
    go_ret
    exact ⟨by rw [HR.out]; rfl, B.out⟩
  · have HR := hidden (eqs_fault (m := 0) (D := D) hf)
    have hf' : (faultF n N A != 0) = true := by simpa using hf
    generalize faultF n N A = z at hf' HR ⊢
    clear hf
    go_wp2
    go_ret
    exact ⟨by rw [HR.out]; rfl, B.out⟩

set_option maxRecDepth 20000 in
set_option maxHeartbeats 3200000 in
theorem implUnpackEqs_any (b off n c : Nat) (b' off' m c' : Nat) (N : Nat → ByteArray) (A l : Nat → Int) (w : World) (h : Syms w b off n N A) (h' : Byts w (some ⟨b', off', none⟩) m l) (hb' : b' < w.heap.size) (hk : Kept n N A) (hm : m ≤ 1048576) (hmc : m ≤ c') :
    Calls Try.prog 30 #[.agg #[.slice (some ⟨b, off, none⟩) n c], .slice (some ⟨b', off', none⟩) m c'] w fun e w' => EqsAns w (uqC n N A m l) (l 0).toNat (rdD n A m l) e w' ∧ Below w.heap.size w w' := by
  have D := hidden ((One.new w (.slice (some ⟨b, off, none⟩) n c) 32).keep (alloc_below _ (.cells #[.int .i64 0, .slice none 0 0] 55)))
  have R := hidden (Res.new (w.alloc (.cells #[.slice (some ⟨b, off, none⟩) n c] 32)) (.int .i64 0) (.slice none 0 0) 55)
  have B := hidden (keepB (alloc_below w (.cells #[.slice (some ⟨b, off, none⟩) n c] 32)) (alloc_below _ (.cells #[.int .i64 0, .slice none 0 0] 55)))
  have Q := hidden (h.keep B.out)
  have I := hidden (h'.keep B.out)
  have LB := hidden (Nat.lt_of_lt_of_le hb' B.out.size)
  have HK := hidden hk
  have HQ255 := hidden (show (l 0).toNat ≤ 255 ∨ m = 0 from by
    by_cases h0 : m = 0
    · exact Or.inr h0
    · have := h'.byt 0 (by omega); exact Or.inl (by omega))
  rw [World.size_alloc] at R
  clear h h' hk hb'
  go_enter Try.func30, Try.ntmps30
  go_wp2_with fail
  with_reducible refine (implFault_all _ _ _ _ N A _ Q.out HK.out).mono ?_
  rintro e w1 ⟨rfl, hb⟩
  replace D := hidden (D.out.keep hb)
  replace R := hidden (R.out.keep hb)
  replace B := hidden (keepB B.out hb)
  replace I := hidden (I.out.keep hb)
  replace Q := hidden (Q.out.keep hb)
  replace LB := hidden (Nat.lt_of_lt_of_le LB.out hb.size)
  clear hb
  by_cases hf : faultF n N A = 0
  · have HF := hidden hf
    have HS := hidden (fault_sound hf)
    rw [hf]
    clear hf
    have d0 := D.out.c0
    go_wp2_with fail
    with_reducible refine (cutEqs_any _ _ _ _ _ _ m c' N A l _ Q.out HS.out hm hmc LB.out I.out).mono ?_
    rintro r w3 ⟨ha, hb⟩
    have hR := R.out.blk
    have hBs := B.out.size
    have hw3 := hb.size
    replace D := hidden (D.out.keep hb)
    replace R := hidden (R.out.keep hb)
    replace Q := hidden (Q.out.keep hb)
    replace B := hidden (keepB B.out hb)
    clear hb I LB d0
    rcases ha with ⟨h0, rfl⟩ | ⟨hm0, p, hp, v, o2, c2, Bb, rfl, hBb, hgr⟩
    · have HC := hidden (uq_text (m := m) (l := l) HF.out (fun h => by
        rcases h0 with h0 | h0
        · have := h.1; omega
        · rw [h.2.1] at h0; cases h0))
      clear h0
      obtain ⟨_, q0, q1, f0, f1⟩ := id R.out
      go_wp2
      exact bodyPost_ret (v := .agg #[.int .i64 5, .slice none 0 0]) (by simp [results, Try.results30, go_sem, q0, q1]) rfl ⟨Or.inl ⟨by rw [HC.out]; simp, none, 0, by rw [HC.out]⟩, (B.out.setCell (by simp) _).setCell (by simp) _⟩
    · have hpl := rdPos_le (by omega) _ p hp
      have HP := hidden hp
      have GR := hidden hgr
      have h255 : (l 0).toNat ≤ 255 := by rcases HQ255.out with h | h <;> omega
      obtain ⟨x, hx⟩ : ∃ x, x = m - p := ⟨_, rfl⟩
      rw [← hx]
      clear hp hgr
      by_cases hx0 : x = 0
      · subst hx0
        have hpm : p = m := by omega
        subst hpm
        have HE := hidden (show OkE n N A p l p ↔ eqsF n N A (l 0).toNat (rdD n A p l) = 0 from by
          constructor
          · intro h; rw [eqs_to HF.out (by have := h.2.2.1; omega)]; exact h.2.2.2
          · intro h
            by_cases h12 : 12 < (l 0).toNat
            · rw [eqs_many HF.out h12] at h; omega
            · rw [eqs_to HF.out h12] at h; exact ⟨hm0, HP.out, by omega, h⟩)
        have CALL := hidden (show ∀ ww, Below w3.heap.size w3 ww → Calls Try.prog 54 #[.agg #[.slice (some ⟨b, off, none⟩) n c], v] ww fun e w' => e = .returned (.int .i64 (eqsF n N A (l 0).toNat (rdD n A p l))) ∧ Below ww.heap.size ww w' from fun ww hww => by
          by_cases hq : 0 < (l 0).toNat
          · obtain ⟨g, d, rfl, ho⟩ := GR.out.done hq
            exact implEqs_any b off n c g 0 _ d N A _ ww (Q.out.keep hww) (ho.keep hww).eqs HK.out (rdD_kept (by omega))
          · have hz : (l 0).toNat = 0 := by omega
            rw [hz]
            have hs := GR.out.slc
            rw [hz] at hs
            rcases hs with rfl | ⟨g, c2, rfl⟩
            · exact implEqs_nil b off n c _ none N A _ ww (Q.out.keep hww) HK.out
            · exact implEqs_nil b off n c _ _ N A _ ww (Q.out.keep hww) HK.out)
        have d0 := D.out.c0
        clear hx
        go_wp2_with fail
        with_reducible refine (CALL.out _ (Below.refl _ _)).mono ?_
        rintro e w4 ⟨rfl, hb⟩
        have hR := R.out.blk
        replace R := hidden (R.out.keep hb)
        replace B := hidden (keepB B.out hb)
        replace GR := hidden (GR.out.keep hb)
        clear hb d0 CALL D Q
        by_cases hz : eqsF n N A (l 0).toNat (rdD n A p l) = 0
        · have HC := hidden (uq_ok HF.out (HE.out.2 hz))
          rw [hz]
          clear hz
          obtain ⟨_, q0, q1, f0, f1⟩ := id R.out
          by_cases hq : 0 < (l 0).toNat
          · obtain ⟨g, d, rfl, ho⟩ := GR.out.done hq
            have O := hidden ho
            clear GR ho
            go_wp2
            exact bodyPost_ret (v := .agg #[.int .i64 0, .slice (some ⟨g, 0, none⟩) (l 0).toNat d]) (by simp [results, Try.results30, go_sem, q0, q1]) rfl ⟨Or.inr ⟨HC.out, hq, Bb, g, d, rfl, by omega, ((O.out.setLow _ _ _ (by omega)).setLow _ _ _ (by omega))⟩, (B.out.setCell (by simp) _).setCell (by simp) _⟩
          · have hz : (l 0).toNat = 0 := by omega
            have HQ := hidden hq
            rw [hz] at GR
            clear hq
            rcases GR.out.slc with rfl | ⟨g, c3, rfl⟩
            · go_wp2
              exact bodyPost_ret (v := .agg #[.int .i64 0, .slice none 0 0]) (by simp [results, Try.results30, go_sem, q0, q1]) rfl ⟨Or.inl ⟨fun h => HQ.out h.2, none, 0, by rw [HC.out]⟩, (B.out.setCell (by simp) _).setCell (by simp) _⟩
            · go_wp2
              exact bodyPost_ret (v := .agg #[.int .i64 0, .slice (some ⟨g, 0, none⟩) 0 c3]) (by simp [results, Try.results30, go_sem, q0, q1]) rfl ⟨Or.inl ⟨fun h => HQ.out h.2, some ⟨g, 0, none⟩, c3, by rw [HC.out]⟩, (B.out.setCell (by simp) _).setCell (by simp) _⟩
        · have HC := hidden (uq_text HF.out (fun h => hz (HE.out.1 h)))
          have hz' : (eqsF n N A (l 0).toNat (rdD n A p l) != 0) = true := by simpa using hz
          generalize eqsF n N A (l 0).toNat (rdD n A p l) = z at hz' ⊢
          clear hz HE
          obtain ⟨_, q0, q1, f0, f1⟩ := id R.out
          go_wp2
          exact bodyPost_ret (v := .agg #[.int .i64 5, .slice none 0 0]) (by simp [results, Try.results30, go_sem, q0, q1]) rfl ⟨Or.inl ⟨by rw [HC.out]; simp, none, 0, by rw [HC.out]⟩, (B.out.setCell (by simp) _).setCell (by simp) _⟩
      · have HC := hidden (uq_text (m := m) (l := l) HF.out (fun h => by have := HP.out.symm.trans h.2.1; simp at this; omega))
        have hx1 : 0 < x := by omega
        obtain ⟨_, q0, q1, f0, f1⟩ := id R.out
        clear hx hx0
        go_wp2
        exact bodyPost_ret (v := .agg #[.int .i64 5, .slice none 0 0]) (by simp [results, Try.results30, go_sem, q0, q1]) rfl ⟨Or.inl ⟨by rw [HC.out]; simp, none, 0, by rw [HC.out]⟩, (B.out.setCell (by simp) _).setCell (by simp) _⟩
  · have HN := hidden hf
    have HC := hidden (uq_fault (m := m) (l := l) hf)
    have hf' : (faultF n N A != 0) = true := by simpa using hf
    generalize faultF n N A = z at hf' HN HC ⊢
    clear hf
    obtain ⟨_, q0, q1, f0, f1⟩ := id R.out
    go_wp2
    exact bodyPost_ret (v := .agg #[.int .i64 z, .slice none 0 0]) (by simp [results, Try.results30, go_sem, q0, q1]) rfl ⟨Or.inl ⟨by rw [HC.out]; exact fun h => HN.out h.1, none, 0, by rw [HC.out]⟩, (B.out.setCell (by simp) _).setCell (by simp) _⟩

end Go.Proofs.Ytcnkkoegfjggaaa
