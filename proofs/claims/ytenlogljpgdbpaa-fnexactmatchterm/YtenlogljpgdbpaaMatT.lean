/- Contracts: MatchTerm, as the model and as the program does it: a binding as an answer. -/
import Derived.Test.YtenlogljpgdbpaaMM
import Derived.Test.YtenlogljpgdbpaaMY
import Derived.Test.YtenlogljpgdbpaaEqnF
namespace Go.Proofs.Ytenlogljpgdbpaa
open Go.RowKit

/-- Three cells that may be written. -/
structure Bn3 (w : World) (b : Nat) (x y z : Value) : Prop where
  blk : b < w.heap.size
  c0 : w.cell? ⟨b, 0, none⟩ = some x
  c1 : w.cell? ⟨b, 1, none⟩ = some y
  c2 : w.cell? ⟨b, 2, none⟩ = some z
  f0 : w.frozen? ⟨b, 0, none⟩ = false
  f1 : w.frozen? ⟨b, 1, none⟩ = false
  f2 : w.frozen? ⟨b, 2, none⟩ = false

theorem Bn3.new (w : World) (x y z : Value) (t : TypeId) : Bn3 (w.alloc (.cells #[x, y, z] t)) w.heap.size x y z := by
  refine ⟨by simp, ?_, ?_, ?_, ?_, ?_, ?_⟩ <;> simp [go_sem]

theorem Bn3.keep {w w' : World} {b : Nat} {x y z : Value} (h : Bn3 w b x y z) (hb : Below w.heap.size w w') : Bn3 w' b x y z :=
  ⟨Nat.lt_of_lt_of_le h.blk hb.size, by rw [(bcell hb).1 _ _ h.blk]; exact h.c0, by rw [(bcell hb).1 _ _ h.blk]; exact h.c1, by rw [(bcell hb).1 _ _ h.blk]; exact h.c2, by rw [(bcell hb).2 _ _ h.blk]; exact h.f0, by rw [(bcell hb).2 _ _ h.blk]; exact h.f1, by rw [(bcell hb).2 _ _ h.blk]; exact h.f2⟩

/-- A code and a binding as an answer: none, or one in memory of its own. -/
def BnAns (w : World) (C : Int) (M : Nat → List Int) (e : Ending) (w' : World) : Prop :=
  ((C ≠ 0 ∨ cR M = 0) ∧ e = .returned (.agg #[.int .i64 C, .slice none 0 0, .slice none 0 0])) ∨
  (C = 0 ∧ 0 < cR M ∧ ∃ lo g1 d1 g2 d2, e = .returned (.agg #[.int .i64 0, .slice (some ⟨g1, 0, none⟩) (cR M) d1, .slice (some ⟨g2, 0, none⟩) (cR M) d2]) ∧ w.heap.size ≤ lo ∧ OwnBx w' lo w'.heap.size g1 (cR M) d1 (cV M) g2 (cR M) d2 (cnD M 12))

/-- MatchTerm's code, and what is bound. -/
noncomputable def mtC (n : Nat) (N : Nat → ByteArray) (A : Nat → Int) (m1 : Nat) (L1 : Nat → Int) (m2 : Nat) (L2 : Nat → Int) : Int :=
  if sdF n N A m1 L1 m2 L2 = 0 then (if (mtB A L2 L1 m2 m1 0).isNone = true then 4 else 0) else sdF n N A m1 L1 m2 L2
def mtM (A : Nat → Int) (m1 : Nat) (L1 : Nat → Int) (m2 : Nat) (L2 : Nat → Int) : Nat → List Int := (mtB A L2 L1 m2 m1 0).getD (fun _ => [])

section
variable {n : Nat} {N : Nat → ByteArray} {A : Nat → Int} {m1 : Nat} {L1 : Nat → Int} {m2 : Nat} {L2 : Nat → Int}
theorem mtC_bad (h : sdF n N A m1 L1 m2 L2 ≠ 0) : mtC n N A m1 L1 m2 L2 = sdF n N A m1 L1 m2 L2 := by rw [mtC, if_neg h]
theorem mtC_none (h : sdF n N A m1 L1 m2 L2 = 0) (hn : mtB A L2 L1 m2 m1 0 = none) : mtC n N A m1 L1 m2 L2 = 4 := by rw [mtC, if_pos h, hn]; rfl
theorem mtC_some (h : sdF n N A m1 L1 m2 L2 = 0) {M : Nat → List Int} (hn : mtB A L2 L1 m2 m1 0 = some M) : mtC n N A m1 L1 m2 L2 = 0 ∧ mtM A m1 L1 m2 L2 = M := by
  constructor
  · rw [mtC, if_pos h, hn]; rfl
  · rw [mtM, hn]; rfl

theorem mtB_len {M : Nat → List Int} (hp : Trm n A m1 L1) (hg : Trm n A m2 L2) (h : mtB A L2 L1 m2 m1 0 = some M) : ∀ v, (M v).length ≤ 24 := by
  unfold mtB at h
  cases hs : mtS (aOf A L2) m2 L2 L1 0 m1 with
  | none => rw [hs] at h; cases h
  | some s =>
    rw [hs] at h
    simp only [Option.map_some, Option.some.injEq] at h
    subst h
    exact fun v => (mt_inv hp hg.whole m1 s.1 s.2 (Nat.le_refl _) hs).len hg.nods.most (Nat.le_refl _) v
end

set_option maxRecDepth 20000 in
set_option maxHeartbeats 6400000 in
theorem specMatch_any (b off n c b1 o1 m1 c1 b2 o2 m2 c2 : Nat) (N : Nat → ByteArray) (A L1 L2 : Nat → Int) (w : World) (h : Syms w b off n N A) (h1 : Ints w b1 o1 m1 L1) (h2 : Ints w b2 o2 m2 L2) (hk : Kept n N A) (hm1 : m1 ≤ 1048576) (hm2 : m2 ≤ 1048576) (hc : m2 ≤ c2) :
    Calls Try.prog 7 #[.agg #[.slice (some ⟨b, off, none⟩) n c], .slice (some ⟨b1, o1, none⟩) m1 c1, .slice (some ⟨b2, o2, none⟩) m2 c2] w fun e w' => BnAns w (mtC n N A m1 L1 m2 L2) (mtM A m1 L1 m2 L2) e w' ∧ Below w.heap.size w w' := by
  have X := hidden ((One.new w (.slice (some ⟨b, off, none⟩) n c) 35).keep (alloc_below _ (.cells #[.int .i64 0, .slice none 0 0, .slice none 0 0] 31)))
  have R := hidden (show Bn3 ((w.alloc (.cells #[.slice (some ⟨b, off, none⟩) n c] 35)).alloc (.cells #[.int .i64 0, .slice none 0 0, .slice none 0 0] 31)) (w.heap.size + 1) (.int .i64 0) (.slice none 0 0) (.slice none 0 0) by
    have := Bn3.new (w.alloc (.cells #[.slice (some ⟨b, off, none⟩) n c] 35)) (.int .i64 0) (.slice none 0 0) (.slice none 0 0) 31
    rwa [World.size_alloc] at this)
  have B := hidden (keepB (alloc_below w (.cells #[.slice (some ⟨b, off, none⟩) n c] 35)) (alloc_below _ (.cells #[.int .i64 0, .slice none 0 0, .slice none 0 0] 31)))
  have Q := hidden (h.keep B.out)
  have J1 := hidden (h1.keep B.out)
  have J2 := hidden (h2.keep B.out)
  have HK := hidden hk
  clear h h1 h2 hk
  go_enter Try.func7, Try.ntmps7
  go_wp2_with fail
  with_reducible refine (specTerm_any _ _ _ _ _ _ _ _ N A L1 _ Q.out J1.out HK.out hm1).mono ?_
  rintro e w1 ⟨rfl, hb⟩
  replace X := hidden (X.out.keep hb)
  replace R := hidden (R.out.keep hb)
  replace Q := hidden (Q.out.keep hb)
  replace J1 := hidden (J1.out.keep hb)
  replace J2 := hidden (J2.out.keep hb)
  replace B := hidden (keepB B.out hb)
  clear hb
  by_cases hz : termF n N A m1 L1 = 0
  · have HZ := hidden hz
    have hf0 : faultF n N A = 0 := by
      by_cases hf : faultF n N A = 0
      · exact hf
      · rw [term_fault hf] at hz; exact absurd hz hf
    have SD := hidden (show sdF n N A m1 L1 m2 L2 = lF n A m2 L2 by rw [sdF_right hz, term_l hf0])
    have SO := hidden (fault_sound hf0)
    rw [hz]
    clear hz hf0
    go_wp2_with fail
    with_reducible refine (l3Fault_all _ _ _ _ _ _ _ _ _ N A L2 _ X.out Q.out J2.out SO.out hm2).mono ?_
    rintro e w2 ⟨rfl, hb⟩
    replace X := hidden (X.out.keep hb)
    replace R := hidden (R.out.keep hb)
    replace Q := hidden (Q.out.keep hb)
    replace J1 := hidden (J1.out.keep hb)
    replace J2 := hidden (J2.out.keep hb)
    replace B := hidden (keepB B.out hb)
    clear hb
    by_cases hz2 : lF n A m2 L2 = 0
    · have HS0 := hidden (SD.out.trans hz2)
      have HP := hidden (term_right HZ.out)
      have HG := hidden (lF_right SO.out hz2)
      rw [hz2]
      clear hz2
      have S0 := l6Match_any w.heap.size b off n c b1 o1 m1 c1 b2 o2 m2 c2 0 m2 N A L1 L2 w2 X.out Q.out J1.out J2.out HG.out HP.out HG.out.whole hc
      rw [show ((0 : Nat) : Int) = 0 from rfl] at S0
      have S := hidden S0
      clear S0
      go_wp2_with fail
      with_reducible refine S.out.mono ?_
      rintro e w3 ⟨ha, hb⟩
      have HW2 := hidden B.out.size
      have HW3 := hidden hb.size
      have RB := hidden R.out.blk
      replace X := hidden (X.out.keep hb)
      replace R := hidden (R.out.keep hb)
      replace Q := hidden (Q.out.keep hb)
      replace J1 := hidden (J1.out.keep hb)
      replace J2 := hidden (J2.out.keep hb)
      replace B := hidden (keepB B.out hb)
      clear hb
      rcases ha with ⟨hn, rfl⟩ | ⟨M, hn, hi, va, ta, rfl, hbd⟩
      · have HA := hidden (mtC_none HS0.out hn)
        clear hn
        replace X := hidden (X.out.keep (alloc_below _ (.cells #[.slice none 0 0, .slice none 0 0] 29)))
        replace R := hidden (R.out.keep (alloc_below _ (.cells #[.slice none 0 0, .slice none 0 0] 29)))
        replace B := hidden (keepB B.out (alloc_below _ (.cells #[.slice none 0 0, .slice none 0 0] 29)))
        obtain ⟨_, q0, q1, q2, f0, f1, f2⟩ := id R.out
        go_wp2
        exact bodyPost_ret (v := .agg #[.int .i64 4, .slice none 0 0, .slice none 0 0]) (by simp [results, Try.results7, go_sem, q0, q1, q2]) rfl ⟨Or.inl ⟨by rw [HA.out]; exact Or.inl (by decide), by rw [HA.out]⟩, ((B.out.setCell (by simp) _).setCell (by simp) _).setCell (by simp) _⟩
      · have HC := hidden (mtC_some HS0.out hn).1
        have HM := hidden (mtC_some HS0.out hn).2
        clear hn hi
        rcases hbd with ⟨h0, rfl, rfl⟩ | ⟨hpos, Bb, Xb, hlo, hs⟩
        · have H0 := hidden h0
          clear h0
          have T9 := hidden (Two.new w3 (.slice none 0 0) (.slice none 0 0) 29)
          replace X := hidden (X.out.keep (alloc_below _ (.cells #[.slice none 0 0, .slice none 0 0] 29)))
          replace R := hidden (R.out.keep (alloc_below _ (.cells #[.slice none 0 0, .slice none 0 0] 29)))
          replace B := hidden (keepB B.out (alloc_below _ (.cells #[.slice none 0 0, .slice none 0 0] 29)))
          have t0 := T9.out.c0
          have t1 := T9.out.c1
          obtain ⟨_, q0, q1, q2, f0, f1, f2⟩ := id R.out
          go_wp2
          exact bodyPost_ret (v := .agg #[.int .i64 0, .slice none 0 0, .slice none 0 0]) (by simp [results, Try.results7, go_sem, q0, q1, q2]) rfl ⟨Or.inl ⟨by rw [HM.out]; exact Or.inr H0.out, by rw [HC.out]⟩, ((B.out.setCell (by simp) _).setCell (by simp) _).setCell (by simp) _⟩
        · have HL := hidden (show w.heap.size + 1 < Xb ∧ 0 < cR M from ⟨by have := RB.out; have := HW2.out; omega, hpos⟩)
          obtain ⟨g1, d1, g2, d2, rfl, rfl, -⟩ := hs.done hpos
          have BS := hidden (hs.keep (alloc_below w3 (.cells #[.slice (some ⟨g1, 0, none⟩) (cnL M 12).length d1, .slice (some ⟨g2, 0, none⟩) (cnL M 12).length d2] 29)))
          clear hs hlo hpos
          generalize hq : (cnL M 12).length = q at BS ⊢
          have HQ := hidden hq
          clear hq
          have T9 := hidden (Two.new w3 (.slice (some ⟨g1, 0, none⟩) q d1) (.slice (some ⟨g2, 0, none⟩) q d2) 29)
          replace X := hidden (X.out.keep (alloc_below _ (.cells #[.slice (some ⟨g1, 0, none⟩) q d1, .slice (some ⟨g2, 0, none⟩) q d2] 29)))
          replace R := hidden (R.out.keep (alloc_below _ (.cells #[.slice (some ⟨g1, 0, none⟩) q d1, .slice (some ⟨g2, 0, none⟩) q d2] 29)))
          replace B := hidden (keepB B.out (alloc_below _ (.cells #[.slice (some ⟨g1, 0, none⟩) q d1, .slice (some ⟨g2, 0, none⟩) q d2] 29)))
          have t0 := T9.out.c0
          have t1 := T9.out.c1
          obtain ⟨_, q0, q1, q2, f0, f1, f2⟩ := id R.out
          go_wp2
          have hlow := BS.out.low
          have hlo := HL.out.1
          have BF := ((BS.out.farY ⟨w.heap.size + 1, 0, none⟩ (.int .i64 0) (by show w.heap.size + 1 < _; omega) (by show Xb ≠ w.heap.size + 1; omega)).farY ⟨w.heap.size + 1, 1, none⟩ (.slice (some ⟨g1, 0, none⟩) q d1) (by show w.heap.size + 1 < _; omega) (by show Xb ≠ w.heap.size + 1; omega)).farY ⟨w.heap.size + 1, 2, none⟩ (.slice (some ⟨g2, 0, none⟩) q d2) (by show w.heap.size + 1 < _; omega) (by show Xb ≠ w.heap.size + 1; omega)
          obtain ⟨g3, d3, g4, d4, e1, e2, ho⟩ := BF.done HL.out.2
          rw [HQ.out] at e1 e2
          refine bodyPost_ret (v := .agg #[.int .i64 0, .slice (some ⟨g1, 0, none⟩) q d1, .slice (some ⟨g2, 0, none⟩) q d2]) (by simp [results, Try.results7, go_sem, q0, q1, q2]) rfl ⟨Or.inr ⟨HC.out, by rw [HM.out]; exact HL.out.2, Bb, g3, d3, g4, d4, ?_, by omega, by rw [HM.out]; exact ho⟩, ((B.out.setCell (by simp) _).setCell (by simp) _).setCell (by simp) _⟩
          rw [HM.out, show cR M = q from HQ.out, e1, e2]
    · have HA := hidden (mtC_bad (show sdF n N A m1 L1 m2 L2 ≠ 0 by rw [SD.out]; exact hz2))
      rw [SD.out] at HA
      have HN := hidden hz2
      have hz' : (lF n A m2 L2 != 0) = true := by simpa using hz2
      generalize lF n A m2 L2 = z at *
      clear hz2
      obtain ⟨_, q0, q1, q2, f0, f1, f2⟩ := id R.out
      go_wp2
      exact bodyPost_ret (v := .agg #[.int .i64 z, .slice none 0 0, .slice none 0 0]) (by simp [results, Try.results7, go_sem, q0, q1, q2]) rfl ⟨Or.inl ⟨by rw [HA.out]; exact Or.inl HN.out, by rw [HA.out]⟩, ((B.out.setCell (by simp) _).setCell (by simp) _).setCell (by simp) _⟩
  · have HA := hidden (mtC_bad (n := n) (N := N) (A := A) (m1 := m1) (L1 := L1) (m2 := m2) (L2 := L2) (by rw [sdF_left hz]; exact hz))
    rw [sdF_left hz] at HA
    have HN := hidden hz
    have hz' : (termF n N A m1 L1 != 0) = true := by simpa using hz
    generalize termF n N A m1 L1 = z at *
    clear hz
    obtain ⟨_, q0, q1, q2, f0, f1, f2⟩ := id R.out
    go_wp2
    exact bodyPost_ret (v := .agg #[.int .i64 z, .slice none 0 0, .slice none 0 0]) (by simp [results, Try.results7, go_sem, q0, q1, q2]) rfl ⟨Or.inl ⟨by rw [HA.out]; exact Or.inl HN.out, by rw [HA.out]⟩, ((B.out.setCell (by simp) _).setCell (by simp) _).setCell (by simp) _⟩

/-- Twelve values by their numbers. -/
def twelveM (x0 x1 x2 x3 x4 x5 x6 x7 x8 x9 x10 x11 : Value) : Nat → Value := fun i => match i with | 0 => x0 | 1 => x1 | 2 => x2 | 3 => x3 | 4 => x4 | 5 => x5 | 6 => x6 | 7 => x7 | 8 => x8 | 9 => x9 | 10 => x10 | _ => x11

theorem twelveM_eq {V : Nat → Value} {x0 x1 x2 x3 x4 x5 x6 x7 x8 x9 x10 x11 : Value} (h : V 0 = x0 ∧ V 1 = x1 ∧ V 2 = x2 ∧ V 3 = x3 ∧ V 4 = x4 ∧ V 5 = x5 ∧ V 6 = x6 ∧ V 7 = x7 ∧ V 8 = x8 ∧ V 9 = x9 ∧ V 10 = x10 ∧ V 11 = x11) : ∀ v, v < 12 → twelveM x0 x1 x2 x3 x4 x5 x6 x7 x8 x9 x10 x11 v = V v := by
  obtain ⟨h0, h1, h2, h3, h4, h5, h6, h7, h8, h9, h10, h11⟩ := h
  intro v hv
  match v, hv with
  | 0, _ => exact h0.symm
  | 1, _ => exact h1.symm
  | 2, _ => exact h2.symm
  | 3, _ => exact h3.symm
  | 4, _ => exact h4.symm
  | 5, _ => exact h5.symm
  | 6, _ => exact h6.symm
  | 7, _ => exact h7.symm
  | 8, _ => exact h8.symm
  | 9, _ => exact h9.symm
  | 10, _ => exact h10.symm
  | 11, _ => exact h11.symm
  | j + 12, hj => omega

theorem Pts.congrM {w : World} {X : Nat} {V V' : Nat → Value} (h : Pts w X V) (he : ∀ v, v < 12 → V v = V' v) : Pts w X V' :=
  ⟨h.blk, fun v hv => by rw [← he v hv]; exact h.cell v hv, h.frz⟩

set_option maxRecDepth 20000 in
theorem enters_mt : Enters 34 := fun _ _ => rfl

set_option maxRecDepth 20000 in
set_option maxHeartbeats 400000 in
theorem match1_any (X b' : Nat) (M : Nat → List Int) (V : Nat → Value) (v : Nat) (w : World) (h : Pts w X V) (hp : PtV w b' M V) (hv : v < 12) :
    Calls Try.prog 34 #[.int .i64 (v : Int), .pointer (some ⟨X, 0, none⟩)] w fun e w' => (∃ p c, e = .returned (.slice p (M v).length c) ∧ ((M v).length = 0 ∨ ∃ off, p = some ⟨b', off, none⟩ ∧ Ints w b' off (M v).length (fun i => (M v).getD i 0))) ∧ Below w.heap.size w w' := by
  obtain ⟨p, c, e, hq⟩ := hp v hv
  have c0 := h.cell v hv
  rw [e] at c0
  have HQ := hidden hq
  obtain ⟨l, hl⟩ : ∃ l, l = (M v).length := ⟨_, rfl⟩
  have HL := hidden hl
  rw [← hl] at c0
  clear h hp e hq hl
  go_enter Try.func34, Try.ntmps34
  go_wp2
  go_ret
  refine ⟨⟨p, c, by rw [← HL.out]; rfl, ?_⟩, Below.refl _ _⟩
  rcases HQ.out with h0 | ⟨o, rfl, hi⟩
  · exact Or.inl (by rw [h0]; rfl)
  · exact Or.inr ⟨o, rfl, hi⟩

theorem Ints.backM {w w' : World} {b off n : Nat} {L : Nat → Int} (h : Ints w' b off n L) (hb : Below w.heap.size w w') (hl : b < w.heap.size) : Ints w b off n L :=
  ⟨fun _ => hl, fun i hi => by rw [← (bcell hb).1 _ _ hl]; exact h.cell i hi⟩

theorem match1_mean (X b' : Nat) (M : Nat → List Int) (V : Nat → Value) (w : World) (h : Pts w X V) (hp : PtV w b' M V) (hl : b' < w.heap.size) : MeanO 34 #[.pointer (some ⟨X, 0, none⟩)] M w := by
  refine ⟨enters_mt, fun v w1 hv hb => ?_⟩
  refine (match1_any X b' M V v w1 (h.keep hb) (hp.keep hb) hv).mono ?_
  rintro e w2 ⟨⟨p, c, rfl, hq⟩, hb2⟩
  refine ⟨⟨p, c, rfl, ?_⟩, hb2⟩
  rcases hq with h0 | ⟨off, rfl, hi⟩
  · exact Or.inl h0
  · exact Or.inr ⟨b', off, rfl, hi.backM hb hl⟩

set_option maxRecDepth 20000 in
set_option maxHeartbeats 12800000 in
theorem implMatch_any (b off n c b1 o1 m1 c1 b2 o2 m2 c2 : Nat) (N : Nat → ByteArray) (A L1 L2 : Nat → Int) (w : World) (h : Syms w b off n N A) (h1 : Ints w b1 o1 m1 L1) (h2 : Ints w b2 o2 m2 L2) (hk : Kept n N A) (hm1 : m1 ≤ 1048576) (hm2 : m2 ≤ 1048576) (hc : m2 ≤ c2) :
    Calls Try.prog 10 #[.agg #[.slice (some ⟨b, off, none⟩) n c], .slice (some ⟨b1, o1, none⟩) m1 c1, .slice (some ⟨b2, o2, none⟩) m2 c2] w fun e w' => BnAns w (mtC n N A m1 L1 m2 L2) (mtM A m1 L1 m2 L2) e w' ∧ Below w.heap.size w w' := by
  have hb2w := h2.blk
  have X := hidden ((One.new w (.slice (some ⟨b, off, none⟩) n c) 35).keep (alloc_below _ (.cells #[.int .i64 0, .slice none 0 0, .slice none 0 0] 31)))
  have R := hidden (show Bn3 ((w.alloc (.cells #[.slice (some ⟨b, off, none⟩) n c] 35)).alloc (.cells #[.int .i64 0, .slice none 0 0, .slice none 0 0] 31)) (w.heap.size + 1) (.int .i64 0) (.slice none 0 0) (.slice none 0 0) by
    have := Bn3.new (w.alloc (.cells #[.slice (some ⟨b, off, none⟩) n c] 35)) (.int .i64 0) (.slice none 0 0) (.slice none 0 0) 31
    rwa [World.size_alloc] at this)
  have B := hidden (keepB (alloc_below w (.cells #[.slice (some ⟨b, off, none⟩) n c] 35)) (alloc_below _ (.cells #[.int .i64 0, .slice none 0 0, .slice none 0 0] 31)))
  have Q := hidden (h.keep B.out)
  have J1 := hidden (h1.keep B.out)
  have J2 := hidden (h2.keep B.out)
  have HK := hidden hk
  clear h h1 h2 hk
  go_enter Try.func10, Try.ntmps10
  go_wp2_with fail
  with_reducible refine (sides_any _ _ _ _ _ _ _ _ _ _ _ _ N A L1 L2 _ Q.out J1.out J2.out HK.out hm1 hm2).mono ?_
  rintro e w1 ⟨rfl, hb⟩
  replace X := hidden (X.out.keep hb)
  replace R := hidden (R.out.keep hb)
  replace Q := hidden (Q.out.keep hb)
  replace J1 := hidden (J1.out.keep hb)
  replace J2 := hidden (J2.out.keep hb)
  replace B := hidden (keepB B.out hb)
  clear hb
  by_cases hz : sdF n N A m1 L1 m2 L2 = 0
  · have HZ := hidden hz
    have HP := hidden (term_right (sdF_both hz).1)
    have HG := hidden (term_right (sdF_both hz).2)
    have S := hidden (matchedParts_any b off n c b1 o1 m1 c1 b2 o2 m2 c2 0 m2 N A L1 L2 w1 Q.out J1.out J2.out HG.out HP.out HG.out.whole (by omega))
    rw [Nat.add_zero, Nat.sub_zero] at S
    rw [hz]
    clear hz
    have x0 := X.out.c0
    go_wp2_with fail
    with_reducible refine S.out.mono ?_
    rintro e w2 ⟨ha, hb⟩
    clear S x0
    replace X := hidden (X.out.keep hb)
    replace R := hidden (R.out.keep hb)
    replace Q := hidden (Q.out.keep hb)
    replace J1 := hidden (J1.out.keep hb)
    replace J2 := hidden (J2.out.keep hb)
    replace B := hidden (keepB B.out hb)
    clear hb
    rcases ha with ⟨hn, V, rfl, hsl⟩ | ⟨M, hn, V, rfl, hpt⟩
    · have HA := hidden (mtC_none HZ.out hn)
      clear hn
      unfold arr12
      obtain ⟨vp0, vl0, vc0, ve0⟩ := hsl 0 (by omega)
      obtain ⟨vp1, vl1, vc1, ve1⟩ := hsl 1 (by omega)
      obtain ⟨vp2, vl2, vc2, ve2⟩ := hsl 2 (by omega)
      obtain ⟨vp3, vl3, vc3, ve3⟩ := hsl 3 (by omega)
      obtain ⟨vp4, vl4, vc4, ve4⟩ := hsl 4 (by omega)
      obtain ⟨vp5, vl5, vc5, ve5⟩ := hsl 5 (by omega)
      obtain ⟨vp6, vl6, vc6, ve6⟩ := hsl 6 (by omega)
      obtain ⟨vp7, vl7, vc7, ve7⟩ := hsl 7 (by omega)
      obtain ⟨vp8, vl8, vc8, ve8⟩ := hsl 8 (by omega)
      obtain ⟨vp9, vl9, vc9, ve9⟩ := hsl 9 (by omega)
      obtain ⟨vp10, vl10, vc10, ve10⟩ := hsl 10 (by omega)
      obtain ⟨vp11, vl11, vc11, ve11⟩ := hsl 11 (by omega)
      rw [ve0, ve1, ve2, ve3, ve4, ve5, ve6, ve7, ve8, ve9, ve10, ve11]
      clear ve0 ve1 ve2 ve3 ve4 ve5 ve6 ve7 ve8 ve9 ve10 ve11 hsl
      have hab := alloc_below w2 (.cells #[.slice vp0 vl0 vc0, .slice vp1 vl1 vc1, .slice vp2 vl2 vc2, .slice vp3 vl3 vc3, .slice vp4 vl4 vc4, .slice vp5 vl5 vc5, .slice vp6 vl6 vc6, .slice vp7 vl7 vc7, .slice vp8 vl8 vc8, .slice vp9 vl9 vc9, .slice vp10 vl10 vc10, .slice vp11 vl11 vc11] 62)
      replace R := hidden (R.out.keep hab)
      replace B := hidden (keepB B.out hab)
      clear hab
      obtain ⟨_, q0, q1, q2, f0, f1, f2⟩ := id R.out
      go_wp2
      exact bodyPost_ret (v := .agg #[.int .i64 4, .slice none 0 0, .slice none 0 0]) (by simp [results, Try.results10, go_sem, q0, q1, q2]) rfl ⟨Or.inl ⟨by rw [HA.out]; exact Or.inl (by decide), by rw [HA.out]⟩, ((B.out.setCell (by simp) _).setCell (by simp) _).setCell (by simp) _⟩
    · have HC := hidden (mtC_some HZ.out hn).1
      have HM := hidden (mtC_some HZ.out hn).2
      have HL := hidden (mtB_len HP.out HG.out hn)
      have hsl : SlV V := fun v hv => sliceV hpt hv
      have HPT := hidden hpt
      have hlt2 : b2 < w2.heap.size := J2.out.blk HG.out.pos
      clear hn
      unfold arr12
      obtain ⟨vp0, vl0, vc0, ve0⟩ := hsl 0 (by omega)
      obtain ⟨vp1, vl1, vc1, ve1⟩ := hsl 1 (by omega)
      obtain ⟨vp2, vl2, vc2, ve2⟩ := hsl 2 (by omega)
      obtain ⟨vp3, vl3, vc3, ve3⟩ := hsl 3 (by omega)
      obtain ⟨vp4, vl4, vc4, ve4⟩ := hsl 4 (by omega)
      obtain ⟨vp5, vl5, vc5, ve5⟩ := hsl 5 (by omega)
      obtain ⟨vp6, vl6, vc6, ve6⟩ := hsl 6 (by omega)
      obtain ⟨vp7, vl7, vc7, ve7⟩ := hsl 7 (by omega)
      obtain ⟨vp8, vl8, vc8, ve8⟩ := hsl 8 (by omega)
      obtain ⟨vp9, vl9, vc9, ve9⟩ := hsl 9 (by omega)
      obtain ⟨vp10, vl10, vc10, ve10⟩ := hsl 10 (by omega)
      obtain ⟨vp11, vl11, vc11, ve11⟩ := hsl 11 (by omega)
      rw [ve0, ve1, ve2, ve3, ve4, ve5, ve6, ve7, ve8, ve9, ve10, ve11]
      have hab := alloc_below w2 (.cells #[.slice vp0 vl0 vc0, .slice vp1 vl1 vc1, .slice vp2 vl2 vc2, .slice vp3 vl3 vc3, .slice vp4 vl4 vc4, .slice vp5 vl5 vc5, .slice vp6 vl6 vc6, .slice vp7 vl7 vc7, .slice vp8 vl8 vc8, .slice vp9 vl9 vc9, .slice vp10 vl10 vc10, .slice vp11 vl11 vc11] 62)
      have PX := hidden ((Pts.new w2 (twelveM (.slice vp0 vl0 vc0) (.slice vp1 vl1 vc1) (.slice vp2 vl2 vc2) (.slice vp3 vl3 vc3) (.slice vp4 vl4 vc4) (.slice vp5 vl5 vc5) (.slice vp6 vl6 vc6) (.slice vp7 vl7 vc7) (.slice vp8 vl8 vc8) (.slice vp9 vl9 vc9) (.slice vp10 vl10 vc10) (.slice vp11 vl11 vc11)) 62).congrM (twelveM_eq (V := V) ⟨ve0, ve1, ve2, ve3, ve4, ve5, ve6, ve7, ve8, ve9, ve10, ve11⟩))
      clear ve0 ve1 ve2 ve3 ve4 ve5 ve6 ve7 ve8 ve9 ve10 ve11 hsl hpt
      have ME := hidden (match1_mean w2.heap.size b2 M V (w2.alloc (.cells #[.slice vp0 vl0 vc0, .slice vp1 vl1 vc1, .slice vp2 vl2 vc2, .slice vp3 vl3 vc3, .slice vp4 vl4 vc4, .slice vp5 vl5 vc5, .slice vp6 vl6 vc6, .slice vp7 vl7 vc7, .slice vp8 vl8 vc8, .slice vp9 vl9 vc9, .slice vp10 vl10 vc10, .slice vp11 vl11 vc11] 62)) PX.out (HPT.out.keep hab) (by simp; omega))
      replace R := hidden (R.out.keep hab)
      replace B := hidden (keepB B.out hab)
      clear hab PX HPT
      go_wp2_with fail
      with_reducible refine (bindingBy_walk _ _ M _ ME.out HL.out).mono ?_
      rintro e w3 ⟨va, ta, rfl, ⟨Bb, Xb, hlo, hs, hnil⟩, hb⟩
      have hR := R.out.blk
      replace hlo : w.heap.size + 1 < Xb := Nat.lt_of_lt_of_le hR hlo
      replace R := hidden (R.out.keep hb)
      replace B := hidden (keepB B.out hb)
      have HS := hidden hs
      have HN := hidden hnil
      clear hb ME hR hs hnil
      by_cases h0 : cR M = 0
      · obtain ⟨rfl, rfl⟩ := HN.out h0
        have H0 := hidden h0
        clear h0
        obtain ⟨_, q0, q1, q2, f0, f1, f2⟩ := id R.out
        go_wp2
        exact bodyPost_ret (v := .agg #[.int .i64 0, .slice none 0 0, .slice none 0 0]) (by simp [results, Try.results10, go_sem, q0, q1, q2]) rfl ⟨Or.inl ⟨by rw [HM.out]; exact Or.inr H0.out, by rw [HC.out]⟩, ((B.out.setCell (by simp) _).setCell (by simp) _).setCell (by simp) _⟩
      · have hpos : 0 < cR M := by omega
        have hs := HS.out
        have BS := hidden hs
        have HL := hidden (And.intro hlo hpos)
        obtain ⟨g1, d1, g2, d2, rfl, rfl, -⟩ := hs.done hpos
        clear hs hlo h0 hpos
        obtain ⟨_, q0, q1, q2, f0, f1, f2⟩ := id R.out
        generalize hq : (cnL M 12).length = q at BS ⊢
        have HQ := hidden hq
        clear hq
        go_wp2
        have hlow := BS.out.low
        have hlo := HL.out.1
        have BF := ((BS.out.farY ⟨w.heap.size + 1, 0, none⟩ (.int .i64 0) (by show w.heap.size + 1 < _; omega) (by show Xb ≠ w.heap.size + 1; omega)).farY ⟨w.heap.size + 1, 1, none⟩ (.slice (some ⟨g1, 0, none⟩) q d1) (by show w.heap.size + 1 < _; omega) (by show Xb ≠ w.heap.size + 1; omega)).farY ⟨w.heap.size + 1, 2, none⟩ (.slice (some ⟨g2, 0, none⟩) q d2) (by show w.heap.size + 1 < _; omega) (by show Xb ≠ w.heap.size + 1; omega)
        obtain ⟨g3, d3, g4, d4, e1, e2, ho⟩ := BF.done HL.out.2
        rw [HQ.out] at e1 e2
        refine bodyPost_ret (v := .agg #[.int .i64 0, .slice (some ⟨g1, 0, none⟩) q d1, .slice (some ⟨g2, 0, none⟩) q d2]) (by simp [results, Try.results10, go_sem, q0, q1, q2]) rfl ⟨Or.inr ⟨HC.out, by rw [HM.out]; exact HL.out.2, Bb, g3, d3, g4, d4, ?_, by omega, by rw [HM.out]; exact ho⟩, ((B.out.setCell (by simp) _).setCell (by simp) _).setCell (by simp) _⟩
        rw [HM.out, show cR M = q from HQ.out, e1, e2]
  · have HA := hidden (mtC_bad hz)
    have HN := hidden hz
    have hz' : (sdF n N A m1 L1 m2 L2 != 0) = true := by simpa using hz
    generalize sdF n N A m1 L1 m2 L2 = z at *
    clear hz
    obtain ⟨_, q0, q1, q2, f0, f1, f2⟩ := id R.out
    go_wp2
    exact bodyPost_ret (v := .agg #[.int .i64 z, .slice none 0 0, .slice none 0 0]) (by simp [results, Try.results10, go_sem, q0, q1, q2]) rfl ⟨Or.inl ⟨by rw [HA.out]; exact Or.inl HN.out, by rw [HA.out]⟩, ((B.out.setCell (by simp) _).setCell (by simp) _).setCell (by simp) _⟩

end Go.Proofs.Ytenlogljpgdbpaa
