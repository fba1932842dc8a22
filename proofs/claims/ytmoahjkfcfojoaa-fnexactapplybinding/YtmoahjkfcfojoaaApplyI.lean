/- Contracts: what a binding binds, as the program's meaning tells it; ApplyBinding, as the program makes it. -/
import Derived.Test.YtmoahjkfcfojoaaApply
namespace Go.Proofs.Ytmoahjkfcfojoaa
open Go.RowKit

/-- The place, or -1. -/
def ixV (V : Nat → Int) (v : Int) (m : Nat) : Int := match bdI V v m with | some i => (i : Int) | none => -1

theorem ixV_some {V : Nat → Int} {v : Int} {m i : Nat} (h : bdI V v m = some i) : ixV V v m = i := by simp [ixV, h]
theorem ixV_none {V : Nat → Int} {v : Int} {m : Nat} (h : bdI V v m = none) : ixV V v m = -1 := by simp [ixV, h]

set_option maxRecDepth 20000 in
set_option maxHeartbeats 800000 in
theorem ixAt_any (b off m c : Nat) (V : Nat → Int) (v : Int) (w : World) (h : Ints w b off m V) (hm : m ≤ 1048576) :
    Calls Try.prog 98 #[.slice (some ⟨b, off, none⟩) m c, .int .i64 v] w fun e w' => e = .returned (.int .i64 (ixV V v m)) ∧ Below w.heap.size w w' := by
  go_enter Try.func98, Try.ntmps98
  go_wp2
  go_loopw [8] (fun i wr => ∃ k : Nat, k ≤ m ∧ i = .int .i64 k ∧ Hid (∀ j, j < k → V j ≠ v) ∧ wr = w) (fun i _ => m - (intOf i).toNat)
  case atStart => exact ⟨0, Nat.zero_le _, rfl, hidden (fun j hj => by omega), rfl⟩
  case round =>
    obtain ⟨k, hk, rfl, HE, rfl⟩ := hrel
    by_cases hlt : k < m
    · have c1 := h.cell k hlt
      by_cases hv : V k = v
      · have HR := hidden (ixV_some (bdI_first HE.out hv m hlt))
        rw [hv] at c1
        clear hv
        go_wp2
        go_ret
        exact ⟨by rw [HR.out]; rfl, Below.refl _ _⟩
      · have HV := hidden hv
        have hv' : (v == V k) = false := by simpa using (fun e => hv (Eq.symm e))
        clear hv
        go_wp2
        go_roundw
        case rel => exact ⟨k + 1, by omega, by go_num, hidden (fun j hj => by
          by_cases e : j = k
          · rw [e]; exact HV.out
          · exact HE.out j (by omega)), by trivial⟩
        case measure => simp [intOf]; omega
    · have HR := hidden (ixV_none (bdI_none (V := V) (v := v) m (fun i hi => HE.out i (by omega))))
      go_wp2
      go_ret
      exact ⟨by rw [HR.out]; rfl, Below.refl _ _⟩

set_option maxRecDepth 20000 in
set_option maxHeartbeats 800000 in
theorem meaning1_any (E b1 o1 m c1 b2 o2 c2 : Nat) (V : Nat → Int) (D : LsL) (v : Int) (w : World) (he : Two w E (.slice (some ⟨b1, o1, none⟩) m c1) (.slice (some ⟨b2, o2, none⟩) m c2)) (h1 : Ints w b1 o1 m V) (h2 : Mats w b2 o2 m D) (hm : m ≤ 1048576) :
    Calls Try.prog 97 #[.int .i64 v, .pointer (some ⟨E, 0, none⟩)] w fun e w' => (∃ p c, e = .returned (.slice p (bdM m V D v).length c) ∧ MayL w' p (bdM m V D v)) ∧ Below w.heap.size w w' := by
  have X := hidden he
  have I1 := hidden h1
  have I2 := hidden h2
  clear he h1 h2
  have x0 := X.out.c0
  go_enter Try.func97, Try.ntmps97
  go_wp2_with fail
  with_reducible refine (ixAt_any _ _ _ _ V v _ I1.out hm).mono ?_
  rintro e w1 ⟨rfl, hb⟩
  have B := hidden hb
  replace X := hidden (X.out.keep hb)
  replace I2 := hidden (I2.out.keep hb)
  clear hb x0 I1
  cases hd : bdI V v m with
  | none =>
    have HB := hidden (bdM_none (D := D) hd)
    rw [ixV_none hd]
    clear hd
    go_wp2
    go_ret
    exact ⟨⟨none, 0, by rw [HB.out]; rfl, Or.inl (by rw [HB.out]; rfl)⟩, B.out⟩
  | some i =>
    have HB := hidden (bdM_some (D := D) hd)
    have hi := (bdI_some m i hd).1
    rw [ixV_some hd]
    clear hd
    have x1 := X.out.c1
    obtain ⟨g, o, c, e1, i1, _⟩ := I2.out.row i hi
    have J := hidden i1
    clear i1
    go_wp2
    go_ret
    exact ⟨⟨_, _, by rw [HB.out, upto_length]; rfl, by rw [HB.out]; exact J.out.mayL⟩, B.out⟩

set_option maxRecDepth 20000 in
theorem enters_bn : Enters 97 := fun _ _ => rfl

theorem meaning1_mean (E b1 o1 m c1 b2 o2 c2 : Nat) (V : Nat → Int) (D : LsL) (w : World) (he : Two w E (.slice (some ⟨b1, o1, none⟩) m c1) (.slice (some ⟨b2, o2, none⟩) m c2)) (h1 : Ints w b1 o1 m V) (h2 : Mats w b2 o2 m D) (hm : m ≤ 1048576) : Mean 97 #[.pointer (some ⟨E, 0, none⟩)] (bdN m V D) w := by
  refine ⟨enters_bn, fun v w1 hv hb => ?_⟩
  exact meaning1_any E b1 o1 m c1 b2 o2 c2 V D (v : Int) w1 (he.keep hb) (h1.keep hb) (h2.keep hb) hm

set_option maxRecDepth 20000 in
set_option maxHeartbeats 400000 in
theorem meaningOf_any (b1 o1 m c1 b2 o2 c2 : Nat) (V : Nat → Int) (D : LsL) (w : World) (h1 : Ints w b1 o1 m V) (h2 : Mats w b2 o2 m D) (hm : m ≤ 1048576) :
    Calls Try.prog 56 #[.agg #[.slice (some ⟨b1, o1, none⟩) m c1, .slice (some ⟨b2, o2, none⟩) m c2]] w fun e w' => ∃ E, e = .returned (.func (Fn.func 97) #[] #[.pointer (some ⟨E, 0, none⟩)]) ∧ Mean 97 #[.pointer (some ⟨E, 0, none⟩)] (bdN m V D) w' ∧ Below w.heap.size w w' := by
  have X := hidden (Two.new w (.slice (some ⟨b1, o1, none⟩) m c1) (.slice (some ⟨b2, o2, none⟩) m c2) 36)
  have B := hidden (alloc_below w (.cells #[.slice (some ⟨b1, o1, none⟩) m c1, .slice (some ⟨b2, o2, none⟩) m c2] 36))
  have HM := hidden (meaning1_mean _ _ _ _ _ _ _ _ V D _ X.out (h1.keep B.out) (h2.keep B.out) hm)
  clear h1 h2
  go_enter Try.func56, Try.ntmps56
  go_wp2
  go_ret
  exact ⟨_, rfl, HM.out, B.out⟩

set_option maxRecDepth 20000 in
set_option maxHeartbeats 3200000 in
theorem implApply_any (b off n c b1 o1 m c1 b2 o2 t c2 b' off' k c' : Nat) (N : Nat → ByteArray) (A V : Nat → Int) (D : LsL) (T : Nat → Int) (w : World) (h : Syms w b off n N A) (h1 : Ints w b1 o1 m V) (h2 : Mats w b2 o2 t D) (h' : Ints w b' off' k T) (hk : Kept n N A) (hm : m ≤ 1048576) (hk' : KeptM t D) (hk2 : k ≤ 1048576) :
    Calls Try.prog 20 #[.agg #[.slice (some ⟨b, off, none⟩) n c], .agg #[.slice (some ⟨b1, o1, none⟩) m c1, .slice (some ⟨b2, o2, none⟩) t c2], .slice (some ⟨b', off', none⟩) k c'] w fun e w' => ListAns w (apC n N A m V t D k T) (putL (bdN m V D) T k).length (fun i => (putL (bdN m V D) T k).getD i 0) e w' ∧ Below w.heap.size w w' := by
  have X := hidden (One.new w (.slice (some ⟨b, off, none⟩) n c) 34)
  have B := hidden (alloc_below w (.cells #[.slice (some ⟨b, off, none⟩) n c] 34))
  obtain ⟨wa, hwa⟩ : ∃ wa, wa = w.alloc (.cells #[.slice (some ⟨b, off, none⟩) n c] 34) := ⟨_, rfl⟩
  have sa : wa.heap.size = w.heap.size + 1 := by rw [hwa]; simp
  rw [← hwa] at X B
  have Y := hidden (Two.new wa (.slice (some ⟨b1, o1, none⟩) m c1) (.slice (some ⟨b2, o2, none⟩) t c2) 36)
  have hb1 := alloc_below wa (.cells #[.slice (some ⟨b1, o1, none⟩) m c1, .slice (some ⟨b2, o2, none⟩) t c2] 36)
  obtain ⟨wb, hwb⟩ : ∃ wb, wb = wa.alloc (.cells #[.slice (some ⟨b1, o1, none⟩) m c1, .slice (some ⟨b2, o2, none⟩) t c2] 36) := ⟨_, rfl⟩
  have sb : wb.heap.size = w.heap.size + 1 + 1 := by rw [hwb]; simp [sa]
  rw [← hwb] at Y hb1
  have R := hidden (Res.new wb (.int .i64 0) (.slice none 0 0) 42)
  have hb2 := alloc_below wb (.cells #[.int .i64 0, .slice none 0 0] 42)
  replace X := hidden ((X.out.keep hb1).keep hb2)
  replace Y := hidden (Y.out.keep hb2)
  replace B := hidden (keepB (keepB B.out hb1) hb2)
  rw [sa] at Y
  rw [sb] at R
  rw [hwb, hwa] at X Y R B
  clear hb1 hb2 sa sb hwa hwb wa wb
  have Q := hidden (h.keep B.out)
  have I1 := hidden (h1.keep B.out)
  have I2 := hidden (h2.keep B.out)
  have I := hidden (h'.keep B.out)
  have HK := hidden hk
  have HK' := hidden hk'
  clear h h1 h2 h' hk hk'
  generalize hP : putL (bdN m V D) T k = P
  generalize hU : (fun i => P.getD i 0) = U
  generalize hK : P.length = K
  have HP := hidden hP
  have HU := hidden hU
  have HKK := hidden hK
  clear hP hU hK
  have x0 := X.out.c0
  have y0 := Y.out.c0
  have y1 := Y.out.c1
  go_enter Try.func20, Try.ntmps20
  go_wp2_with fail
  with_reducible refine (implBn_any _ _ _ _ _ _ _ _ _ _ _ _ N A V D _ Q.out I1.out I2.out HK.out hm HK'.out).mono ?_
  rintro e w1 ⟨rfl, hb⟩
  replace X := hidden (X.out.keep hb)
  replace Y := hidden (Y.out.keep hb)
  replace R := hidden (R.out.keep hb)
  replace B := hidden (keepB B.out hb)
  replace I1 := hidden (I1.out.keep hb)
  replace I2 := hidden (I2.out.keep hb)
  replace I := hidden (I.out.keep hb)
  replace Q := hidden (Q.out.keep hb)
  clear hb x0 y0 y1
  by_cases hf : bnF n N A m V t D = 0
  · have HF := hidden hf
    obtain ⟨rfl, hbn⟩ := bn_ok hf
    have HBN := hidden hbn
    have HS := hidden (fault_sound (bn_sig hf))
    rw [hf]
    clear hf hbn
    have HTL := hidden (term_l (m := k) (T := T) (bn_sig HF.out))
    have x0 := X.out.c0
    go_wp2_with fail
    with_reducible refine (implTerm_any _ _ _ _ _ _ _ _ N A T _ Q.out I.out HK.out hk2).mono ?_
    rw [HTL.out]
    rintro e w2 ⟨rfl, hb⟩
    replace Y := hidden (Y.out.keep hb)
    replace R := hidden (R.out.keep hb)
    replace B := hidden (keepB B.out hb)
    replace I1 := hidden (I1.out.keep hb)
    replace I2 := hidden (I2.out.keep hb)
    replace I := hidden (I.out.keep hb)
    clear hb X Q x0
    by_cases hl : lF n A k T = 0
    · have HA := hidden (ap_put HF.out hl)
      have HT := hidden (lF_right HS.out hl)
      rw [hl]
      clear hl
      rw [HP.out, HKK.out] at HA
      have y0 := Y.out.c0
      have y1 := Y.out.c1
      go_wp2_with fail
      with_reducible refine (meaningOf_any _ _ _ _ _ _ _ V D _ I1.out I2.out hm).mono ?_
      rintro e w3 ⟨E, rfl, hmn, hb⟩
      have S := hidden (putIn_any _ _ _ _ _ _ c' T _ hmn (I.out.keep hb) HT.out.pos HT.out.nods.most (fun i hi => by rcases nodeB_cases (HT.out.nods.node i hi) with ⟨j, e, hj⟩ | hv <;> omega) (fun v => bdM_len (bn_few HBN.out HS.out) (v : Int)))
      rw [HP.out, HKK.out, HU.out] at S
      replace R := hidden (R.out.keep hb)
      replace B := hidden (keepB B.out hb)
      clear hb hmn y0 y1 Y I1 I2 I
      rw [← HA.out] at S
      go_wp2_with fail
      with_reducible refine S.out.mono ?_
      rintro e w4 ⟨ha, hb⟩
      clear S
      rcases ha with ⟨hc, rfl⟩ | ⟨hc, g, d, rfl, hg, ho⟩
      · have HC := hidden hc
        replace R := hidden (R.out.keep hb)
        replace B := hidden (keepB B.out hb)
        clear hb hc
        generalize hAC : apC n N A m V m D k T = C at *
        have HAC := hidden hAC
        clear hAC
        obtain ⟨_, q0, q1, f0, f1⟩ := id R.out
        go_wp2
        exact bodyPost_ret (v := .agg #[.int .i64 C, .slice none 0 0]) (by simp [results, Try.results20, go_sem, q0, q1]) rfl ⟨Or.inl ⟨by rw [HAC.out]; exact HC.out, by rw [HAC.out]⟩, (B.out.setCell (by simp; omega) _).setCell (by simp; omega) _⟩
      · have HC := hidden hc
        have RB := hidden (Nat.lt_of_lt_of_le R.out.blk hg)
        replace R := hidden (R.out.keep hb)
        replace B := hidden (keepB B.out hb)
        have O := hidden ho
        clear hb hc hg ho
        obtain ⟨_, q0, q1, f0, f1⟩ := id R.out
        go_wp2
        have rb := RB.out
        refine bodyPost_ret (v := .agg #[.int .i64 0, .slice (some ⟨g, 0, none⟩) K d]) (by simp [results, Try.results20, go_sem, q0, q1]) rfl ⟨Or.inr ⟨HC.out, g, d, rfl, by omega, ?_⟩, (B.out.setCell (by simp; omega) _).setCell (by simp; omega) _⟩
        exact ((O.out.other _ _ (by show g ≠ w.heap.size + 1 + 1; omega)).other _ _ (by show g ≠ w.heap.size + 1 + 1; omega)).base (by omega)
    · have HA := hidden (ap_term HF.out hl)
      have HN := hidden hl
      have hl' : (lF n A k T != 0) = true := by simpa using hl
      generalize lF n A k T = z at *
      clear hl
      obtain ⟨_, q0, q1, f0, f1⟩ := id R.out
      go_wp2
      exact bodyPost_ret (v := .agg #[.int .i64 z, .slice none 0 0]) (by simp [results, Try.results20, go_sem, q0, q1]) rfl ⟨Or.inl ⟨by rw [HA.out]; exact HN.out, by rw [HA.out]⟩, (B.out.setCell (by simp; omega) _).setCell (by simp; omega) _⟩
  · have HA := hidden (ap_fault (k := k) (T := T) hf)
    have HN := hidden hf
    have hf' : (bnF n N A m V t D != 0) = true := by simpa using hf
    generalize bnF n N A m V t D = z at *
    clear hf
    obtain ⟨_, q0, q1, f0, f1⟩ := id R.out
    go_wp2
    exact bodyPost_ret (v := .agg #[.int .i64 z, .slice none 0 0]) (by simp [results, Try.results20, go_sem, q0, q1]) rfl ⟨Or.inl ⟨by rw [HA.out]; exact HN.out, by rw [HA.out]⟩, (B.out.setCell (by simp; omega) _).setCell (by simp; omega) _⟩

theorem ap_len {n : Nat} {N : Nat → ByteArray} {A : Nat → Int} {m : Nat} {V : Nat → Int} {t : Nat} {D : LsL} {k : Nat} {T : Nat → Int} (h : apC n N A m V t D k T = 0) : (putL (bdN m V D) T k).length ≤ 24 := by
  by_cases hf : bnF n N A m V t D = 0
  · by_cases hl : lF n A k T = 0
    · rw [ap_put hf hl] at h
      by_cases h2 : 24 < (putL (bdN m V D) T k).length
      · rw [if_pos h2] at h; cases h
      · omega
    · rw [ap_term hf hl] at h; exact absurd h hl
  · rw [ap_fault hf] at h; exact absurd h hf

end Go.Proofs.Ytmoahjkfcfojoaa
