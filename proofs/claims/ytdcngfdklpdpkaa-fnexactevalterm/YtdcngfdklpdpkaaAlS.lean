/- EvalTerm: what it tells; the model's side. -/
import Derived.Test.YtdcngfdklpdpkaaAlE
import Derived.Test.YtdcngfdklpdpkaaEqnF
namespace Go.Proofs.Ytdcngfdklpdpkaa
open Go.RowKit

open Classical in
/-- EvalTerm's code, and the value. -/
noncomputable def etC (n : Nat) (N : Nat → ByteArray) (A : Nat → Int) (z : Int) (mt : Nat) (D : LsL) (k : Nat) (V : Nat → Int) (m : Nat) (T : Nat → Int) : Int :=
  if algF n N A z mt D ≠ 0 then algF n N A z mt D else if termF n N A m T ≠ 0 then termF n N A m T else if k ≠ 6 then 2 else if outT z 6 V then 3 else if lowB m T = false then 3 else 0
noncomputable def etV (n : Nat) (N : Nat → ByteArray) (A : Nat → Int) (z : Int) (mt : Nat) (D : LsL) (k : Nat) (V : Nat → Int) (m : Nat) (T : Nat → Int) : Int :=
  if etC n N A z mt D k V m T = 0 then evV A T z D V m 0 else 0

section
variable {n : Nat} {N : Nat → ByteArray} {A : Nat → Int} {z : Int} {mt : Nat} {D : LsL} {k : Nat} {V : Nat → Int} {m : Nat} {T : Nat → Int}
theorem et_alg (h : algF n N A z mt D ≠ 0) : etC n N A z mt D k V m T = algF n N A z mt D ∧ etV n N A z mt D k V m T = 0 := by
  have e : etC n N A z mt D k V m T = algF n N A z mt D := by rw [etC, if_pos h]
  exact ⟨e, by rw [etV, e, if_neg h]⟩
theorem et_term (h : algF n N A z mt D = 0) (h1 : termF n N A m T ≠ 0) : etC n N A z mt D k V m T = termF n N A m T ∧ etV n N A z mt D k V m T = 0 := by
  have e : etC n N A z mt D k V m T = termF n N A m T := by rw [etC, if_neg (by simp [h]), if_pos h1]
  exact ⟨e, by rw [etV, e, if_neg h1]⟩
theorem et_many (h : algF n N A z mt D = 0) (h1 : termF n N A m T = 0) (h2 : k ≠ 6) : etC n N A z mt D k V m T = 2 ∧ etV n N A z mt D k V m T = 0 := by
  have e : etC n N A z mt D k V m T = 2 := by rw [etC, if_neg (by simp [h]), if_neg (by simp [h1]), if_pos h2]
  exact ⟨e, by rw [etV, e, if_neg (by decide)]⟩
theorem et_out (h : algF n N A z mt D = 0) (h1 : termF n N A m T = 0) (h2 : k = 6) (h3 : outT z 6 V) : etC n N A z mt D k V m T = 3 ∧ etV n N A z mt D k V m T = 0 := by
  have e : etC n N A z mt D k V m T = 3 := by rw [etC, if_neg (by simp [h]), if_neg (by simp [h1]), if_neg (by simp [h2]), if_pos h3]
  exact ⟨e, by rw [etV, e, if_neg (by decide)]⟩
theorem et_bey (h : algF n N A z mt D = 0) (h1 : termF n N A m T = 0) (h2 : k = 6) (h3 : ¬ outT z 6 V) (h4 : lowB m T = false) : etC n N A z mt D k V m T = 3 ∧ etV n N A z mt D k V m T = 0 := by
  have e : etC n N A z mt D k V m T = 3 := by rw [etC, if_neg (by simp [h]), if_neg (by simp [h1]), if_neg (by simp [h2]), if_neg h3, if_pos h4]
  exact ⟨e, by rw [etV, e, if_neg (by decide)]⟩
theorem et_ok (h : algF n N A z mt D = 0) (h1 : termF n N A m T = 0) (h2 : k = 6) (h3 : ¬ outT z 6 V) (h4 : lowB m T = true) : etC n N A z mt D k V m T = 0 ∧ etV n N A z mt D k V m T = evV A T z D V m 0 := by
  have e : etC n N A z mt D k V m T = 0 := by rw [etC, if_neg (by simp [h]), if_neg (by simp [h1]), if_neg (by simp [h2]), if_neg h3, if_neg (by simp [h4])]
  exact ⟨e, by rw [etV, e, if_pos rfl]⟩
end

theorem vals_in {z : Int} {V : Nat → Int} (h : ¬ outT z 6 V) : ∀ j, j < 6 → 0 ≤ V j ∧ V j < z := fun j hj => by
  by_cases hb : 0 ≤ V j ∧ V j < z
  · exact hb
  · exact absurd ⟨j, hj, hb⟩ h
theorem low_in {m : Nat} {T : Nat → Int} (h : lowB m T = true) : ∀ i, i < m → -6 ≤ T i := by unfold lowB at h; simpa using h

set_option maxRecDepth 20000 in
set_option maxHeartbeats 6400000 in
theorem specEval_any (b off n c bt ot mt ct bv ov k cv b' off' m c' : Nat) (N : Nat → ByteArray) (A : Nat → Int) (z : Int) (D : LsL) (V T : Nat → Int) (w : World) (h : Syms w b off n N A) (ht : Mats w bt ot mt D) (hv : Ints w bv ov k V) (hi : Ints w b' off' m T) (hk : Kept n N A) (hkm : KeptM mt D) (hkv : k ≤ 1048576) (hm : m ≤ 1048576) :
    Calls Try.prog 22 #[.agg #[.slice (some ⟨b, off, none⟩) n c], .agg #[.int .i64 z, .slice (some ⟨bt, ot, none⟩) mt ct], .slice (some ⟨bv, ov, none⟩) k cv, .slice (some ⟨b', off', none⟩) m c'] w fun e w' => e = .returned (.agg #[.int .i64 (etC n N A z mt D k V m T), .int .i64 (etV n N A z mt D k V m T)]) ∧ Below w.heap.size w w' := by
  have bA := alloc_below w (.cells #[.slice (some ⟨b, off, none⟩) n c] 33)
  have bB := alloc_below (w.alloc (.cells #[.slice (some ⟨b, off, none⟩) n c] 33)) (.cells #[.int .i64 z, .slice (some ⟨bt, ot, none⟩) mt ct] 35)
  have bC := alloc_below ((w.alloc (.cells #[.slice (some ⟨b, off, none⟩) n c] 33)).alloc (.cells #[.int .i64 z, .slice (some ⟨bt, ot, none⟩) mt ct] 35)) (.cells #[.int .i64 0, .int .i64 0] 49)
  have x4 := (One.new w (.slice (some ⟨b, off, none⟩) n c) 33).keep (keepB bB bC)
  have x5 := (Two.new (w.alloc (.cells #[.slice (some ⟨b, off, none⟩) n c] 33)) (.int .i64 z) (.slice (some ⟨bt, ot, none⟩) mt ct) 35).keep bC
  have r8 := Res.new ((w.alloc (.cells #[.slice (some ⟨b, off, none⟩) n c] 33)).alloc (.cells #[.int .i64 z, .slice (some ⟨bt, ot, none⟩) mt ct] 35)) (.int .i64 0) (.int .i64 0) 49
  simp only [World.size_alloc] at x5 r8
  have bW := keepB bA (keepB bB bC)
  have X4 := hidden x4
  have X5 := hidden x5
  have R := hidden r8
  have B := hidden bW
  have Q := hidden (h.keep bW)
  have MT := hidden (ht.keep bW)
  have IV := hidden (hv.keep bW)
  have IT := hidden (hi.keep bW)
  have HK := hidden hk
  have HKM := hidden hkm
  have HS2 := hidden (show w.heap.size ≤ w.heap.size + 1 + 1 by omega)
  clear bA bB bC bW x4 x5 r8 h ht hv hi hk hkm
  go_enter Try.func22, Try.ntmps22
  go_wp2_with fail
  with_reducible refine (specAlg_any _ _ _ _ _ _ _ _ N A z D _ Q.out MT.out HK.out HKM.out).mono ?_
  rintro e w1 ⟨rfl, hb⟩
  replace X4 := hidden (X4.out.keep hb)
  replace X5 := hidden (X5.out.keep hb)
  replace R := hidden (R.out.keep hb)
  replace B := hidden (keepB B.out hb)
  replace Q := hidden (Q.out.keep hb)
  replace MT := hidden (MT.out.keep hb)
  replace IV := hidden (IV.out.keep hb)
  replace IT := hidden (IT.out.keep hb)
  clear hb
  by_cases ha : algF n N A z mt D = 0
  · have HA := hidden ha
    have HR0 := hidden (alg_right ha)
    have hmt := HR0.out.1
    subst hmt
    rw [ha]
    clear ha
    go_wp2_with fail
    with_reducible refine (l3Fault_all _ _ _ _ _ _ _ _ _ N A T _ X4.out Q.out IT.out HR0.out.2.sig hm).mono ?_
    rintro e w2 ⟨rfl, hb⟩
    replace X4 := hidden (X4.out.keep hb)
    replace X5 := hidden (X5.out.keep hb)
    replace R := hidden (R.out.keep hb)
    replace B := hidden (keepB B.out hb)
    replace Q := hidden (Q.out.keep hb)
    replace MT := hidden (MT.out.keep hb)
    replace IV := hidden (IV.out.keep hb)
    replace IT := hidden (IT.out.keep hb)
    clear hb
    have HTL := hidden (show termF mt N A m T = lF mt A m T from term_l (by
      by_cases hf : faultF mt N A = 0
      · exact hf
      · have := HA.out; rw [algF, if_pos hf] at this; exact absurd this hf))
    by_cases hl : lF mt A m T = 0
    · have HT0 := hidden (HTL.out.trans hl)
      have HTR := hidden (term_right HT0.out)
      rw [hl]
      clear hl
      by_cases h6 : k = 6
      · subst h6
        have h6' : ((6 : Int) != 6) = false := by decide
        go_wp2_with fail
        go_loopw [11] (fun i wr => ∃ j : Nat, j ≤ 6 ∧ i = .int .i64 j ∧ Hid (∀ i, i < j → 0 ≤ V i ∧ V i < z) ∧ Hid (Below w2.heap.size w2 wr)) (fun i _ => 6 - (intOf i).toNat)
        case atStart => exact ⟨0, Nat.zero_le _, rfl, hidden (fun i hi => by omega), hidden (Below.refl _ _)⟩
        case round =>
          obtain ⟨j, hj, rfl, HJ, HW⟩ := hrel
          by_cases hjl : j < 6
          · have y0 := (X5.out.keep HW.out).c0
            have i1 := (IV.out.keep HW.out).cell j hjl
            have hz := HR0.out.2.z1
            have hw : IntKind.i64.wrap (z - 1) = z - 1 := wrapA (by omega) (by omega)
            obtain ⟨v, hv⟩ : ∃ v, v = V j := ⟨_, rfl⟩
            have HV := hidden hv
            rw [← hv] at i1
            obtain ⟨bb, hbb⟩ : ∃ bb, bb = decide (0 ≤ v ∧ v ≤ z - 1) := ⟨_, rfl⟩
            have HBB := hidden hbb
            have S2 := hidden (show ∀ wc, Below wr.heap.size wr wc → Calls Try.prog 40 #[.int .i64 v, .int .i64 0, .int .i64 (z - 1)] wc fun e w' => e = .returned (.bool bb) ∧ Below wr.heap.size wr w' ∧ w'.cell? ⟨w.heap.size + 1, 0, none⟩ = some (.int .i64 z) ∧ w'.cell? ⟨bv, ov + j, none⟩ = some (.int .i64 v) from fun wc hc => by
              refine (l1In_any v 0 (z - 1) wc).mono ?_
              rintro e w' ⟨rfl, hb⟩
              have hb3 := keepB HW.out (keepB hc hb)
              refine ⟨by rw [HBB.out], keepB hc hb, (X5.out.keep hb3).c0, ?_⟩
              rw [HV.out]
              exact (IV.out.keep hb3).cell j hjl)
            clear hv hbb
            go_wp2_with fail
            go_cut [43] (fun t wc => t = .bool (!bb) ∧ Below wr.heap.size wr wc)
            case first =>
              go_region_held3 (fun wz => wz.cell? ⟨w.heap.size + 1, 0, none⟩ = some (.int .i64 z) ∧ wz.cell? ⟨bv, ov + j, none⟩ = some (.int .i64 v)) (first | exact ⟨by assumption, by assumption⟩ | go_keep) (first
                | (go_at_call 40; with_reducible refine (S2.out _ ?_).mono ?_; exact (Below.refl _ _).drew; rintro e v5 ⟨rfl, b5', q0', q1'⟩))
              all_goals (go_wp2_with fail; go_meet)
              all_goals exact ⟨rfl, b5'⟩
            case rest =>
              rename World => w4
              obtain ⟨rfl, hb⟩ := hcut
              have B5 := hidden (keepB HW.out hb)
              clear y0 i1 hb S2 hw
              cases bb with
              | true =>
                go_wp2
                go_roundw
                case rel => exact ⟨j + 1, by omega, by go_num, hidden (fun i hi => by
                  by_cases e : i = j
                  · have := of_decide_eq_true HBB.out.symm
                    rw [e, ← HV.out]; omega
                  · exact HJ.out i (by omega)), B5⟩
                case measure => simp [intOf]; omega
              | false =>
                have HE := hidden (et_out (V := V) HA.out HT0.out rfl ⟨j, hjl, by have := of_decide_eq_false HBB.out.symm; rw [← HV.out]; omega⟩)
                obtain ⟨_, q0, q1, f0, f1⟩ := R.out.keep B5.out
                go_wp2
                exact bodyPost_ret (v := .agg #[.int .i64 3, .int .i64 0]) (by simp [results, Try.results22, go_sem, q0, q1]) rfl ⟨by rw [HE.out.1, HE.out.2], ((keepB B.out B5.out).setCell HS2.out _).setCell HS2.out _⟩
          · obtain rfl : j = 6 := by omega
            have HO := hidden (show ¬ outT z 6 V from by rintro ⟨i, hi, h⟩; exact h (HJ.out i hi))
            have B3 := hidden HW.out
            replace X4 := hidden (X4.out.keep B3.out)
            replace X5 := hidden (X5.out.keep B3.out)
            replace R := hidden (R.out.keep B3.out)
            replace Q := hidden (Q.out.keep B3.out)
            replace MT := hidden (MT.out.keep B3.out)
            replace IV := hidden (IV.out.keep B3.out)
            replace IT := hidden (IT.out.keep B3.out)
            replace B := hidden (keepB B.out B3.out)
            clear B3 HW HJ
            go_wp2_with fail
            with_reducible refine (l4Low_any _ _ _ _ T _ IT.out hm).mono ?_
            rintro e w3 ⟨rfl, hb⟩
            replace X4 := hidden (X4.out.keep hb)
            replace X5 := hidden (X5.out.keep hb)
            replace R := hidden (R.out.keep hb)
            replace B := hidden (keepB B.out hb)
            replace Q := hidden (Q.out.keep hb)
            replace MT := hidden (MT.out.keep hb)
            replace IV := hidden (IV.out.keep hb)
            replace IT := hidden (IT.out.keep hb)
            clear hb
            generalize hlow : lowB m T = lb
            cases lb with
            | false =>
              have HE := hidden (et_bey HA.out HT0.out rfl HO.out hlow)
              obtain ⟨_, q0, q1, f0, f1⟩ := id R.out
              clear hlow
              go_wp2
              exact bodyPost_ret (v := .agg #[.int .i64 3, .int .i64 0]) (by simp [results, Try.results22, go_sem, q0, q1]) rfl ⟨by rw [HE.out.1, HE.out.2], (B.out.setCell HS2.out _).setCell HS2.out _⟩
            | true =>
              have HE := hidden (et_ok HA.out HT0.out rfl HO.out hlow)
              have S0 := l10Eval_any w.heap.size (w.heap.size + 1) b off mt c bt ot ct bv ov cv b' off' m c' N A T V z D HTR.out HR0.out.2 HKM.out (low_in hlow) (vals_in HO.out) m 0 (by omega) HTR.out.pos _ X4.out Q.out X5.out MT.out IV.out IT.out
              rw [show ((0 : Nat) : Int) = 0 from rfl] at S0
              have S := hidden S0
              clear hlow S0
              go_wp2_with fail
              with_reducible refine S.out.mono ?_
              rintro e w4 ⟨rfl, hb⟩
              have R4 := hidden (R.out.keep hb)
              have B4 := hidden (keepB B.out hb)
              obtain ⟨_, q0, q1, f0, f1⟩ := id R4.out
              clear hb S
              generalize evV A T z D V m 0 = x at *
              go_wp2
              exact bodyPost_ret (v := .agg #[.int .i64 0, .int .i64 x]) (by simp [results, Try.results22, go_sem, q0, q1]) rfl ⟨by rw [HE.out.1, HE.out.2], (B4.out.setCell HS2.out _).setCell HS2.out _⟩
      · have HE := hidden (et_many (V := V) HA.out HT0.out h6)
        have h6' : ((k : Int) != 6) = true := by simp; omega
        obtain ⟨_, q0, q1, f0, f1⟩ := id R.out
        go_wp2
        exact bodyPost_ret (v := .agg #[.int .i64 2, .int .i64 0]) (by simp [results, Try.results22, go_sem, q0, q1]) rfl ⟨by rw [HE.out.1, HE.out.2], (B.out.setCell HS2.out _).setCell HS2.out _⟩
    · have HE := hidden (et_term (k := k) (V := V) HA.out (show termF mt N A m T ≠ 0 by rw [HTL.out]; exact hl))
      rw [HTL.out] at HE
      have hc : (lF mt A m T != 0) = true := by simpa using hl
      clear hl
      generalize lF mt A m T = q at *
      obtain ⟨_, q0, q1, f0, f1⟩ := id R.out
      go_wp2
      exact bodyPost_ret (v := .agg #[.int .i64 q, .int .i64 0]) (by simp [results, Try.results22, go_sem, q0, q1]) rfl ⟨by rw [HE.out.1, HE.out.2], (B.out.setCell HS2.out _).setCell HS2.out _⟩
  · have HE := hidden (et_alg (k := k) (V := V) (m := m) (T := T) ha)
    have hc : (algF n N A z mt D != 0) = true := by simpa using ha
    clear ha
    generalize algF n N A z mt D = q at *
    obtain ⟨_, q0, q1, f0, f1⟩ := id R.out
    go_wp2
    exact bodyPost_ret (v := .agg #[.int .i64 q, .int .i64 0]) (by simp [results, Try.results22, go_sem, q0, q1]) rfl ⟨by rw [HE.out.1, HE.out.2], (B.out.setCell HS2.out _).setCell HS2.out _⟩

end Go.Proofs.Ytdcngfdklpdpkaa
