/- Contracts: AlgebraFault of the program. -/
import Derived.Test.YtdcngfdklpdpkaaAlgF
namespace Go.Proofs.Ytdcngfdklpdpkaa
open Go.RowKit

def outV (z x : Int) : Bool := decide (x < 0 ∨ z ≤ x)

set_option maxRecDepth 20000 in
set_option maxHeartbeats 400000 in
theorem outV_any (b : Nat) (x z : Int) (w : World) (h : One w b (.int .i64 z)) :
    Calls Try.prog 90 #[.int .i64 x, .pointer (some ⟨b, 0, none⟩)] w fun e w' => e = .returned (.bool (outV z x)) ∧ Below w.heap.size w w' := by
  have c0 := h.c0
  by_cases h1 : x < 0
  · have HR := hidden (show outV z x = true by unfold outV; simp; exact Or.inl h1)
    go_enter Try.func90, Try.ntmps90
    go_wp2
    go_ret
    exact ⟨by rw [HR.out]; rfl, Below.refl _ _⟩
  · have HR := hidden (show outV z x = decide (z ≤ x) by unfold outV; simp; omega)
    by_cases h2 : z ≤ x
    · rw [decide_eq_true h2] at HR
      go_enter Try.func90, Try.ntmps90
      go_wp2
      go_ret
      exact ⟨by rw [HR.out]; rfl, Below.refl _ _⟩
    · rw [decide_eq_false h2] at HR
      go_enter Try.func90, Try.ntmps90
      go_wp2
      go_ret
      exact ⟨by rw [HR.out]; rfl, Below.refl _ _⟩

theorem outB_true {z : Int} {m : Nat} {L : Nat → Int} {k : Nat} (hk : k < m) (h : outV z (L k) = true) : outB z m L = true := by
  unfold outB
  simp only [decide_eq_true_eq]
  unfold outV at h
  simp only [decide_eq_true_eq] at h
  exact ⟨k, hk, by omega⟩
theorem outB_false {z : Int} {m : Nat} {L : Nat → Int} (h : ∀ i, i < m → outV z (L i) = false) : outB z m L = false := by
  unfold outB
  simp only [decide_eq_false_iff_not]
  rintro ⟨i, hi, e⟩
  have := h i hi
  unfold outV at this
  simp only [decide_eq_false_iff_not] at this
  omega

set_option maxRecDepth 20000 in
set_option maxHeartbeats 800000 in
theorem indexV_any (b off m c bx : Nat) (L : Nat → Int) (z : Int) (w : World) (h : Ints w b off m L) (hm : m ≤ 1048576) (h1 : One w bx (.int .i64 z)) :
    Calls Try.prog 91 #[.slice (some ⟨b, off, none⟩) m c, .func (Fn.func 90) #[] #[.pointer (some ⟨bx, 0, none⟩)]] w fun e w' => (∃ r : Int, e = .returned (.int .i64 r) ∧ (decide (0 ≤ r) = outB z m L)) ∧ Below w.heap.size w w' := by
  have H := hidden h
  have H1 := hidden h1
  clear h h1
  go_enter Try.func91, Try.ntmps91
  go_wp2_with fail
  go_loopw [8] (fun i wr => ∃ k : Nat, k ≤ m ∧ i = .int .i64 k ∧ Hid (∀ i, i < k → outV z (L i) = false) ∧ Hid (Below w.heap.size w wr)) (fun i _ => m - (intOf i).toNat)
  case atStart => exact ⟨0, Nat.zero_le _, rfl, hidden (fun i hi => by omega), hidden (Below.refl _ _)⟩
  case round =>
    obtain ⟨k, hk, rfl, HE, HB⟩ := hrel
    by_cases hlt : k < m
    · have c1 := (H.out.keep HB.out).cell k hlt
      go_wp2_with fail
      with_reducible refine (outV_any _ _ _ _ (H1.out.keep HB.out)).mono ?_
      rintro e w1 ⟨rfl, hb⟩
      have B1 := hidden (keepB HB.out hb)
      clear hb c1 HB
      generalize hz : outV z (L k) = ib
      cases ib
      · have HR := hidden hz
        clear hz
        go_wp2
        go_roundw
        case rel => exact ⟨k + 1, by omega, by go_num, hidden (fun j hj => by
          by_cases e : j = k
          · rw [e]; exact HR.out
          · exact HE.out j (by omega)), B1⟩
        case measure => simp [intOf]; omega
      · have HR := hidden (outB_true hlt hz)
        clear hz
        go_wp2
        go_ret
        exact ⟨⟨_, rfl, by rw [HR.out]; simp⟩, B1.out⟩
    · have HR := hidden (outB_false (z := z) (m := m) (L := L) (fun i hi => HE.out i (by omega)))
      go_wp2
      go_ret
      exact ⟨⟨_, rfl, by rw [HR.out]; rfl⟩, HB.out⟩

set_option maxRecDepth 20000 in
set_option maxHeartbeats 400000 in
theorem containsV_any (p : Option Addr) (n c bx : Nat) (z : Bool) (w : World)
    (h : Calls Try.prog 91 #[.slice p n c, .func (Fn.func 90) #[] #[.pointer (some ⟨bx, 0, none⟩)]] w fun e w' => (∃ r : Int, e = .returned (.int .i64 r) ∧ (decide (0 ≤ r) = z)) ∧ Below w.heap.size w w') :
    Calls Try.prog 59 #[.slice p n c, .func (Fn.func 90) #[] #[.pointer (some ⟨bx, 0, none⟩)]] w fun e w' => e = .returned (.bool z) ∧ Below w.heap.size w w' := by
  have H := hidden h
  clear h
  go_enter Try.func59, Try.ntmps59
  go_wp2_with fail
  with_reducible refine H.out.mono ?_
  rintro e w1 ⟨⟨r, rfl, hr⟩, hb⟩
  have HR := hidden hr
  have B := hidden hb
  clear hr hb
  go_wp2
  go_ret
  exact ⟨by rw [← HR.out]; rfl, B.out⟩

set_option maxRecDepth 20000 in
set_option maxHeartbeats 800000 in
theorem areValues_any (b off m c : Nat) (L : Nat → Int) (z : Int) (w : World) (h : Ints w b off m L) (hm : m ≤ 1048576) :
    Calls Try.prog 58 #[.int .i64 z, .slice (some ⟨b, off, none⟩) m c] w fun e w' => e = .returned (.bool (!outB z m L)) ∧ Below w.heap.size w w' := by
  have X := hidden (One.new w (.int .i64 z) 2)
  have B := hidden (alloc_below w (.cells #[.int .i64 z] 2))
  have H := hidden (h.keep B.out)
  have HI := hidden (indexV_any b off m c _ L z _ H.out hm X.out)
  clear h
  go_enter Try.func58, Try.ntmps58
  go_wp2_with fail
  with_reducible refine (containsV_any _ _ _ _ _ _ HI.out).mono ?_
  rintro e w2 ⟨rfl, hb⟩
  replace B := hidden (keepB B.out hb)
  clear hb
  go_wp2
  go_ret
  exact ⟨rfl, B.out⟩

set_option maxRecDepth 20000 in
set_option maxHeartbeats 800000 in
theorem tableF_any (b off m c : Nat) (L : Nat → Int) (z x : Int) (k : Nat) (w : World) (h : Ints w b off m L) (hm : m ≤ 1048576) (hz : 1 ≤ z ∧ z ≤ 3) (hk : k ≤ 6) (hx : x = (k : Int)) :
    Calls Try.prog 46 #[.int .i64 z, .int .i64 x, .slice (some ⟨b, off, none⟩) m c] w fun e w' => e = .returned (.int .i64 (tabF z k m L)) ∧ Below w.heap.size w w' := by
  have H := hidden h
  subst hx
  clear h
  go_enter Try.func46, Try.ntmps46
  go_wp2_with fail
  with_reducible refine (power_any z k k _ hz hk rfl).mono ?_
  rintro e w1 ⟨rfl, hb⟩
  have B := hidden hb
  replace H := hidden (H.out.keep hb)
  clear hb
  obtain ⟨P, hP⟩ : ∃ P : Int, P = z ^ k := ⟨_, rfl⟩
  have HPP := hidden hP
  rw [← hP]
  clear hP
  by_cases hP : (m : Int) = P
  · have hPb : ((m : Int) != P) = false := by simp [hP]
    have HPD := hidden (hP.trans HPP.out)
    clear hP
    go_wp2_with fail
    with_reducible refine (areValues_any _ _ _ _ L z _ H.out hm).mono ?_
    rintro e w2 ⟨rfl, hb⟩
    replace B := hidden (keepB B.out hb)
    clear hb
    generalize ho : outB z m L = ob
    cases ob
    · have HR := hidden (tabF_ok HPD.out (by unfold outB at ho; simpa using ho))
      clear ho
      go_wp2
      go_ret
      exact ⟨by rw [HR.out]; rfl, B.out⟩
    · have HR := hidden (tabF_out HPD.out (by unfold outB at ho; simpa using ho))
      clear ho
      go_wp2
      go_ret
      exact ⟨by rw [HR.out]; rfl, B.out⟩
  · have hPb : ((m : Int) != P) = true := by simp [hP]
    have HR := hidden (tabF_many (L := L) (show (m : Int) ≠ z ^ k by rw [← HPP.out]; exact hP))
    clear hP
    go_wp2
    go_ret
    exact ⟨by rw [HR.out]; rfl, B.out⟩

set_option maxRecDepth 20000 in
set_option maxHeartbeats 400000 in
theorem isSize_any (z : Int) (w : World) :
    Calls Try.prog 45 #[.int .i64 z] w fun e w' => e = .returned (.bool (decide (1 ≤ z ∧ z ≤ 3))) ∧ Below w.heap.size w w' := by
  by_cases h1 : 1 ≤ z
  · by_cases h2 : z ≤ 3
    · rw [decide_eq_true (show 1 ≤ z ∧ z ≤ 3 by omega)]
      go_enter Try.func45, Try.ntmps45
      go_wp2
      go_ret
      exact ⟨rfl, Below.refl _ _⟩
    · rw [decide_eq_false (show ¬ (1 ≤ z ∧ z ≤ 3) by omega)]
      go_enter Try.func45, Try.ntmps45
      go_wp2
      go_ret
      exact ⟨rfl, Below.refl _ _⟩
  · rw [decide_eq_false (show ¬ (1 ≤ z ∧ z ≤ 3) by omega)]
    go_enter Try.func45, Try.ntmps45
    go_wp2
    go_ret
    exact ⟨rfl, Below.refl _ _⟩

set_option maxRecDepth 20000 in
set_option maxHeartbeats 3200000 in
theorem implAlg_any (b off n c b2 o2 m c2 : Nat) (N : Nat → ByteArray) (A : Nat → Int) (z : Int) (D : LsL) (w : World) (h : Syms w b off n N A) (h2 : Mats w b2 o2 m D) (hk : Kept n N A) (hm : KeptM m D) :
    Calls Try.prog 13 #[.agg #[.slice (some ⟨b, off, none⟩) n c], .agg #[.int .i64 z, .slice (some ⟨b2, o2, none⟩) m c2]] w fun e w' => e = .returned (.int .i64 (algF n N A z m D)) ∧ Below w.heap.size w w' := by
  have HK := hidden hk
  have HM := hidden hm
  have hmm := hm.most
  have hnn := hk.most
  have X := hidden ((One.new w (.slice (some ⟨b, off, none⟩) n c) 33).keep (alloc_below _ (.cells #[.int .i64 z, .slice (some ⟨b2, o2, none⟩) m c2] 35)))
  have Y := hidden (Two.new (w.alloc (.cells #[.slice (some ⟨b, off, none⟩) n c] 33)) (.int .i64 z) (.slice (some ⟨b2, o2, none⟩) m c2) 35)
  have B := hidden (keepB (alloc_below w (.cells #[.slice (some ⟨b, off, none⟩) n c] 33)) (alloc_below _ (.cells #[.int .i64 z, .slice (some ⟨b2, o2, none⟩) m c2] 35)))
  rw [World.size_alloc] at Y
  have Q := hidden (h.keep B.out)
  have T := hidden (h2.keep B.out)
  clear h h2 hk hm
  go_enter Try.func13, Try.ntmps13
  go_wp2_with fail
  with_reducible refine (implFault_all _ _ _ _ N A _ Q.out HK.out).mono ?_
  rintro e w1 ⟨rfl, hb⟩
  replace X := hidden (X.out.keep hb)
  replace Y := hidden (Y.out.keep hb)
  replace B := hidden (keepB B.out hb)
  replace Q := hidden (Q.out.keep hb)
  replace T := hidden (T.out.keep hb)
  clear hb
  by_cases hf : faultF n N A = 0
  · have HF := hidden hf
    rw [hf]
    clear hf
    have y0 := Y.out.c0
    have y1 := Y.out.c1
    have x0 := X.out.c0
    go_wp2_with fail
    with_reducible refine (isSize_any _ _).mono ?_
    rintro e w2 ⟨rfl, hb⟩
    replace X := hidden (X.out.keep hb)
    replace Y := hidden (Y.out.keep hb)
    replace B := hidden (keepB B.out hb)
    replace Q := hidden (Q.out.keep hb)
    replace T := hidden (T.out.keep hb)
    clear hb y0 y1 x0
    have y0 := Y.out.c0
    have y1 := Y.out.c1
    have x0 := X.out.c0
    by_cases hz : 1 ≤ z ∧ z ≤ 3
    · have HZ := hidden hz
      rw [decide_eq_true hz]
      clear hz
      by_cases hmn : m = n
      · subst hmn
        have HR := hidden (algF_tabs (D := D) HF.out HZ.out)
        have hmi : ((m : Int) != (m : Int)) = false := by simp
        go_wp2
        go_loopw [28] (fun i wr => ∃ k : Nat, k ≤ m ∧ i = .int .i64 k ∧ Hid (afT z A D k = 0) ∧ Hid (Below w2.heap.size w2 wr)) (fun i _ => m - (intOf i).toNat)
        case atStart => exact ⟨0, Nat.zero_le _, rfl, hidden rfl, hidden (Below.refl _ _)⟩
        case round =>
          obtain ⟨k, hk, rfl, HE, HB⟩ := hrel
          clear y0 y1 x0
          by_cases hlt : k < m
          · obtain ⟨g, o, ck, e1, e2, e3⟩ := (T.out.keep HB.out).cells hlt
            have I1 := hidden e2
            have HA := hidden ((fault_sound HF.out).arity k hlt)
            have HDm := hidden (HM.out.le hlt)
            obtain ⟨C, hC⟩ : ∃ C : Int, C = tabF z (A k).toNat (D.m k) (D.L k) := ⟨_, rfl⟩
            have HC := hidden hC
            have S1 := hidden (show ∀ wc, Below wr.heap.size wr wc → Calls Try.prog 46 #[.int .i64 z, .int .i64 (A k), .slice (some ⟨g, o, none⟩) (D.m k) ck] wc fun e w' => e = .returned (.int .i64 C) ∧ Below wr.heap.size wr w' ∧ w'.cell? ⟨w.heap.size, 0, none⟩ = some (.slice (some ⟨b, off, none⟩) m c) ∧ w'.cell? ⟨w.heap.size + 1, 0, none⟩ = some (.int .i64 z) ∧ w'.cell? ⟨b, off + k * 2 + 1, none⟩ = some (.int .i64 (A k)) from fun wc hc => by
              refine (tableF_any g o (D.m k) ck (D.L k) z (A k) (A k).toNat wc (I1.out.keep hc) HDm.out HZ.out (by have := HA.out; omega) (by have := HA.out; omega)).mono ?_
              rintro e w' ⟨rfl, hb⟩
              have hb2 := keepB HB.out (keepB hc hb)
              exact ⟨by rw [HC.out], keepB hc hb, (X.out.keep hb2).c0, (Y.out.keep hb2).c0, (Q.out.keep hb2).arity k hlt⟩)
            have x0 := (X.out.keep HB.out).c0
            have y0 := (Y.out.keep HB.out).c0
            have a0 := (Q.out.keep HB.out).arity k hlt
            clear hC e2
            go_wp2_with fail
            go_cut [8] (fun t wc => t = .int .i64 C ∧ Below wr.heap.size wr wc)
            case first =>
              go_region_held3 (fun wz => wz.cell? ⟨w.heap.size, 0, none⟩ = some (.slice (some ⟨b, off, none⟩) m c) ∧ wz.cell? ⟨w.heap.size + 1, 0, none⟩ = some (.int .i64 z) ∧ wz.cell? ⟨b, off + k * 2 + 1, none⟩ = some (.int .i64 (A k))) (first | exact ⟨by assumption, by assumption, by assumption⟩ | go_keep) (first
                | (go_at_call 46; with_reducible refine (S1.out _ ?_).mono ?_; exact (Below.refl _ _).drew; rintro e v5 ⟨rfl, b5', q0', q1', q2'⟩))
              all_goals (go_wp2_with fail; go_meet)
              all_goals exact ⟨rfl, b5'⟩
            case rest =>
              rename World => w3
              obtain ⟨rfl, hb⟩ := hcut
              have B3 := hidden (keepB HB.out hb)
              clear x0 y0 a0 e1 hb S1
              by_cases hC : C = 0
              · have HE2 := hidden (afT_next HE.out (HC.out.symm.trans hC))
                have hCb : (C != 0) = false := by simp [hC]
                clear hC
                go_wp2
                go_roundw
                case rel => exact ⟨k + 1, by omega, by go_num, HE2, B3⟩
                case measure => simp [intOf]; omega
              · have HR2 := hidden (HR.out.trans (afT_at HE.out hlt HC.out.symm hC))
                have hCb : (C != 0) = true := by simp [hC]
                clear hC
                go_wp2
                go_ret
                exact ⟨by rw [HR2.out]; rfl, keepB B.out B3.out⟩
          · obtain rfl : k = m := by omega
            go_wp2
            go_ret
            exact ⟨by rw [HR.out, HE.out]; rfl, keepB B.out HB.out⟩
      · have HR := hidden (show algF n N A z m D = 2 by rw [algF, if_neg (by simp [HF.out]), if_neg (by simp [HZ.out]), if_pos hmn])
        have hmi : ((m : Int) != (n : Int)) = true := by simp; omega
        go_wp2
        go_ret
        exact ⟨by rw [HR.out]; rfl, B.out⟩
    · have HR := hidden (show algF n N A z m D = 3 by rw [algF, if_neg (by simp [HF.out]), if_pos hz])
      rw [decide_eq_false hz]
      clear hz
      go_wp2
      go_ret
      exact ⟨by rw [HR.out]; rfl, B.out⟩
  · have HR := hidden (show algF n N A z m D = faultF n N A by rw [algF, if_pos hf])
    have hc : (faultF n N A != 0) = true := by simpa using hf
    generalize faultF n N A = q at *
    go_wp2
    go_ret
    exact ⟨by rw [HR.out]; rfl, B.out⟩

end Go.Proofs.Ytdcngfdklpdpkaa
