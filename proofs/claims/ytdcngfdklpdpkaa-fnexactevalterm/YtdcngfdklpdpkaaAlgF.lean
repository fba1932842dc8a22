/- Contracts: AlgebraFault on both sides. -/
import Derived.Test.YtdcngfdklpdpkaaAlg
import Derived.Test.YtdcngfdklpdpkaaImplFault
import Derived.Test.YtdcngfdklpdpkaaTermF
import Derived.Deep.RegionHeld3
namespace Go.Proofs.Ytdcngfdklpdpkaa
open Go.RowKit

theorem wrapA {z : Int} (h0 : 0 ≤ z) (h1 : z ≤ 1048576) : IntKind.i64.wrap z = z := by
  have e : z % 18446744073709551616 = z := Int.emod_eq_of_lt h0 (by omega)
  have h2 : ¬ (9223372036854775808 : Int) ≤ z := by omega
  simp [IntKind.wrap, IntKind.bits, IntKind.signed, e, h2]

theorem KeptM.le {n : Nat} {D : LsL} (h : KeptM n D) {k : Nat} (hk : k < n) : D.m k ≤ 1048576 := h.m k hk

theorem pow_sz {z : Int} (hz : 1 ≤ z ∧ z ≤ 3) : ∀ k : Nat, k ≤ 6 → 1 ≤ z ^ k ∧ z ^ k ≤ 729 := fun k hk => by
  obtain rfl | rfl | rfl : z = 1 ∨ z = 2 ∨ z = 3 := by omega
  all_goals
    obtain rfl | rfl | rfl | rfl | rfl | rfl | rfl : k = 0 ∨ k = 1 ∨ k = 2 ∨ k = 3 ∨ k = 4 ∨ k = 5 ∨ k = 6 := by omega
    all_goals decide

set_option maxRecDepth 20000 in
set_option maxHeartbeats 400000 in
theorem l10Pow_any (z : Int) (hz : 1 ≤ z ∧ z ≤ 3) : ∀ (k : Nat) (x : Int) (w : World), k ≤ 6 → x = (k : Int) →
    Calls Try.prog 41 #[.int .i64 z, .int .i64 x] w fun e w' => e = .returned (.int .i64 (z ^ k)) ∧ Below w.heap.size w w'
  | 0, x, w, _, hx => by
    have h1 : (x == 0) = true := by rw [beq_iff_eq]; omega
    clear hx
    go_enter Try.func41, Try.ntmps41
    go_wp2
    go_ret
    exact ⟨by simp, Below.refl _ _⟩
  | k + 1, x, w, hk, hx => by
    have h1 : (x == 0) = false := by rw [beq_eq_false_iff_ne]; omega
    have HX := hidden hx
    have HI := hidden (l10Pow_any z hz k (x - 1) w (by omega) (by omega))
    have HP := hidden (pow_sz hz k (by omega))
    have HQ := hidden (pow_sz hz (k + 1) hk)
    have hb1 : -9223372036854775808 ≤ x - 1 ∧ x - 1 ≤ 9223372036854775807 := by omega
    clear hx
    go_enter Try.func41, Try.ntmps41
    go_wp2_with fail
    with_reducible refine HI.out.mono ?_
    rintro e w1 ⟨rfl, hb⟩
    have B := hidden hb
    clear hb
    obtain ⟨q, hq⟩ : ∃ q, q = z ^ k := ⟨_, rfl⟩
    have HQQ := hidden hq
    have hqb : -9223372036854775808 ≤ z * q ∧ z * q ≤ 9223372036854775807 := by
      have := HQ.out
      rw [Int.pow_succ, Int.mul_comm] at this
      rw [hq]; omega
    rw [← hq]
    clear hq h1 hb1
    go_wp2
    go_ret
    exact ⟨by rw [HQQ.out, Int.pow_succ, Int.mul_comm]; rfl, B.out⟩

set_option maxRecDepth 20000 in
set_option maxHeartbeats 400000 in
theorem power_any (z : Int) (k : Nat) (x : Int) (w : World) (hz : 1 ≤ z ∧ z ≤ 3) (hk : k ≤ 6) (hx : x = (k : Int)) :
    Calls Try.prog 50 #[.int .i64 z, .int .i64 x] w fun e w' => e = .returned (.int .i64 (z ^ k)) ∧ Below w.heap.size w w' := by
  subst hx
  go_enter Try.func50, Try.ntmps50
  go_wp2_with fail
  go_loopw [5, 7] (fun p i wr => ∃ (j : Nat) (q : Int), j ≤ k ∧ i = .int .i64 j ∧ p = .int .i64 q ∧ Hid (q = z ^ j) ∧ Hid (Below w.heap.size w wr)) (fun _ i _ => k - (intOf i).toNat)
  case atStart => exact ⟨0, 1, Nat.zero_le _, rfl, rfl, hidden (by simp), hidden (Below.refl _ _)⟩
  case round =>
    obtain ⟨j, q, hj, rfl, rfl, HQ, HB⟩ := hrel
    by_cases hlt : j < k
    · have hqb : -9223372036854775808 ≤ q * z ∧ q * z ≤ 9223372036854775807 := by
        have := pow_sz hz (j + 1) (by omega)
        rw [Int.pow_succ, ← HQ.out] at this
        omega
      have HQ2 := hidden (show q * z = z ^ (j + 1) by rw [Int.pow_succ, ← HQ.out])
      go_wp2
      go_roundw
      case rel => exact ⟨j + 1, q * z, by omega, by go_num, by go_num, HQ2, HB⟩
      case measure => simp [intOf]; omega
    · obtain rfl : j = k := by omega
      go_wp2
      go_ret
      exact ⟨by rw [HQ.out]; rfl, HB.out⟩

/-- A number of a table that is none. -/
def outT (z : Int) (m : Nat) (L : Nat → Int) : Prop := ∃ i, i < m ∧ ¬ (0 ≤ L i ∧ L i < z)
open Classical in
noncomputable def outB (z : Int) (m : Nat) (L : Nat → Int) : Bool := decide (outT z m L)

open Classical in
/-- The fault of a table. -/
noncomputable def tabF (z : Int) (k m : Nat) (L : Nat → Int) : Int := if (m : Int) ≠ z ^ k then 2 else if outT z m L then 3 else 0
/-- The first fault of k tables. -/
noncomputable def afT (z : Int) (A : Nat → Int) (D : LsL) : Nat → Int
  | 0 => 0
  | k + 1 => if afT z A D k ≠ 0 then afT z A D k else tabF z (A k).toNat (D.m k) (D.L k)
/-- The fault of an algebra. -/
noncomputable def algF (n : Nat) (N : Nat → ByteArray) (A : Nat → Int) (z : Int) (m : Nat) (D : LsL) : Int :=
  if faultF n N A ≠ 0 then faultF n N A else if ¬ (1 ≤ z ∧ z ≤ 3) then 3 else if m ≠ n then 2 else afT z A D n

theorem afT_stays {z : Int} {A : Nat → Int} {D : LsL} {k n : Nat} (h : afT z A D k ≠ 0) (hk : k ≤ n) : afT z A D n = afT z A D k := by
  induction n with
  | zero => obtain rfl : k = 0 := by omega
            rfl
  | succ n ih =>
    by_cases e : k = n + 1
    · rw [e]
    · have := ih (by omega)
      rw [afT, if_pos (by rw [this]; exact h), this]
theorem afT_next {z : Int} {A : Nat → Int} {D : LsL} {k : Nat} (h : afT z A D k = 0) (hc : tabF z (A k).toNat (D.m k) (D.L k) = 0) : afT z A D (k + 1) = 0 := by
  rw [afT, if_neg (by simp [h])]; exact hc
theorem afT_at {z : Int} {A : Nat → Int} {D : LsL} {k n : Nat} {c : Int} (h : afT z A D k = 0) (hk : k < n) (hc : tabF z (A k).toNat (D.m k) (D.L k) = c) (c0 : c ≠ 0) : afT z A D n = c := by
  have h1 : afT z A D (k + 1) = c := by rw [afT, if_neg (by simp [h])]; exact hc
  rw [afT_stays (k := k + 1) (by rw [h1]; exact c0) (by omega), h1]
theorem algF_tabs {n : Nat} {N : Nat → ByteArray} {A : Nat → Int} {z : Int} {D : LsL} (h : faultF n N A = 0) (hz : 1 ≤ z ∧ z ≤ 3) : algF n N A z n D = afT z A D n := by
  rw [algF, if_neg (by simp [h]), if_neg (by simp [hz]), if_neg (by simp)]
theorem tabF_many {z : Int} {k m : Nat} {L : Nat → Int} (h : (m : Int) ≠ z ^ k) : tabF z k m L = 2 := by rw [tabF, if_pos h]
theorem tabF_out {z : Int} {k m : Nat} {L : Nat → Int} (h : (m : Int) = z ^ k) (h1 : outT z m L) : tabF z k m L = 3 := by rw [tabF, if_neg (by simp [h]), if_pos h1]
theorem tabF_ok {z : Int} {k m : Nat} {L : Nat → Int} (h : (m : Int) = z ^ k) (h1 : ¬ outT z m L) : tabF z k m L = 0 := by rw [tabF, if_neg (by simp [h]), if_neg h1]

theorem Mats.cells {w : World} {b off n : Nat} {D : LsL} (h : Mats w b off n D) {k : Nat} (hk : k < n) : ∃ g o c, w.cell? ⟨b, off + k, none⟩ = some (.slice (some ⟨g, o, none⟩) (D.m k) c) ∧ Ints w g o (D.m k) (D.L k) ∧ D.m k ≤ c := h.row k hk

set_option maxRecDepth 20000 in
set_option maxHeartbeats 3200000 in
theorem specAlg_any (b off n c b2 o2 m c2 : Nat) (N : Nat → ByteArray) (A : Nat → Int) (z : Int) (D : LsL) (w : World) (h : Syms w b off n N A) (h2 : Mats w b2 o2 m D) (hk : Kept n N A) (hm : KeptM m D) :
    Calls Try.prog 10 #[.agg #[.slice (some ⟨b, off, none⟩) n c], .agg #[.int .i64 z, .slice (some ⟨b2, o2, none⟩) m c2]] w fun e w' => e = .returned (.int .i64 (algF n N A z m D)) ∧ Below w.heap.size w w' := by
  have HK := hidden hk
  have HM := hidden hm
  have hmm := hm.most
  have hnn := hk.most
  have X := hidden ((One.new w (.slice (some ⟨b, off, none⟩) n c) 33).keep (alloc_below _ (.cells #[.int .i64 z, .slice (some ⟨b2, o2, none⟩) m c2] 35)))
  have Y := hidden (Two.new (w.alloc (.cells #[.slice (some ⟨b, off, none⟩) n c] 33)) (.int .i64 z) (.slice (some ⟨b2, o2, none⟩) m c2) 35)
  have B := hidden (keepB (alloc_below w (.cells #[.slice (some ⟨b, off, none⟩) n c] 33)) (alloc_below _ (.cells #[.int .i64 z, .slice (some ⟨b2, o2, none⟩) m c2] 35)))
  rw [World.size_alloc] at Y
  have Q := hidden (h.keep B.out)
  have T := hidden (h2.keep B.out)
  clear h h2 hk hm
  go_enter Try.func10, Try.ntmps10
  go_wp2_with fail
  with_reducible refine (specFault_all _ _ _ _ N A _ Q.out HK.out).mono ?_
  rintro e w1 ⟨rfl, hb⟩
  replace X := hidden (X.out.keep hb)
  replace Y := hidden (Y.out.keep hb)
  replace B := hidden (keepB B.out hb)
  replace Q := hidden (Q.out.keep hb)
  replace T := hidden (T.out.keep hb)
  clear hb
  by_cases hf : faultF n N A = 0
  · have HF := hidden hf
    rw [hf]
    clear hf
    have y0 := Y.out.c0
    have y1 := Y.out.c1
    have x0 := X.out.c0
    go_wp2_with fail
    with_reducible refine (l1In_any _ _ _ _).mono ?_
    rintro e w2 ⟨rfl, hb⟩
    replace X := hidden (X.out.keep hb)
    replace Y := hidden (Y.out.keep hb)
    replace B := hidden (keepB B.out hb)
    replace Q := hidden (Q.out.keep hb)
    replace T := hidden (T.out.keep hb)
    clear hb y0 y1 x0
    have y0 := Y.out.c0
    have y1 := Y.out.c1
    have x0 := X.out.c0
    by_cases hz : 1 ≤ z ∧ z ≤ 3
    · have HZ := hidden hz
      rw [decide_eq_true hz]
      clear hz
      by_cases hmn : m = n
      · subst hmn
        have HR := hidden (algF_tabs (D := D) HF.out HZ.out)
        have hmi : ((m : Int) != (m : Int)) = false := by simp
        go_wp2
        go_loopw [6] (fun i wr => ∃ k : Nat, k ≤ m ∧ i = .int .i64 k ∧ Hid (afT z A D k = 0) ∧ Hid (Below w2.heap.size w2 wr)) (fun i _ => m - (intOf i).toNat)
        case atStart => exact ⟨0, Nat.zero_le _, rfl, hidden rfl, hidden (Below.refl _ _)⟩
        case round =>
          obtain ⟨k, hk, rfl, HE, HB⟩ := hrel
          clear y0 y1 x0
          by_cases hlt : k < m
          · obtain ⟨g, o, ck, e1, e2, e3⟩ := (T.out.keep HB.out).cells hlt
            have I1 := hidden e2
            have E1 := hidden e1
            have BT := hidden ((T.out.keep HB.out).blk (by omega))
            have HA := hidden ((fault_sound HF.out).arity k hlt)
            have hDm := HM.out.le hlt
            obtain ⟨P, hP⟩ : ∃ P : Int, P = z ^ (A k).toNat := ⟨_, rfl⟩
            have HPP := hidden hP
            have S1 := hidden (show ∀ wc, Below wr.heap.size wr wc → Calls Try.prog 41 #[.int .i64 z, .int .i64 (A k)] wc fun e w' => e = .returned (.int .i64 P) ∧ Below wr.heap.size wr w' ∧ w'.cell? ⟨w.heap.size, 0, none⟩ = some (.slice (some ⟨b, off, none⟩) m c) ∧ w'.cell? ⟨w.heap.size + 1, 0, none⟩ = some (.int .i64 z) ∧ w'.cell? ⟨w.heap.size + 1, 1, none⟩ = some (.slice (some ⟨b2, o2, none⟩) m c2) ∧ w'.cell? ⟨b, off + k * 2 + 1, none⟩ = some (.int .i64 (A k)) ∧ w'.cell? ⟨b2, o2 + k, none⟩ = some (.slice (some ⟨g, o, none⟩) (D.m k) ck) from fun wc hc => by
              refine (l10Pow_any z HZ.out (A k).toNat (A k) wc (by have := HA.out; omega) (by have := HA.out; omega)).mono ?_
              rintro e w' ⟨rfl, hb⟩
              have hb2 := keepB HB.out (keepB hc hb)
              exact ⟨by rw [HPP.out], keepB hc hb, (X.out.keep hb2).c0, (Y.out.keep hb2).c0, (Y.out.keep hb2).c1, (Q.out.keep hb2).arity k hlt, by rw [(bcell (keepB hc hb)).1 _ _ ((T.out.keep HB.out).blk (by omega))]; exact e1⟩)
            have x0 := (X.out.keep HB.out).c0
            have y0 := (Y.out.keep HB.out).c0
            have y1 := (Y.out.keep HB.out).c1
            have a0 := (Q.out.keep HB.out).arity k hlt
            clear hP e2
            go_wp2_with fail
            go_cut [46] (fun t wc => t = .bool (((D.m k : Nat) : Int) != P) ∧ Below wr.heap.size wr wc)
            case first =>
              go_region_held3 (fun wz => wz.cell? ⟨w.heap.size, 0, none⟩ = some (.slice (some ⟨b, off, none⟩) m c) ∧ wz.cell? ⟨w.heap.size + 1, 0, none⟩ = some (.int .i64 z) ∧ wz.cell? ⟨w.heap.size + 1, 1, none⟩ = some (.slice (some ⟨b2, o2, none⟩) m c2) ∧ wz.cell? ⟨b, off + k * 2 + 1, none⟩ = some (.int .i64 (A k)) ∧ wz.cell? ⟨b2, o2 + k, none⟩ = some (.slice (some ⟨g, o, none⟩) (D.m k) ck)) (first | exact ⟨by assumption, by assumption, by assumption, by assumption, by assumption⟩ | go_keep) (first
                | (go_at_call 41; with_reducible refine (S1.out _ ?_).mono ?_; exact (Below.refl _ _).drew; rintro e v5 ⟨rfl, b5', q0', q1', q2', q3', q4'⟩))
              all_goals (go_wp2_with fail; go_meet)
              all_goals exact ⟨rfl, b5'⟩
            case rest =>
              rename World => w3
              obtain ⟨rfl, hb⟩ := hcut
              have B3 := hidden (keepB HB.out hb)
              have B3r := hidden hb
              clear x0 y0 y1 a0 e1 hb S1
              by_cases hP : ((D.m k : Nat) : Int) = P
              · have hPb : (((D.m k : Nat) : Int) != P) = false := by simp [hP]
                rw [hPb]
                have HPD := hidden (hP.trans HPP.out)
                clear hP hPb
                have y1 := (Y.out.keep B3.out).c1
                have t1 : w3.cell? ⟨b2, o2 + k, none⟩ = some (.slice (some ⟨g, o, none⟩) (D.m k) ck) := by rw [(bcell B3r.out).1 _ _ BT.out]; exact E1.out
                go_wp2_with fail
                go_loopw [7] (fun i wq => ∃ j : Nat, j ≤ D.m k ∧ i = .int .i64 j ∧ Hid (∀ i, i < j → 0 ≤ D.L k i ∧ D.L k i < z) ∧ Hid (Below w3.heap.size w3 wq)) (fun i _ => D.m k - (intOf i).toNat)
                case atStart => exact ⟨0, Nat.zero_le _, rfl, hidden (fun i hi => by omega), hidden (Below.refl _ _)⟩
                case round =>
                  rename World => wq
                  obtain ⟨j, hj, rfl, HJ, HW⟩ := hrel
                  clear y1 t1
                  have B4 := hidden (keepB B3.out HW.out)
                  have y0 := (Y.out.keep B4.out).c0
                  have y1 := (Y.out.keep B4.out).c1
                  have t1 : wq.cell? ⟨b2, o2 + k, none⟩ = some (.slice (some ⟨g, o, none⟩) (D.m k) ck) := by rw [(bcell (keepB B3r.out HW.out)).1 _ _ BT.out]; exact E1.out
                  by_cases hjl : j < D.m k
                  · have i1 := (I1.out.keep (keepB B3r.out HW.out)).cell j hjl
                    have hw : IntKind.i64.wrap (z - 1) = z - 1 := by have := HZ.out; exact wrapA (by omega) (by omega)
                    obtain ⟨v, hv⟩ : ∃ v, v = D.L k j := ⟨_, rfl⟩
                    have HV := hidden hv
                    rw [← hv] at i1
                    obtain ⟨bb, hbb⟩ : ∃ bb, bb = decide (0 ≤ v ∧ v ≤ z - 1) := ⟨_, rfl⟩
                    have HBB := hidden hbb
                    have S2 := hidden (show ∀ wc, Below wq.heap.size wq wc → Calls Try.prog 40 #[.int .i64 v, .int .i64 0, .int .i64 (z - 1)] wc fun e w' => e = .returned (.bool bb) ∧ Below wq.heap.size wq w' ∧ w'.cell? ⟨w.heap.size + 1, 0, none⟩ = some (.int .i64 z) ∧ w'.cell? ⟨w.heap.size + 1, 1, none⟩ = some (.slice (some ⟨b2, o2, none⟩) m c2) ∧ w'.cell? ⟨b2, o2 + k, none⟩ = some (.slice (some ⟨g, o, none⟩) (D.m k) ck) ∧ w'.cell? ⟨g, o + j, none⟩ = some (.int .i64 v) from fun wc hc => by
                      refine (l1In_any v 0 (z - 1) wc).mono ?_
                      rintro e w' ⟨rfl, hb⟩
                      have hb2 := keepB B4.out (keepB hc hb)
                      have hb3 := keepB HW.out (keepB hc hb)
                      refine ⟨by rw [HBB.out], keepB hc hb, (Y.out.keep hb2).c0, (Y.out.keep hb2).c1, by rw [(bcell (keepB B3r.out hb3)).1 _ _ BT.out]; exact E1.out, ?_⟩
                      rw [HV.out]
                      exact (I1.out.keep (keepB B3r.out hb3)).cell j hjl)
                    clear hv hbb
                    go_wp2_with fail
                    go_cut [69] (fun t wc => t = .bool (!bb) ∧ Below wq.heap.size wq wc)
                    case first =>
                      go_region_held3 (fun wz => wz.cell? ⟨w.heap.size + 1, 0, none⟩ = some (.int .i64 z) ∧ wz.cell? ⟨w.heap.size + 1, 1, none⟩ = some (.slice (some ⟨b2, o2, none⟩) m c2) ∧ wz.cell? ⟨b2, o2 + k, none⟩ = some (.slice (some ⟨g, o, none⟩) (D.m k) ck) ∧ wz.cell? ⟨g, o + j, none⟩ = some (.int .i64 v)) (first | exact ⟨by assumption, by assumption, by assumption, by assumption⟩ | go_keep) (first
                        | (go_at_call 40; with_reducible refine (S2.out _ ?_).mono ?_; exact (Below.refl _ _).drew; rintro e v5 ⟨rfl, b5', q0', q1', q2', q3'⟩))
                      all_goals (go_wp2_with fail; go_meet)
                      all_goals exact ⟨rfl, b5'⟩
                    case rest =>
                      rename World => w4
                      obtain ⟨rfl, hb⟩ := hcut
                      have B5 := hidden (keepB HW.out hb)
                      clear y0 y1 t1 i1 hb S2
                      cases bb with
                      | true =>
                        go_wp2
                        go_roundw
                        case rel => exact ⟨j + 1, by omega, by go_num, hidden (fun i hi => by
                          by_cases e : i = j
                          · have := of_decide_eq_true HBB.out.symm
                            rw [e, ← HV.out]; omega
                          · exact HJ.out i (by omega)), B5⟩
                        case measure => simp [intOf]; omega
                      | false =>
                        have HR2 := hidden (HR.out.trans (afT_at HE.out hlt (tabF_out HPD.out ⟨j, hjl, by have := of_decide_eq_false HBB.out.symm; rw [← HV.out]; omega⟩) (by decide)))
                        go_wp2
                        go_ret
                        exact ⟨by rw [HR2.out]; rfl, keepB B.out (keepB B3.out B5.out)⟩
                  · obtain rfl : j = D.m k := by omega
                    have HE2 := hidden (afT_next HE.out (tabF_ok HPD.out (by rintro ⟨i, hi, h⟩; exact h (HJ.out i hi))))
                    go_wp2
                    go_roundw
                    case rel => exact ⟨k + 1, by omega, by go_num, HE2, hidden (keepB HB.out (keepB B3r.out HW.out))⟩
                    case measure => simp [intOf]; omega
              · have hPb : (((D.m k : Nat) : Int) != P) = true := by simp [hP]
                have HR2 := hidden (HR.out.trans (afT_at HE.out hlt (tabF_many (by rw [← HPP.out]; exact hP)) (by decide)))
                rw [hPb]
                clear hPb hP
                go_wp2
                go_ret
                exact ⟨by rw [HR2.out]; rfl, keepB B.out B3.out⟩
          · obtain rfl : k = m := by omega
            have y1 := (Y.out.keep HB.out).c1
            go_wp2
            go_ret
            exact ⟨by rw [HR.out, HE.out]; rfl, keepB B.out HB.out⟩
      · have HR := hidden (show algF n N A z m D = 2 by rw [algF, if_neg (by simp [HF.out]), if_neg (by simp [HZ.out]), if_pos hmn])
        have hmi : ((m : Int) != (n : Int)) = true := by simp; omega
        go_wp2
        go_ret
        exact ⟨by rw [HR.out]; rfl, B.out⟩
    · have HR := hidden (show algF n N A z m D = 3 by rw [algF, if_neg (by simp [HF.out]), if_pos hz])
      rw [decide_eq_false hz]
      clear hz
      go_wp2
      go_ret
      exact ⟨by rw [HR.out]; rfl, B.out⟩
  · have HR := hidden (show algF n N A z m D = faultF n N A by rw [algF, if_pos hf])
    have hc : (faultF n N A != 0) = true := by simpa using hf
    generalize faultF n N A = q at *
    go_wp2
    go_ret
    exact ⟨by rw [HR.out]; rfl, B.out⟩

end Go.Proofs.Ytdcngfdklpdpkaa
