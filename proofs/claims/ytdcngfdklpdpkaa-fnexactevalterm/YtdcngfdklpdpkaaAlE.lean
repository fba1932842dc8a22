/- Contract: the model's l10Eval: the value of the term at a place. -/
import Derived.Test.YtdcngfdklpdpkaaAlv
import Derived.Test.YtdcngfdklpdpkaaTermF
import Derived.Test.YtdcngfdklpdpkaaSizeAt
import Derived.Deep.RegionHeld3
namespace Go.Proofs.Ytdcngfdklpdpkaa
open Go.RowKit

theorem evV_var {A T : Nat → Int} {z : Int} {D : LsL} {V : Nat → Int} {m p : Nat} (hp : p < m) (h : T p < 0) : evV A T z D V m p = V (-1 - T p).toNat := by unfold evV; rw [evA_var hp h]; rfl
theorem evV_sym {A T : Nat → Int} {z : Int} {D : LsL} {V : Nat → Int} {m p : Nat} (hp : p < m) (h : ¬ T p < 0) : evV A T z D V m p = D.L (T p).toNat (foldV z ((evA A T z D V m (p + 1)).take (aOf A T p))).toNat := by unfold evV; rw [evA_sym hp h]; rfl

theorem evA_rng {n : Nat} {A T : Nat → Int} {z : Int} {D : LsL} {V : Nat → Int} {m p : Nat} (ho : AlgOk n A z D) (hg : Trm n A m T) (hl : ∀ i, i < m → -6 ≤ T i) (hv : ∀ j, j < 6 → 0 ≤ V j ∧ V j < z) : ∀ x, x ∈ evA A T z D V m p → 0 ≤ x ∧ x < z :=
  evN_rng ho hg.nods hg.whole hl hv _ (by omega)

set_option maxRecDepth 20000 in
set_option maxHeartbeats 6400000 in
theorem l10Eval_any (B1 B2 b off n c bt ot ct bv ov cv b' off' m c' : Nat) (N : Nat → ByteArray) (A T V : Nat → Int) (z : Int) (D : LsL) (hg : Trm n A m T) (ho : AlgOk n A z D) (hk : KeptM n D) (hl : ∀ i, i < m → -6 ≤ T i) (hv : ∀ j, j < 6 → 0 ≤ V j ∧ V j < z) : ∀ (d p : Nat), m - p ≤ d → p < m → ∀ w : World, One w B1 (.slice (some ⟨b, off, none⟩) n c) → Syms w b off n N A → Two w B2 (.int .i64 z) (.slice (some ⟨bt, ot, none⟩) n ct) → Mats w bt ot n D → Ints w bv ov 6 V → Ints w b' off' m T →
    Calls Try.prog 56 #[.pointer (some ⟨B1, 0, none⟩), .pointer (some ⟨B2, 0, none⟩), .slice (some ⟨bv, ov, none⟩) 6 cv, .slice (some ⟨b', off', none⟩) m c', .int .i64 (p : Int)] w fun e w' => e = .returned (.int .i64 (evV A T z D V m p)) ∧ Below w.heap.size w w' := by
  intro d
  induction d with
  | zero => intro p hd hp; omega
  | succ d ih =>
  intro p hd hp w x1 hs x2 ht hvs hi
  have hm24 := hg.nods.most
  have hn6 := hg.nods.few
  by_cases h0 : T p < 0
  · have HE := hidden (evV_var (A := A) (z := z) (D := D) (V := V) hp h0)
    have hlp := hl p hp
    obtain ⟨j, hj⟩ : ∃ j : Nat, T p = -1 - (j : Int) ∧ j < 6 := ⟨(-1 - T p).toNat, by omega, by omega⟩
    have c1 := hi.cell p hp
    have c2 := hvs.cell j hj.2
    have HE2 := hidden (show evV A T z D V m p = V j by rw [HE.out, hj.1]; congr 1; omega)
    rw [hj.1] at c1
    have hj6 := hj.2
    have e9 : (-1 : Int) - (-1 - (j : Int)) = (j : Int) := by omega
    have e10 : (-1 : Int) - (j : Int) < 0 := by omega
    clear ih hj h0 hlp x1 hs x2 ht hvs hi
    go_enter Try.func56, Try.ntmps56
    go_wp2
    go_ret
    exact ⟨by rw [HE2.out]; rfl, Below.refl _ _⟩
  · rcases nodeB_cases (hg.nods.node p hp) with ⟨j, ej, hj⟩ | hvv
    rotate_left
    · omega
    have HE := hidden (evV_sym (A := A) (z := z) (D := D) (V := V) hp h0)
    have HA := hg.nods.ar j hj
    obtain ⟨ar, har⟩ : ∃ ar : Nat, A j = ar := ⟨(A j).toNat, by omega⟩
    have hao : aOf A T p = ar := by rw [aOf_sym ej, har]; rfl
    have har2 : ar ≤ 2 := by omega
    obtain ⟨en, hen, hen1, hen2⟩ := skip_inner hg.whole hp
    have hen' := hen
    rw [skip_one _ hp, hao] at hen'
    have HEN := hidden hen'
    obtain ⟨st, hst⟩ : ∃ st, st = evA A T z D V m (p + 1) := ⟨_, rfl⟩
    have HST := hidden hst
    have HRG := hidden (show ∀ x, x ∈ st → 0 ≤ x ∧ x < z from fun x hx => evA_rng ho hg hl hv x (by rw [← hst]; exact hx))
    have hz := ho.z1
    have IH := hidden ih
    have X1 := hidden x1
    have X2 := hidden x2
    have HS := hidden hs
    have HT := hidden ht
    have HV := hidden hvs
    have HI := hidden hi
    have HG := hidden hg
    have HO := hidden ho
    have HK := hidden hk
    have EJ := hidden ej
    have EA := hidden hao
    have ER := hidden har
    have c1 := hi.cell p hp
    rw [ej] at c1
    have C1 := hidden c1
    have HBI := hidden (hi.blk (by omega))
    have HBS := hidden (hs.blk (by omega))
    have hn : (n : Int) ≤ 6 := by omega
    have hjn : (j : Int) < n := by omega
    have hj0 : ¬ (j : Int) < 0 := by omega
    clear ih x1 hs x2 ht hvs hi hst h0 HA hao har hen hen' ej hg ho hk hl hv
    go_enter Try.func56, Try.ntmps56
    go_wp2
    clear c1
    go_loopw [11, 12, 13] (fun nn nx i wr => ∃ (k q : Nat), k ≤ ar ∧ q ≤ m ∧ i = .int .i64 (k : Int) ∧ nx = .int .i64 (q : Int) ∧ nn = .int .i64 (foldV z (st.take k)) ∧ Hid (skip (aOf A T) m (p + 1) k = some q) ∧ Hid (Below w.heap.size w wr)) (fun _ _ i _ => ar - (intOf i).toNat)
    case atStart => exact ⟨0, p + 1, Nat.zero_le _, by omega, rfl, by go_num, by simp [foldV], hidden (skip_zero _ _ _), hidden (Below.refl _ _)⟩
    case round =>
      obtain ⟨k, q, hk, hq, rfl, rfl, rfl, HQ, BL⟩ := hrel
      have d0 := (X1.out.keep BL.out).c0
      have c1 : wr.cell? ⟨b', off' + p, none⟩ = some (.int .i64 (j : Int)) := by rw [(bcell BL.out).1 _ _ HBI.out]; exact C1.out
      have c3 : wr.cell? ⟨b, off + j * 2 + 1, none⟩ = some (.int .i64 (ar : Int)) := by rw [(bcell BL.out).1 _ _ HBS.out, ← ER.out]; exact HS.out.arity j (by omega)
      obtain ⟨hs, hl1, hl2, hl3⟩ := evA_take (A := A) (T := T) (z := z) (D := D) (V := V) k q HQ.out
      rw [← HST.out] at hl2 hl3
      have HNB := hidden (show 0 ≤ foldV z (st.take k) ∧ foldV z (st.take k) < z ^ k from by
        have h1 := foldV_bd hz.1 (st.take k) (fun x hx => HRG.out x (List.mem_of_mem_take hx))
        rwa [hl3, hl1, ← hl3] at h1)
      by_cases hlt : k < ar
      · have hkl : (k : Int) < ar := by omega
        obtain ⟨qa, r1, ha1, ha2, ha3⟩ := skip_arg HEN.out hlt
        obtain rfl : q = qa := by have := HQ.out.symm.trans ha1; simpa using this
        have hle := (skip_le ha2).2 (by omega)
        have HE1 := hidden (endV_some ha2)
        have HA3 := hidden ha3
        have HTK := hidden (show st.take (k + 1) = st.take k ++ [evV A T z D V m q] from by
          have h2 : st = hs ++ (evV A T z D V m q :: evA A T z D V m r1) := by rw [← evA_some ha2]; exact hl2
          rw [hl3, h2, show hs ++ (evV A T z D V m q :: evA A T z D V m r1) = (hs ++ [evV A T z D V m q]) ++ evA A T z D V m r1 by simp, List.take_left' (by simp [hl1])])
        have HVR := hidden (show 0 ≤ evV A T z D V m q ∧ evV A T z D V m q < z from HRG.out _ (by rw [hl2, evA_some ha2]; simp))
        have IQ := hidden (show ∀ ww, Below w.heap.size w ww → Calls Try.prog 56 #[.pointer (some ⟨B1, 0, none⟩), .pointer (some ⟨B2, 0, none⟩), .slice (some ⟨bv, ov, none⟩) 6 cv, .slice (some ⟨b', off', none⟩) m c', .int .i64 (q : Int)] ww fun e w' => e = .returned (.int .i64 (evV A T z D V m q)) ∧ Below ww.heap.size ww w' from fun ww hb => IH.out q (by have := (skip_le ha1).1; omega) (by omega) ww (X1.out.keep hb) (HS.out.keep hb) (X2.out.keep hb) (HT.out.keep hb) (HV.out.keep hb) (HI.out.keep hb))
        clear ha1 ha2 ha3 hl1 hl2 hl3
        go_wp2
        go_cut [41] (fun t wc => t = .bool true ∧ Below wr.heap.size wr wc)
        case first =>
          go_region_held3 (fun wz => wz.cell? ⟨B1, 0, none⟩ = some (.slice (some ⟨b, off, none⟩) n c) ∧ wz.cell? ⟨b', off' + p, none⟩ = some (.int .i64 (j : Int)) ∧ wz.cell? ⟨b, off + j * 2 + 1, none⟩ = some (.int .i64 (ar : Int))) (first | exact ⟨by assumption, by assumption, by assumption⟩ | go_keep) (fail)
          all_goals (go_wp2_with fail; go_meet)
          all_goals exact ⟨rfl, (Below.refl _ _).drew⟩
        case rest =>
          rename World => w1
          obtain ⟨rfl, hb⟩ := hcut
          have BW1 := hidden (keepB BL.out hb)
          obtain ⟨nn, hnn⟩ : ∃ nn, nn = foldV z (st.take k) := ⟨_, rfl⟩
          obtain ⟨v, hv⟩ : ∃ v, v = evV A T z D V m q := ⟨_, rfl⟩
          have HNN := hidden hnn
          have HVV := hidden hv
          rw [← hv] at IQ HVR HTK
          rw [← hnn] at HNB ⊢
          have hzk : z ^ k ≤ 3 := by
            have hk1 : k = 0 ∨ k = 1 := by omega
            rcases hk1 with rfl | rfl
            · simp
            · rw [Int.pow_succ, Int.pow_zero, Int.one_mul]; omega
          have hb1 : 0 ≤ nn * z ∧ nn * z ≤ 9 := by
            have h1 := HNB.out
            have h2 : nn ≤ 2 := by omega
            have h3 : nn * z ≤ 2 * z := Int.mul_le_mul_of_nonneg_right h2 (by omega)
            have h4 := Int.mul_nonneg h1.1 (show (0 : Int) ≤ z by omega)
            omega
          have hw1 : IntKind.i64.wrap (nn * z) = nn * z := wrapA hb1.1 (by omega)
          have hw2 : IntKind.i64.wrap (nn * z + v) = nn * z + v := wrapA (by have := HVR.out; omega) (by have := HVR.out; omega)
          have y0 := (X2.out.keep BW1.out).c0
          have ST := hidden (show ∀ ww, Below w1.heap.size w1 ww → Calls Try.prog 56 #[.pointer (some ⟨B1, 0, none⟩), .pointer (some ⟨B2, 0, none⟩), .slice (some ⟨bv, ov, none⟩) 6 cv, .slice (some ⟨b', off', none⟩) m c', .int .i64 (q : Int)] ww fun e w' => e = .returned (.int .i64 v) ∧ w'.cell? ⟨B2, 0, none⟩ = some (.int .i64 z) ∧ Below w1.heap.size w1 w' from fun ww hb => by
            refine (IQ.out ww (keepB BW1.out hb)).mono ?_
            rintro e w' ⟨rfl, hb2⟩
            exact ⟨rfl, (X2.out.keep (keepB BW1.out (keepB hb hb2))).c0, keepB hb hb2⟩)
          clear hnn hv hb d0 c1 c3 IQ
          go_wp2
          go_cut [11] (fun t wc => t = .int .i64 (nn * z + v) ∧ Below w1.heap.size w1 wc)
          case first =>
            go_region_held3 (fun wz => wz.cell? ⟨B2, 0, none⟩ = some (.int .i64 z)) (first | assumption | go_keep) (first
              | (go_at_call 56; with_reducible refine (ST.out _ (by first | exact (Below.refl _ _).drew | exact Below.refl _ _)).mono ?_; rintro e v5 ⟨rfl, y5, b5⟩))
            all_goals (go_wp2_with fail; go_meet)
            all_goals exact ⟨rfl, b5⟩
          case rest =>
            rename World => w2
            obtain ⟨rfl, hb⟩ := hcut
            have BW2 := hidden (keepB BW1.out hb)
            have S3 := hidden (l3End_any B1 b off n c b' off' m c' N A T HG.out.nods _ q (Nat.le_refl _) (by omega) w2 (X1.out.keep BW2.out) (HS.out.keep BW2.out) (HI.out.keep BW2.out))
            rw [HE1.out] at S3
            have HF := hidden (show nn * z + v = foldV z (st.take (k + 1)) by rw [HTK.out, foldV_snoc, ← HNN.out])
            clear hb y0 ST hw1 hw2
            go_wp2_with fail
            with_reducible refine S3.out.mono ?_
            rintro e w3 ⟨rfl, hb⟩
            have BW3 := hidden (keepB BW2.out hb)
            clear hb
            go_wp2
            go_roundw
            case rel => exact ⟨k + 1, r1, by omega, hle.2, by go_num, rfl, by rw [HF.out], HA3, BW3⟩
            case measure => simp [intOf]; omega
      · obtain rfl : k = ar := by omega
        have hkl : ¬ (k : Int) < k := by omega
        have y1 := (X2.out.keep BL.out).c1
        obtain ⟨g, o, ck, t1, t2, t3⟩ := (HT.out.keep BL.out).cells (k := j) (by omega)
        obtain ⟨nn, hnn⟩ : ∃ nn, nn = (foldV z (st.take k)).toNat := ⟨_, rfl⟩
        have hnz : foldV z (st.take k) = (nn : Int) := by rw [hnn]; have := HNB.out; omega
        have htb := HO.out.tab j (by omega)
        have hlt2 : nn < D.m j := by
          have h1 := HNB.out
          have h2 := htb.1
          rw [ER.out] at h2
          simp only [Int.toNat_natCast] at h2
          omega
        have t4 := t2.cell nn hlt2
        have HFIN := hidden (show evV A T z D V m p = D.L j nn from by rw [HE.out, EJ.out, EA.out, ← HST.out, ← hnn]; simp)
        have hDm := HK.out.m j (by omega)
        obtain ⟨xv, hxv⟩ : ∃ xv, xv = D.L j nn := ⟨_, rfl⟩
        rw [← hxv] at t4 HFIN
        rw [hnz]
        clear hl1 hl2 hl3 t2 htb hnn hnz hxv
        go_wp2
        go_cut [41] (fun t wc => t = .bool false ∧ Below wr.heap.size wr wc)
        case first =>
          go_region_held3 (fun wz => wz.cell? ⟨B1, 0, none⟩ = some (.slice (some ⟨b, off, none⟩) n c) ∧ wz.cell? ⟨b', off' + p, none⟩ = some (.int .i64 (j : Int)) ∧ wz.cell? ⟨b, off + j * 2 + 1, none⟩ = some (.int .i64 (k : Int))) (first | exact ⟨by assumption, by assumption, by assumption⟩ | go_keep) (fail)
          all_goals (go_wp2_with fail; go_meet)
          all_goals exact ⟨rfl, (Below.refl _ _).drew⟩
        case rest =>
          rename World => w1
          obtain ⟨rfl, hb⟩ := hcut
          have BW1 := hidden (keepB BL.out hb)
          have z1 : w1.cell? ⟨B2, 1, none⟩ = _ := (hb.cell (p := ⟨B2, 1, none⟩) (World.block_lt_of_cell? _ _ y1)).trans y1
          have z2 : w1.cell? ⟨b', off' + p, none⟩ = _ := (hb.cell (p := ⟨b', off' + p, none⟩) (World.block_lt_of_cell? _ _ c1)).trans c1
          have z3 : w1.cell? ⟨bt, ot + j, none⟩ = _ := (hb.cell (p := ⟨bt, ot + j, none⟩) (World.block_lt_of_cell? _ _ t1)).trans t1
          have z4 : w1.cell? ⟨g, o + nn, none⟩ = _ := (hb.cell (p := ⟨g, o + nn, none⟩) (World.block_lt_of_cell? _ _ t4)).trans t4
          clear hb y1 c1 t1 t4 d0 c3
          go_wp2
          go_cut [10] (fun t wc => t = .int .i64 xv ∧ Below w1.heap.size w1 wc)
          case first =>
            go_region_held3 (fun wz => wz.cell? ⟨B2, 1, none⟩ = some (.slice (some ⟨bt, ot, none⟩) n ct) ∧ wz.cell? ⟨b', off' + p, none⟩ = some (.int .i64 (j : Int)) ∧ wz.cell? ⟨bt, ot + j, none⟩ = some (.slice (some ⟨g, o, none⟩) (D.m j) ck) ∧ wz.cell? ⟨g, o + nn, none⟩ = some (.int .i64 xv)) (first | exact ⟨by assumption, by assumption, by assumption, by assumption⟩ | go_keep) (fail)
            all_goals (go_wp2_with fail; go_meet)
            all_goals exact ⟨rfl, (Below.refl _ _).drew⟩
          case rest =>
            rename World => w2
            obtain ⟨rfl, hb⟩ := hcut
            have BW2 := hidden (keepB BW1.out hb)
            clear hb
            go_wp2
            go_ret
            exact ⟨by rw [HFIN.out]; rfl, BW2.out⟩

end Go.Proofs.Ytdcngfdklpdpkaa
