/- Several texts as one: EqR, EqS. -/
import Derived.Test.YtcnkkoegfjggaaaMED
/- Contract: the model's l5ReadAll: equations off bytes, and how many bytes they have. -/
namespace Go.Proofs.Ytcnkkoegfjggaaa
open Go.RowKit

/-- A side as it was read: nothing, or a list. -/
def SideO (w : World) (p : Option Addr) (m : Nat) (T : Nat → Int) : Prop := m = 0 ∨ ∃ b off, p = some ⟨b, off, none⟩ ∧ Ints w b off m T

theorem SideO.keep {w w' : World} {p : Option Addr} {m : Nat} {T : Nat → Int} (h : SideO w p m T) (hb : Below w.heap.size w w') : SideO w' p m T := by
  rcases h with h | ⟨b, off, h1, h2⟩
  · exact Or.inl h
  · exact Or.inr ⟨b, off, h1, h2.keep hb⟩

theorem l3Fault_side (B b off n c : Nat) (p : Option Addr) (m c' : Nat) (N : Nat → ByteArray) (A T : Nat → Int) (w : World) (hd : One w B (.slice (some ⟨b, off, none⟩) n c)) (h : Syms w b off n N A) (h' : SideO w p m T) (hs : Sound n A) (hm : m ≤ 1048576) :
    Calls Try.prog 59 #[.pointer (some ⟨B, 0, none⟩), .slice p m c'] w fun e w' => e = .returned (.int .i64 (lF n A m T)) ∧ Below w.heap.size w w' := by
  rcases h' with h1 | ⟨b', off', rfl, h2⟩
  · exact l3Fault_many B _ n m c' A T w hm (Or.inl (by omega))
  · exact l3Fault_all B b off n c b' off' m c' N A T w hd h h2 hs hm

theorem termF_pos {n : Nat} {N : Nat → ByteArray} {A : Nat → Int} {m : Nat} {T : Nat → Int} (hf : faultF n N A = 0) (h : termF n N A m T = 0) : 0 < m := by
  rw [term_l hf] at h
  by_cases h0 : m < 1 ∨ 24 < m
  · rw [lF_many h0] at h; omega
  · omega

set_option maxRecDepth 20000 in
set_option maxHeartbeats 1600000 in
theorem l4Fault_side (B E b off n c m1 c1 m2 c2 : Nat) (p1 p2 : Option Addr) (N : Nat → ByteArray) (A L1 L2 : Nat → Int) (w : World) (hd : One w B (.slice (some ⟨b, off, none⟩) n c)) (he : Two w E (.slice p1 m1 c1) (.slice p2 m2 c2)) (h : Syms w b off n N A) (h1 : SideO w p1 m1 L1) (h2 : SideO w p2 m2 L2) (hf : faultF n N A = 0) (hm1 : m1 ≤ 1048576) (hm2 : m2 ≤ 1048576) :
    Calls Try.prog 78 #[.pointer (some ⟨B, 0, none⟩), .pointer (some ⟨E, 0, none⟩)] w fun e w' => e = .returned (.int .i64 (eqF n N A m1 L1 m2 L2)) ∧ Below w.heap.size w w' := by
  have HS := hidden (fault_sound hf)
  have T1 := hidden (term_l (m := m1) (T := L1) hf)
  have T2 := hidden (term_l (m := m2) (T := L2) hf)
  have HF := hidden hf
  have D := hidden hd
  have X := hidden he
  have Q := hidden h
  have I1 := hidden h1
  have I2 := hidden h2
  clear hf hd he h h1 h2
  have x0 := X.out.c0
  go_enter Try.func78, Try.ntmps78
  go_wp2_with fail
  with_reducible refine (l3Fault_side _ _ _ _ _ _ _ _ N A L1 _ D.out Q.out I1.out HS.out hm1).mono ?_
  rintro e w1 ⟨rfl, hb⟩
  have B := hidden hb
  replace D := hidden (D.out.keep hb)
  replace X := hidden (X.out.keep hb)
  replace Q := hidden (Q.out.keep hb)
  replace I1 := hidden (I1.out.keep hb)
  replace I2 := hidden (I2.out.keep hb)
  clear hb x0
  rw [← T1.out]
  by_cases hz : termF n N A m1 L1 = 0
  · have Z1 := hidden hz
    rw [hz]
    clear hz
    have x0 := X.out.c1
    go_wp2_with fail
    with_reducible refine (l3Fault_side _ _ _ _ _ _ _ _ N A L2 _ D.out Q.out I2.out HS.out hm2).mono ?_
    rintro e w2 ⟨rfl, hb⟩
    replace B := hidden (keepB B.out hb)
    replace D := hidden (D.out.keep hb)
    replace X := hidden (X.out.keep hb)
    replace I1 := hidden (I1.out.keep hb)
    replace I2 := hidden (I2.out.keep hb)
    clear hb x0
    rw [← T2.out]
    by_cases hz : termF n N A m2 L2 = 0
    · have Z2 := hidden hz
      rw [hz]
      clear hz
      have hp1 := termF_pos HF.out Z1.out
      have hp2 := termF_pos HF.out Z2.out
      obtain ⟨b1, o1, rfl, i1⟩ : ∃ b off, p1 = some ⟨b, off, none⟩ ∧ Ints w2 b off m1 L1 := by
        rcases I1.out with h | h
        · omega
        · exact h
      obtain ⟨b2, o2, rfl, i2⟩ : ∃ b off, p2 = some ⟨b, off, none⟩ ∧ Ints w2 b off m2 L2 := by
        rcases I2.out with h | h
        · omega
        · exact h
      have J1 := hidden i1
      have J2 := hidden i2
      clear I1 I2 i1 i2 hp1 hp2
      have x0 := X.out.c0
      go_wp2_with fail
      with_reducible refine (l4Low_any _ _ _ _ L1 _ J1.out hm1).mono ?_
      rintro e w3 ⟨rfl, hb⟩
      replace B := hidden (keepB B.out hb)
      replace X := hidden (X.out.keep hb)
      replace J2 := hidden (J2.out.keep hb)
      clear hb x0
      generalize hl : lowB m1 L1 = ib
      cases ib
      · have HR := hidden (eqF_high Z1.out Z2.out (Or.inl hl))
        clear hl
        go_wp2
        go_ret
        exact ⟨by rw [HR.out]; rfl, B.out⟩
      · have HL := hidden hl
        clear hl
        have x0 := X.out.c1
        go_wp2_with fail
        with_reducible refine (l4Low_any _ _ _ _ L2 _ J2.out hm2).mono ?_
        rintro e w4 ⟨rfl, hb⟩
        replace B := hidden (keepB B.out hb)
        clear hb x0
        generalize hl : lowB m2 L2 = ib
        cases ib
        · have HR := hidden (eqF_high Z1.out Z2.out (Or.inr hl))
          clear hl
          go_wp2
          go_ret
          exact ⟨by rw [HR.out]; rfl, B.out⟩
        · have HR := hidden (eqF_low Z1.out Z2.out HL.out hl)
          clear hl
          go_wp2
          go_ret
          exact ⟨by rw [HR.out]; rfl, B.out⟩
    · have HR := hidden (eqF_right Z1.out hz)
      have hz' : (termF n N A m2 L2 != 0) = true := by simpa using hz
      generalize termF n N A m2 L2 = z at *
      clear hz
      go_wp2
      go_ret
      exact ⟨by rw [HR.out]; rfl, B.out⟩
  · have HR := hidden (eqF_left (m2 := m2) (L2 := L2) hz)
    have hz' : (termF n N A m1 L1 != 0) = true := by simpa using hz
    generalize termF n N A m1 L1 = z at *
    clear hz
    go_wp2
    go_ret
    exact ⟨by rw [HR.out]; rfl, B.out⟩

end Go.Proofs.Ytcnkkoegfjggaaa

/- Contract: the model's l5ReadAll: equations off bytes, and how many bytes they have. -/
namespace Go.Proofs.Ytcnkkoegfjggaaa
open Go.RowKit

/-- Bytes begin with a list of equations. -/
def OkE (n : Nat) (N : Nat → ByteArray) (A : Nat → Int) (m : Nat) (l : Nat → Int) (p : Nat) : Prop :=
  0 < m ∧ rdPos n A m l (l 0).toNat = some p ∧ (l 0).toNat ≤ 12 ∧ eqsTo n N A (rdD n A m l) (l 0).toNat = 0

/-- What l5ReadAll answers. -/
def ReadE (w : World) (n : Nat) (N : Nat → ByteArray) (A : Nat → Int) (m : Nat) (l : Nat → Int) (e : Ending) (w' : World) : Prop :=
  ((∀ p, ¬ OkE n N A m l p) ∧ e = .returned (.tuple #[.slice none 0 0, .int .i64 0])) ∨
  (∃ p v, OkE n N A m l p ∧ e = .returned (.tuple #[v, .int .i64 (p : Int)]) ∧ GrE w' w.heap.size v (l 0).toNat (rdD n A m l))

/-- A side in memory of its own, or nothing. -/
def RdO (w : World) (lo : Nat) (q : Option Addr) (K d : Nat) (T : Nat → Int) : Prop := K = 0 ∨ ∃ g, q = some ⟨g, 0, none⟩ ∧ lo ≤ g ∧ OwnI w lo g K d T K

theorem RdO.keep {w w' : World} {lo : Nat} {q : Option Addr} {K d : Nat} {T : Nat → Int} (h : RdO w lo q K d T) (hb : Below w.heap.size w w') : RdO w' lo q K d T := by
  rcases h with h | ⟨g, h1, h2, h3⟩
  · exact Or.inl h
  · exact Or.inr ⟨g, h1, h2, h3.keep hb⟩
theorem RdO.set {w : World} {lo : Nat} {q : Option Addr} {K d : Nat} {T : Nat → Int} (h : RdO w lo q K d T) (a : Addr) (v : Value) (ha : a.block < lo) : RdO (w.setCell a v) lo q K d T := by
  rcases h with h | ⟨g, h1, h2, h3⟩
  · exact Or.inl h
  · exact Or.inr ⟨g, h1, h2, h3.other a v (by omega)⟩
theorem RdO.side {w : World} {lo : Nat} {q : Option Addr} {K d : Nat} {T : Nat → Int} (h : RdO w lo q K d T) : SideO w q K T := by
  rcases h with h | ⟨g, h1, h2, h3⟩
  · exact Or.inl h
  · exact Or.inr ⟨g, 0, h1, h3.ints⟩

/-- What a side is read into. -/
theorem sideRead {w w' : World} {K : Nat} {T : Nat → Int} {e : Ending} (h : ReadAns w K T e w') : ∃ q d, e = .returned (.slice q K d) ∧ RdO w' w.heap.size q K d T := by
  rcases h with ⟨rfl, rfl⟩ | ⟨h0, g, d, rfl, hg, ho⟩
  · exact ⟨none, 0, rfl, Or.inl rfl⟩
  · exact ⟨_, d, rfl, Or.inr ⟨g, rfl, hg, ho⟩⟩

theorem behind_add (l : Nat → Int) (a b : Nat) : behind (behind l a) b = behind l (a + b) := funext fun i => by simp [behind, Nat.add_assoc]

theorem eqF_pos {n : Nat} {N : Nat → ByteArray} {A : Nat → Int} {m1 m2 : Nat} {L1 L2 : Nat → Int} (hf : faultF n N A = 0) (h : eqF n N A m1 L1 m2 L2 = 0) : 0 < m1 ∧ 0 < m2 := by
  by_cases h1 : termF n N A m1 L1 = 0
  · by_cases h2 : termF n N A m2 L2 = 0
    · exact ⟨termF_pos hf h1, termF_pos hf h2⟩
    · rw [eqF_right h1 h2] at h; exact absurd h h2
  · rw [eqF_left h1] at h; exact absurd h h1

set_option maxRecDepth 20000 in
set_option maxHeartbeats 12800000 in
theorem l5ReadAll_any (B b off n c b' off' m c' : Nat) (N : Nat → ByteArray) (A l : Nat → Int) (w : World) (hd : One w B (.slice (some ⟨b, off, none⟩) n c)) (h : Syms w b off n N A) (hf : faultF n N A = 0) (hm : m ≤ 1048576) (hmc : m ≤ c') (hl : Byts w (some ⟨b', off', none⟩) m l) (hb' : b' < w.heap.size) :
    Calls Try.prog 52 #[.pointer (some ⟨B, 0, none⟩), .slice (some ⟨b', off', none⟩) m c'] w fun e w' => ReadE w n N A m l e w' ∧ Below w.heap.size w w' := by
  have D := hidden hd
  have HQ := hidden h
  have HI := hidden hl
  have HF := hidden hf
  have HSO := hidden (fault_sound hf)
  have HDB := hidden hd.blk
  clear h hl hf hd
  by_cases hm0 : m = 0
  · subst hm0
    go_enter Try.func52, Try.ntmps52
    go_wp2
    go_ret2
    exact ⟨Or.inl ⟨fun p hp => absurd hp.1 (by omega), rfl⟩, Below.refl _ _⟩
  · have hm1 : 1 ≤ m := by omega
    have hmz : ¬ ((m : Int) < 1) := by omega
    obtain ⟨q, hq, hq255⟩ : ∃ q : Nat, l 0 = (q : Int) ∧ q ≤ 255 := by
      have := HI.out.byt 0 (by omega)
      exact ⟨(l 0).toNat, by omega, by omega⟩
    have hqn : (l 0).toNat = q := by omega
    have DZ := hidden (show ∀ ww : World, Below w.heap.size w ww → ww.cell? ⟨b', off', none⟩ = some (.int .u8 (q : Int)) by
      intro ww hww
      rcases HI.out.row with h0 | ⟨b1, o1, e1, hlt, hc⟩
      · omega
      · simp at e1
        have := hc 0 (by omega)
        rw [← e1.1, ← e1.2, Nat.add_zero, hq] at this
        rw [(bcell hww).1 _ _ hb']; exact this)
    have c0 := DZ.out w (Below.refl _ _)
    have HQN := hidden hqn
    have hm1' : (1 : Int) ≤ m := by omega
    have hmc' : (m : Int) ≤ c' := by omega
    clear hq hqn hm0
    by_cases hq12 : 12 < q
    · have hq12' : (12 : Int) < q := by omega
      go_enter Try.func52, Try.ntmps52
      go_wp2
      go_ret2
      exact ⟨Or.inl ⟨fun p hp => by have := hp.2.2.1; rw [HQN.out] at this; omega, rfl⟩, Below.refl _ _⟩
    · have hq12' : ¬ (12 : Int) < q := by omega
      go_enter Try.func52, Try.ntmps52
      go_wp2
      have st : GrE (w.alloc (.cells #[] 76)) w.heap.size (.slice (some ⟨w.heap.size, 0, none⟩) 0 0) 0 (rdD n A m l) :=
        ⟨by simp, ⟨[], fun _ => 0, World.ownsRow_made w #[] 0 (Nat.le_refl _) (Nat.zero_le _) rfl, fun e he => by omega, fun i i' _ hi => by omega⟩, Or.inr ⟨_, _, rfl⟩, fun hh => by omega⟩
      have HST := hidden st
      clear st c0
      have RD := hidden (show ∀ (pp : Option Addr) (k cc : Nat) (ww : World), Below w.heap.size w ww → One ww B (.slice (some ⟨b, off, none⟩) n c) → k ≤ m → (pp = some ⟨b', off' + k, none⟩ ∨ m = k) → Calls Try.prog 46 #[.pointer (some ⟨B, 0, none⟩), .slice pp (m - k) cc] ww fun e w' => ReadAns ww (rdK n A (m - k) (behind l k)) (nodT (behind l k)) e w' ∧ Below ww.heap.size ww w' from fun pp k cc ww h1 h2 h3 h4 => l5Read_any B b off n c pp (m - k) cc N A (behind l k) ww h2 (HQ.out.keep h1) HSO.out (by omega) (by
        rcases h4 with rfl | rfl
        · exact (HI.out.keep h1).behind h3
        · exact ⟨Or.inl (Nat.sub_self _), fun i hi => by omega⟩))
      go_loopw [6, 7, 8] (fun r a i wr => ∃ (j p : Nat), j ≤ q ∧ i = .int .i64 (j : Int) ∧ a = .int .i64 (p : Int) ∧ Hid (rdPos n A m l j = some p) ∧ Hid (eqsTo n N A (rdD n A m l) j = 0) ∧ Hid (GrE wr w.heap.size r j (rdD n A m l)) ∧ Hid (One wr B (.slice (some ⟨b, off, none⟩) n c)) ∧ Hid (Below w.heap.size w wr)) (fun _ _ i _ => q - (intOf i).toNat)
      case atStart => exact ⟨0, 1, Nat.zero_le _, rfl, rfl, hidden rfl, hidden rfl, HST, hidden (D.out.keep (alloc_below _ _)), hidden (alloc_below _ _)⟩
      case round =>
        clear HST D
        obtain ⟨j, p, hj, rfl, rfl, HP, HZ, GR, D, BL⟩ := hrel
        have hpl := rdPos_le hm1 j p HP.out
        by_cases hlt : j < q
        · have c0 := DZ.out _ BL.out
          have hjl : (j : Int) < q := by omega
          have hW0 := alloc_below wr (.cells #[.slice none 0 0, .slice none 0 0] 76)
          have D0 := hidden (D.out.keep hW0)
          have B0 := hidden (keepB BL.out hW0)
          have BW := hidden hW0
          have X := hidden (Own2.new wr (.slice none 0 0) (.slice none 0 0) 76)
          clear hW0
          go_wp2_with fail
          all_goals
            with_reducible refine (RD.out _ p _ _ B0.out D0.out hpl.2 (by first | exact Or.inl rfl | exact Or.inr (by omega))).mono ?_
            rintro e w1 ⟨ha, hb⟩
            obtain ⟨q1, d1, rfl, ho1⟩ := sideRead ha
            have hk1 := (rd_le (n := n) (A := A) (m := m - p) (l := behind l p))
            have HK1 := hidden (show kA n A m l p = rdK n A (m - p) (behind l p) from rfl)
            obtain ⟨K1, hK1⟩ : ∃ K1, K1 = rdK n A (m - p) (behind l p) := ⟨_, rfl⟩
            rw [← hK1] at HK1 ho1 hk1 ⊢
            obtain ⟨T1, hT1⟩ : ∃ T1, T1 = nodT (behind l p) := ⟨_, rfl⟩
            rw [← hT1] at ho1
            have HT1 := hidden hT1
            have HG1 := hidden (show ∀ g, q1 = some ⟨g, 0, none⟩ → 0 < K1 → g < w1.heap.size from fun g e h0 => by
              rcases ho1 with h | ⟨g', e', _, o⟩
              · omega
              · injection e.symm.trans e' with h1
                injection h1 with h2
                rw [h2]; exact o.lt)
            have X1 := hidden ((X.out.keep hb).set0 (.slice q1 K1 d1))
            have BW1 := hidden (show Below wr.heap.size wr (w1.setCell ⟨wr.heap.size, 0, none⟩ (.slice q1 K1 d1)) from (keepB BW.out hb).setCell (by simp) _)
            have D1 := hidden (D.out.keep BW1.out)
            have LW := hidden (show wr.heap.size < w1.heap.size from by have := hb.size; simp at this; omega)
            have B1 := hidden (keepB BL.out BW1.out)
            have O1 := hidden (ho1.set ⟨wr.heap.size, 0, none⟩ (.slice q1 K1 d1) (by simp))
            simp only [World.size_alloc] at O1
            have c0 := DZ.out _ (keepB B0.out hb)
            have c1 := DZ.out _ B1.out
            have x0 := (X.out.keep hb).two.c0
            have x1 := (X.out.keep hb).two.c1
            have f0 := (X.out.keep hb).f0
            have f1 := (X.out.keep hb).f1
            have y0 := X1.out.two.c0
            clear ha hb ho1 hK1 hT1 B0 BW D0 X
            go_wp2_with fail
            all_goals
              with_reducible refine (RD.out _ (p + K1) _ _ B1.out D1.out (by omega) (by first | exact Or.inl rfl | exact Or.inr (by omega))).mono ?_
              rintro e w2 ⟨ha, hb⟩
              obtain ⟨q2, d2, rfl, ho2⟩ := sideRead ha
              have hk2 := (rd_le (n := n) (A := A) (m := m - (p + K1)) (l := behind l (p + K1)))
              have HK2 := hidden (show kB n A m l p = rdK n A (m - (p + K1)) (behind l (p + K1)) by
                show rdK n A (m - p - kA n A m l p) (behind (behind l p) (kA n A m l p)) = _
                rw [HK1.out, Nat.sub_sub, behind_add])
              obtain ⟨K2, hK2⟩ : ∃ K2, K2 = rdK n A (m - (p + K1)) (behind l (p + K1)) := ⟨_, rfl⟩
              rw [← hK2] at HK2 ho2 hk2 ⊢
              obtain ⟨T2, hT2⟩ : ∃ T2, T2 = nodT (behind l (p + K1)) := ⟨_, rfl⟩
              rw [← hT2] at ho2
              have HT2 := hidden hT2
              have X2 := hidden ((X1.out.keep hb).set1 (.slice q2 K2 d2))
              have BW2 := hidden (show Below wr.heap.size wr (w2.setCell ⟨wr.heap.size, 1, none⟩ (.slice q2 K2 d2)) from (keepB BW1.out hb).setCell (by simp) _)
              have D2 := hidden (D.out.keep BW2.out)
              have O1' := hidden ((O1.out.keep hb).set ⟨wr.heap.size, 1, none⟩ (.slice q2 K2 d2) (by simp))
              have O2 := hidden (ho2.set ⟨wr.heap.size, 1, none⟩ (.slice q2 K2 d2) (by have := LW.out; simpa using this))
              have LW2 := hidden (show wr.heap.size < w2.heap.size from by have := hb.size; have := LW.out; simp at *; omega)
              simp only [World.size_setCell] at O2
              have x0 := (X1.out.keep hb).two.c0
              have x1 := (X1.out.keep hb).two.c1
              have f0 := (X1.out.keep hb).f0
              have f1 := (X1.out.keep hb).f1
              have y0 := X2.out.two.c0
              have y1 := X2.out.two.c1
              clear ha hb ho2 hK2 hT2 B1 BW1 D1 X1 O1 c0 c1
              go_wp2_with fail
              with_reducible refine (l4Fault_side _ _ _ _ _ _ _ _ _ _ _ _ N A T1 T2 _ D2.out X2.out.two (HQ.out.keep (keepB BL.out BW2.out)) O1'.out.side O2.out.side HF.out (by omega) (by omega)).mono ?_
              rintro e w3 ⟨rfl, hb⟩
              have HD1 := hidden (show (rdD n A m l).m1 j = K1 by simp only [rdD, rdAt_some HP.out]; exact HK1.out)
              have HD2 := hidden (show (rdD n A m l).m2 j = K2 by simp only [rdD, rdAt_some HP.out]; exact HK2.out)
              have HL1 := hidden (show (rdD n A m l).L1 j = T1 by simp only [rdD, rdAt_some HP.out]; exact HT1.out.symm)
              have HL2 := hidden (show (rdD n A m l).L2 j = T2 by simp only [rdD, rdAt_some HP.out, HK1.out, behind_add]; exact HT2.out.symm)
              have HE := hidden (show eqF n N A ((rdD n A m l).m1 j) ((rdD n A m l).L1 j) ((rdD n A m l).m2 j) ((rdD n A m l).L2 j) = eqF n N A K1 T1 K2 T2 by rw [HD1.out, HD2.out, HL1.out, HL2.out])
              have BW3 := hidden (keepB BW2.out hb)
              have X3 := hidden (X2.out.keep hb)
              have P1 := hidden (O1'.out.keep hb)
              have P2 := hidden (O2.out.keep hb)
              clear hb X2 O1' O2 BW2 D2 x0 x1 f0 f1 y0 y1 HT1 HT2
              by_cases hz : eqF n N A K1 T1 K2 T2 = 0
              · have hpos := eqF_pos HF.out hz
                try exact absurd hpos (by omega)
                all_goals
                  have HZ2 := hidden (eqsTo_next HZ.out (HE.out.trans hz))
                  have HNX := hidden (rdPos_step HP.out (by rw [HK1.out, HK2.out]; exact hpos))
                  rw [HK1.out, HK2.out] at HNX
                  obtain ⟨g1, rfl, lg1, og1⟩ := P1.out.resolve_left (by omega)
                  obtain ⟨g2, rfl, lg2, og2⟩ := P2.out.resolve_left (by omega)
                  have hg12 := HG1.out g1 rfl hpos.1
                  rw [hz]
                  have OG1 := hidden og1
                  have OG2 := hidden og2
                  have HGG := hidden (show wr.heap.size ≤ g1 ∧ g1 < g2 from ⟨by omega, by omega⟩)
                  have C1 := hidden (show K1 ≤ d1 from by obtain ⟨xs, hh, _⟩ := og1; rcases hh.2 with ⟨_, h0⟩ | ⟨g', cap, cur, hv, _, hgg, hc, _⟩; exact (by omega); injection hv with h1 h2 h3; omega)
                  have C2 := hidden (show K2 ≤ d2 from by obtain ⟨xs, hh, _⟩ := og2; rcases hh.2 with ⟨_, h0⟩ | ⟨g', cap, cur, hv, _, hgg, hc, _⟩; exact (by omega); injection hv with h1 h2 h3; omega)
                  obtain ⟨xs, G, hx1, hx2, hx3⟩ := GR.out.row
                  have bB := keepB BW3.out (alloc_below w3 (.cells #[.slice (some ⟨g1, 0, none⟩) K1 d1, .slice (some ⟨g2, 0, none⟩) K2 d2] 76))
                  have XO := hidden (ownsRow_up2 hx1 bB)
                  have HX2 := hidden hx2
                  have HX3 := hidden hx3
                  have BB := hidden bB
                  have t0 := X3.out.two.c0
                  have t1 := X3.out.two.c1
                  have hws := BL.out.size
                  have htop := GR.out.top
                  have hbsz := bB.size
                  clear hx1 hx2 hx3 bB og1 og2 P1 P2 hg12 hz lg1 lg2 HG1
                  go_wp2_with (at_builtin; refine (fun h => h trivial : (True → _) → _) ?_)
                  intro _
                  refine wpList_append_lies _ rfl _ _ 53 rfl w.heap.size 76 _ (.agg #[.slice none 0 0, .slice none 0 0]) 2 48 Try.underlying53 rfl rfl rfl rfl rfl (by decide) _ j xs rfl XO.out ⟨_, 0, none⟩ 1 1 [.slice (some ⟨g1, 0, none⟩) K1 d1, .slice (some ⟨g2, 0, none⟩) K2 d2] rfl rfl (two_srcE _ _ _ _ _ (by simp)) (by intro u hu; simp at hu; rcases hu with rfl | rfl <;> rfl) (by decide) (by unfold maxLen; omega) (by omega) (by simp at hbsz ⊢; omega) _ rfl ?_
                  intro g6 d6 w6 hown hgrow hat hlt6
                  replace hgrow : World.grownBy _ w6 u6.ownBlock := hgrow
                  replace hat : u6.ownBlock = some g6 ∨ _ := hat
                  have NEW := hidden (GR.out.put BB.out hgrow XO.out (fun e he => by
                    obtain ⟨d, a1, a2, a3, a4, a5⟩ := HX2.out e he
                    exact ⟨d, a1, a2, a3, a4, a5.lt, a5.keep BB.out⟩) HX3.out HGG.out.1 HGG.out.2 (d1 := d1) (d2 := d2) (by rw [HD1.out, HL1.out]; exact OG1.out.keep (alloc_below _ _)) (by rw [HD2.out, HL2.out]; exact OG2.out.keep (alloc_below _ _)) (by rw [HD1.out]; exact C1.out) (by rw [HD2.out]; exact C2.out) (by rw [HD1.out, HD2.out]; exact hown) (by rcases hat with hh | hh; exact Or.inl hh; exact Or.inr (by rw [hh]; try simp)))
                  have hbq := keepB BL.out BB.out
                  have HB6 := hidden (hbq.grown hgrow hbq.size (fun z hz => by have := (XO.out.lt z hz).1; omega))
                  have D6 := hidden (show One w6 B (.slice (some ⟨b, off, none⟩) n c) from by
                    have q1 := D.out.keep BB.out
                    have hb6 := hgrow.block B q1.blk (fun ee => by have := (XO.out.lt _ ee.symm).1; have := HDB.out; omega)
                    exact ⟨Nat.lt_of_lt_of_le q1.blk hgrow.size, (World.cell?_of_block (a := ⟨B, 0, none⟩) hb6).trans q1.c0⟩)
                  clear hown hgrow hat hlt6 hbq XO HX2 HX3 BB GR D BL t0 t1 hbsz X3
                  go_wp2
                  go_roundw
                  case rel => exact ⟨j + 1, p + K1 + K2, by omega, by go_num, by go_num, HNX, HZ2, NEW, D6, HB6⟩
                  case measure => simp [intOf]; omega
              · have HN := hidden (show ∀ p, ¬ OkE n N A m l p from fun p' hp' => by
                  have h1 := hp'.2.2.2
                  rw [HQN.out] at h1
                  rw [eqsTo_first HZ.out (by rw [HE.out]; exact hz) q hlt, HE.out] at h1
                  exact hz h1)
                have hz' : (eqF n N A K1 T1 K2 T2 != 0) = true := by simpa using hz
                generalize eqF n N A K1 T1 K2 T2 = z at hz' ⊢
                clear hz HE
                go_wp2
                go_ret2
                exact ⟨Or.inl ⟨HN.out, rfl⟩, keepB BL.out BW3.out⟩
        · obtain rfl : q = j := by omega
          have c0 := DZ.out _ BL.out
          go_wp2
          go_ret2
          exact ⟨Or.inr ⟨p, _, ⟨by omega, by rw [HQN.out]; exact HP.out, by rw [HQN.out]; omega, by rw [HQN.out]; exact HZ.out⟩, rfl, by rw [HQN.out]; exact GR.out⟩, BL.out⟩

end Go.Proofs.Ytcnkkoegfjggaaa
