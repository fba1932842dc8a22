/- Contract: a term rewritten as long as it can be, as the model does it. -/
import Derived.Test.YtbdgnpjbmlcchaaMR
namespace Go.Proofs.Ytbdgnpjbmlcchaa
open Go.RowKit

/-- One step at a place by a rule: its code, and the term that comes of it. -/
def stC (A : Nat → Int) (D : EqL) (m : Nat) (T : Nat → Int) (s : Nat × Nat) : Int := rwC A T m (D.L1 s.2) (D.m1 s.2) (D.L2 s.2) (D.m2 s.2) s.1 (enN (aOf A T) m s.1)
def stK (A : Nat → Int) (D : EqL) (m : Nat) (T : Nat → Int) (s : Nat × Nat) : Nat := rwK A T m (D.L1 s.2) (D.m1 s.2) (D.L2 s.2) (D.m2 s.2) s.1 (enN (aOf A T) m s.1)
def stU (A : Nat → Int) (D : EqL) (m : Nat) (T : Nat → Int) (s : Nat × Nat) : Nat → Int := rwU A T m (D.L1 s.2) (D.m1 s.2) (D.L2 s.2) (D.m2 s.2) s.1 (enN (aOf A T) m s.1)

/-- What rewriting ends at. -/
structure NfR where
  C : Int
  steps : Nat
  K : Nat
  U : Nat → Int

/-- Rewriting with so many steps left, behind so many. -/
def nfR (A : Nat → Int) (D : EqL) (r : Nat) : Nat → Nat → Nat → (Nat → Int) → NfR
  | 0, j, m, T => match rdx A T m D r with
    | none => ⟨0, j, m, T⟩
    | some _ => ⟨9, 0, 0, T⟩
  | f + 1, j, m, T => match rdx A T m D r with
    | none => ⟨0, j, m, T⟩
    | some s => if stC A D m T s = 0 then nfR A D r f (j + 1) (stK A D m T s) (stU A D m T s) else ⟨stC A D m T s, 0, 0, T⟩

section
variable {A T : Nat → Int} {D : EqL} {r f j m n : Nat} {s : Nat × Nat}
theorem nf_none (h : rdx A T m D r = none) : nfR A D r f j m T = ⟨0, j, m, T⟩ := by cases f <;> simp [nfR, h]
theorem nf_out (h : rdx A T m D r = some s) : nfR A D r 0 j m T = ⟨9, 0, 0, T⟩ := by simp [nfR, h]
theorem nf_bad (h : rdx A T m D r = some s) (hc : stC A D m T s ≠ 0) : nfR A D r (f + 1) j m T = ⟨stC A D m T s, 0, 0, T⟩ := by simp [nfR, h, hc]
theorem nf_step (h : rdx A T m D r = some s) (hc : stC A D m T s = 0) : nfR A D r (f + 1) j m T = nfR A D r f (j + 1) (stK A D m T s) (stU A D m T s) := by simp [nfR, h, hc]

/-- The place lies in the term, the rule in the list. -/
theorem rdx_in (hg : Trm n A m T) (h : rdx A T m D r = some s) : s.1 < m ∧ s.2 < r ∧ skip (aOf A T) m s.1 1 = some (enN (aOf A T) m s.1) := by
  obtain ⟨p, q⟩ := s
  obtain ⟨h1, h2, _⟩ := bst_some _ _ _ h
  obtain ⟨e, he, _, _⟩ := skip_inner hg.whole h1
  exact ⟨h1, fit_lt _ _ h2, by simp only [enN_some he]; exact he⟩

theorem st_trm (hg : Trm n A m T) (hr : EqOk n A r D) (h : rdx A T m D r = some s) (hc : stC A D m T s = 0) : Trm n A (stK A D m T s) (stU A D m T s) := by
  obtain ⟨h1, h2, h3⟩ := rdx_in hg h
  exact rw_trm hg (hr.trm _ h2).1 (hr.trm _ h2).2 h1 h3 hc
end

/-- What the model's rewriting answers, and the program's. -/
def NfAns (w : World) (R : NfR) (e : Ending) (w' : World) : Prop :=
  (R.C ≠ 0 ∧ e = .returned (.agg #[.int .i64 R.C, .slice none 0 0, .int .i64 0])) ∨ (R.C = 0 ∧ ∃ g d, e = .returned (.agg #[.int .i64 0, .slice (some ⟨g, 0, none⟩) R.K d, .int .i64 (R.steps : Nat)]) ∧ w.heap.size ≤ g ∧ OwnI w' w.heap.size g R.K d R.U R.K ∧ R.K ≤ 24)

set_option maxRecDepth 20000 in
set_option maxHeartbeats 6400000 in
theorem l8Normal_any (Bs b off n c b1 o1 r c1 b' off' m c' z : Nat) (N : Nat → ByteArray) (A T : Nat → Int) (D : EqL) (w : World) (hs : One w Bs (.slice (some ⟨b, off, none⟩) n c)) (h : Syms w b off n N A) (hD : Eqs w b1 o1 r D) (h' : Ints w b' off' m T) (hg : Trm n A m T) (hr : EqOk n A r D) (hz : z ≤ 200) :
    Calls Try.prog 31 #[.pointer (some ⟨Bs, 0, none⟩), .slice (some ⟨b1, o1, none⟩) r c1, .slice (some ⟨b', off', none⟩) m c', .int .i64 (z : Nat)] w fun e w' => NfAns w (nfR A D r z 0 m T) e w' ∧ Below w.heap.size w w' := by
  have RB := hidden (Num3.new w (.int .i64 0) (.slice none 0 0) (.int .i64 0) 49)
  have B := hidden (alloc_below w (.cells #[.int .i64 0, .slice none 0 0, .int .i64 0] 49))
  have HS := hidden (hs.keep B.out)
  have HY := hidden (h.keep B.out)
  have HD := hidden (hD.keep B.out)
  have HT := hidden (h'.keep B.out)
  have HG := hidden hg
  have HE := hidden hr
  have hr12 := hr.most
  have hm24 := hg.nods.most
  clear hs h hD h' hg hr
  go_enter Try.func31, Try.ntmps31
  go_wp2_with fail
  with_reducible refine (l1Ints_any _ _ _ _ T _ HT.out (by omega)).mono ?_
  rintro e w1 ⟨g0, d0, rfl, hg0, ho, hb⟩
  have O1 := hidden (ho.base (B' := w.heap.size) (by simp at hg0; omega))
  have hg1 : w.heap.size + 1 ≤ g0 := by simpa using hg0
  replace RB := hidden (RB.out.keep hb)
  replace HS := hidden (HS.out.keep hb)
  replace HY := hidden (HY.out.keep hb)
  replace HD := hidden (HD.out.keep hb)
  replace B := hidden (keepB B.out hb)
  clear HT ho hb hg0
  go_wp2
  go_loopw [9, 10] (fun t i wr => ∃ (j mj g d : Nat) (Tj : Nat → Int), j ≤ z ∧ i = .int .i64 (j : Nat) ∧ t = .slice (some ⟨g, 0, none⟩) mj d ∧ w.heap.size + 1 ≤ g ∧ mj ≤ d ∧ mj ≤ 24 ∧ Hid (OwnI wr w.heap.size g mj d Tj mj) ∧ Hid (Trm n A mj Tj) ∧ Hid (nfR A D r z 0 m T = nfR A D r (z - j) j mj Tj) ∧ Hid (Below w1.heap.size w1 wr)) (fun _ i _ => z - (intOf i).toNat)
  case atStart => exact ⟨0, m, g0, d0, T, Nat.zero_le _, rfl, rfl, hg1, O1.out.capW, hm24, O1, HG, hidden (show nfR A D r z 0 m T = nfR A D r (z - 0) 0 m T by rw [Nat.sub_zero]), hidden (Below.refl _ _)⟩
  case round =>
    obtain ⟨j, mj, g, d, Tj, hj, rfl, rfl, hgj, hcap, hmj, OJ, GJ, HN, HB⟩ := hrel
    have SE := hidden (l8Find_any Bs b off n c b1 o1 r c1 g 0 mj d N A Tj D wr (HS.out.keep HB.out) (HY.out.keep HB.out) (HD.out.keep HB.out) OJ.out.ints GJ.out HE.out hcap)
    go_wp2_with fail
    with_reducible refine SE.out.mono ?_
    rintro r1 w2 ⟨rfl, hb⟩
    replace OJ := hidden (OJ.out.keep hb)
    have B2 := hidden (keepB HB.out hb)
    clear hb SE
    cases hx : rdx A Tj mj D r with
    | none =>
      have HA := hidden (HN.out.trans (nf_none hx))
      rw [(rd_none hx).1, (rd_none hx).2]
      clear hx
      have BB := hidden (keepB B.out B2.out)
      obtain ⟨_, q0, q1, q2, f0, f1, f2⟩ := RB.out.keep B2.out
      go_wp2
      exact bodyPost_ret (v := .agg #[.int .i64 0, .slice (some ⟨g, 0, none⟩) mj d, .int .i64 (j : Nat)]) (by simp [results, Try.results31, go_sem, q0, q1, q2]) rfl ⟨by rw [HA.out]; exact Or.inr ⟨rfl, g, d, rfl, by omega, ((OJ.out.other _ _ (by show g ≠ w.heap.size; omega)).other _ _ (by show g ≠ w.heap.size; omega)).other _ _ (by show g ≠ w.heap.size; omega), hmj⟩, ((BB.out.setCell (by simp) _).setCell (by simp) _).setCell (by simp) _⟩
    | some s =>
      obtain ⟨p, i⟩ := s
      obtain ⟨hp, hi, hsk⟩ := rdx_in GJ.out hx
      simp only at hp hi hsk
      have HX := hidden hx
      have HSK := hidden hsk
      rw [(rd_some hx).1, (rd_some hx).2]
      clear hx hsk
      by_cases hlt : j < z
      · obtain ⟨g1, p1, d1, g2, p2, d2, e1, e2, i1, i2⟩ := (HD.out.keep B2.out).row i hi
        have TK := hidden (HE.out.trm i hi)
        have SR := hidden (l8Rewrite_any Bs b off n c b1 (o1 + i * 2) g1 p1 (D.m1 i) d1 g2 p2 (D.m2 i) d2 g 0 mj d p _ N A (D.L1 i) (D.L2 i) Tj w2 (HS.out.keep B2.out) (HY.out.keep B2.out) (TwoAt.mk ((HD.out.keep B2.out).blk (by omega)) e1 e2) i1 i2 OJ.out.ints GJ.out TK.out.1 TK.out.2 HSK.out hp hcap)
        have hz1 : ¬ (z : Int) ≤ (j : Int) := by omega
        clear i1 i2 e1 e2
        go_wp2_with fail
        with_reducible refine SR.out.mono ?_
        rintro e1 w4 ⟨ha, hb⟩
        have B4 := hidden (keepB B2.out hb)
        have hgw := OJ.out.lt
        clear hb SR
        rcases ha with ⟨hne, rfl⟩ | ⟨h00, gr, dr, rfl, hgr, hor⟩
        · obtain ⟨q, hq⟩ : ∃ q, q = rwC A Tj mj (D.L1 i) (D.m1 i) (D.L2 i) (D.m2 i) p (enN (aOf A Tj) mj p) := ⟨_, rfl⟩
          have HA := hidden (show nfR A D r z 0 m T = ⟨q, 0, 0, Tj⟩ by
            rw [HN.out, show z - j = (z - j - 1) + 1 by omega, nf_bad HX.out hne, hq]; rfl)
          have HNE := hidden (show q ≠ 0 by rw [hq]; exact hne)
          rw [← hq]
          clear hq hne
          have hq' : (q != 0) = true := by simpa using HNE.out
          have BB := hidden (keepB B.out B4.out)
          obtain ⟨_, q0, q1, q2, f0, f1, f2⟩ := RB.out.keep B4.out
          go_wp2
          exact bodyPost_ret (v := .agg #[.int .i64 q, .slice none 0 0, .int .i64 0]) (by simp [results, Try.results31, go_sem, q0, q1, q2]) rfl ⟨by rw [HA.out]; exact Or.inl ⟨HNE.out, rfl⟩, ((BB.out.setCell (by simp) _).setCell (by simp) _).setCell (by simp) _⟩
        · have HA := hidden (show nfR A D r z 0 m T = nfR A D r (z - (j + 1)) (j + 1) (stK A D mj Tj (p, i)) (stU A D mj Tj (p, i)) by
            rw [HN.out, show z - j = (z - (j + 1)) + 1 by omega, nf_step HX.out h00])
          have GK := hidden (st_trm GJ.out HE.out HX.out h00)
          have OK := hidden (hor.base (B' := w.heap.size) (by have := B.out.size; have := B2.out.size; omega))
          have hk24 := GK.out.nods.most
          have hkd := OK.out.capW
          have hgr2 : w.heap.size + 1 ≤ gr := by omega
          obtain ⟨KK, hKK⟩ : ∃ KK, KK = rwK A Tj mj (D.L1 i) (D.m1 i) (D.L2 i) (D.m2 i) p (enN (aOf A Tj) mj p) := ⟨_, rfl⟩
          have HK := hidden hKK
          replace HA := hidden (show nfR A D r z 0 m T = nfR A D r (z - (j + 1)) (j + 1) KK (stU A D mj Tj (p, i)) by rw [HK.out]; exact HA.out)
          replace GK := hidden (show Trm n A KK (stU A D mj Tj (p, i)) by rw [HK.out]; exact GK.out)
          replace hk24 : KK ≤ 24 := by rw [hKK]; exact hk24
          rw [← hKK] at OK hkd ⊢
          clear h00 hor hKK hgr
          go_wp2
          go_roundw
          case rel => exact ⟨j + 1, KK, gr, dr, _, by omega, by go_num, rfl, hgr2, hkd, hk24, OK, GK, HA, B4⟩
          case measure => simp [intOf]; omega
      · obtain rfl : j = z := by omega
        have HA := hidden (show nfR A D r j 0 m T = ⟨9, 0, 0, Tj⟩ by rw [HN.out, Nat.sub_self, nf_out HX.out])
        have BB := hidden (keepB B.out B2.out)
        obtain ⟨_, q0, q1, q2, f0, f1, f2⟩ := RB.out.keep B2.out
        go_wp2
        exact bodyPost_ret (v := .agg #[.int .i64 9, .slice none 0 0, .int .i64 0]) (by simp [results, Try.results31, go_sem, q0, q1, q2]) rfl ⟨by rw [HA.out]; exact Or.inl ⟨by show (9 : Int) ≠ 0; decide, rfl⟩, ((BB.out.setCell (by simp) _).setCell (by simp) _).setCell (by simp) _⟩

end Go.Proofs.Ytbdgnpjbmlcchaa
