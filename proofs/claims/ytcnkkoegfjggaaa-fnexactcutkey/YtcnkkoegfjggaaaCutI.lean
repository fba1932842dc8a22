/- Contracts: two terms cut off one behind the other; CutKey of the program. -/
import Derived.Test.YtcnkkoegfjggaaaUpI
namespace Go.Proofs.Ytcnkkoegfjggaaa
open Go.RowKit

/-- What cutting two terms answers: nothing, or two lists of its own and the bytes behind them. -/
def CutTwo (w : World) (K1 K2 : Nat) (T1 T2 : Nat → Int) (b' off' m : Nat) (e : Ending) (w' : World) : Prop :=
  (¬ (0 < K1 ∧ 0 < K2) ∧ e = .returned (.tuple #[.agg #[.slice none 0 0, .slice none 0 0], .slice none 0 0, .bool false])) ∨
  ((0 < K1 ∧ 0 < K2) ∧ ∃ g1 d1 g2 d2 o2 c2, e = .returned (.tuple #[.agg #[.slice (some ⟨g1, 0, none⟩) K1 d1, .slice (some ⟨g2, 0, none⟩) K2 d2], .slice (some ⟨b', o2, none⟩) (m - K1 - K2) c2, .bool true]) ∧ w.heap.size ≤ g1 ∧ g1 < g2 ∧
    OwnI w' w.heap.size g1 K1 d1 T1 K1 ∧ OwnI w' w.heap.size g2 K2 d2 T2 K2 ∧ m - K1 - K2 ≤ c2 ∧ (m = K1 + K2 ∨ o2 = off' + K1 + K2))

set_option maxRecDepth 20000 in
set_option maxHeartbeats 3200000 in
theorem cutSides_any (b off n c b' off' m c' : Nat) (N : Nat → ByteArray) (A l : Nat → Int) (w : World) (h : Syms w b off n N A) (hs : Sound n A) (hm : m ≤ 1048576) (hmc : m ≤ c') (hb' : b' < w.heap.size) (hl : Byts w (some ⟨b', off', none⟩) m l) :
    Calls Try.prog 50 #[.agg #[.slice (some ⟨b, off, none⟩) n c], .slice (some ⟨b', off', none⟩) m c'] w fun e w' => CutTwo w (rdK n A m l) (rd2 n A m l) (nodT l) (nodT (behind l (rdK n A m l))) b' off' m e w' ∧ Below w.heap.size w w' := by
  have D := hidden ((One.new w (.slice (some ⟨b, off, none⟩) n c) 32).keep (alloc_below _ (.cells #[.slice none 0 0, .slice none 0 0] 76)))
  have R := hidden (Res.new (w.alloc (.cells #[.slice (some ⟨b, off, none⟩) n c] 32)) (.slice none 0 0) (.slice none 0 0) 76)
  have B := hidden (keepB (alloc_below w (.cells #[.slice (some ⟨b, off, none⟩) n c] 32)) (alloc_below _ (.cells #[.slice none 0 0, .slice none 0 0] 76)))
  have Q := hidden (h.keep B.out)
  have I := hidden (hl.keep B.out)
  have LB := hidden (Nat.lt_of_lt_of_le hb' B.out.size)
  have HS := hidden hs
  rw [World.size_alloc] at R
  have hle := (rd_le (n := n) (A := A) (m := m) (l := l))
  have HK2 := hidden (show rd2 n A m l = rdK n A (m - rdK n A m l) (behind l (rdK n A m l)) from rfl)
  obtain ⟨T2, hT⟩ : ∃ T2, T2 = nodT (behind l (rdK n A m l)) := ⟨_, rfl⟩
  obtain ⟨K2, hk2⟩ : ∃ K2, K2 = rd2 n A m l := ⟨_, rfl⟩
  rw [← hT, ← hk2]
  rw [← hk2] at HK2
  obtain ⟨K1, hk1⟩ : ∃ K1, K1 = rdK n A m l := ⟨_, rfl⟩
  rw [← hk1] at hT HK2 hle ⊢
  have HT := hidden hT
  have HE := hidden hk1
  clear h hl hs hb' hT hk1 hk2
  have d0 := D.out.c0
  go_enter Try.func50, Try.ntmps50
  go_wp2_with fail
  with_reducible refine (cutTerm_reg _ _ _ _ _ _ m c' N A l _ Q.out HS.out hm hmc LB.out I.out).mono ?_
  rintro r w1 ⟨ha, hb⟩
  have hR := R.out.blk
  have hBs := B.out.size
  have LW := hidden hb.size
  replace D := hidden (D.out.keep hb)
  replace R := hidden (R.out.keep hb)
  replace B := hidden (keepB B.out hb)
  replace I := hidden (I.out.keep hb)
  replace Q := hidden (Q.out.keep hb)
  replace LB := hidden (Nat.lt_of_lt_of_le LB.out hb.size)
  rw [← HE.out] at ha
  clear hb d0
  rcases ha with ⟨h0, rfl⟩ | ⟨h0, g1, d1, o1, c1, rfl, hg1, ho1, hc1, hp1⟩
  · have HN := hidden (show ¬ (0 < K1 ∧ 0 < K2) from fun h => by omega)
    clear h0
    obtain ⟨_, q0, q1, f0, f1⟩ := id R.out
    go_wp2
    exact bodyPost_ret (v := .tuple #[.agg #[.slice none 0 0, .slice none 0 0], .slice none 0 0, .bool false]) (by simp [results, Try.results50, go_sem, q0, q1]) rfl ⟨Or.inl ⟨HN.out, rfl⟩, (B.out.setCell (by simp) _).setCell (by simp) _⟩
  · have O1 := hidden ho1
    have HB := hidden (I.out.behind hle.1)
    have HPOS := hidden h0
    clear ho1
    have hk1 : K1 ≤ m := hle.1
    have I2 := hidden (show Byts w1 (some ⟨b', o1, none⟩) (m - K1) (behind l K1) from by
      rcases hp1 with e | e
      · exact ⟨Or.inl (by omega), fun i hi => by omega⟩
      · rw [e]; exact HB.out)
    have HP := hidden hp1
    clear hp1 HB hle
    have d0 := D.out.c0
    go_wp2_with fail
    with_reducible refine (cutTerm_reg _ _ _ _ _ _ (m - K1) c1 N A (behind l K1) _ Q.out HS.out (by omega) hc1 LB.out I2.out).mono ?_
    rintro r w2 ⟨ha, hb⟩
    rw [← HK2.out, ← HT.out] at ha
    have hle2 := (rd_le (n := n) (A := A) (m := m - K1) (l := behind l K1)).1
    rw [← HK2.out] at hle2
    have hB2 := B.out.size
    have hW1 := O1.out.lt
    replace R := hidden (R.out.keep hb)
    replace B := hidden (keepB B.out hb)
    replace O1 := hidden (O1.out.keep hb)
    clear hb d0
    rcases ha with ⟨h2, rfl⟩ | ⟨h2, g2, d2, o2, c2, rfl, hg2, ho2, hc2, hp2⟩
    · have HN := hidden (show ¬ (0 < K1 ∧ 0 < K2) from fun h => by omega)
      clear h0 h2
      obtain ⟨_, q0, q1, f0, f1⟩ := id R.out
      go_wp2
      exact bodyPost_ret (v := .tuple #[.agg #[.slice none 0 0, .slice none 0 0], .slice none 0 0, .bool false]) (by simp [results, Try.results50, go_sem, q0, q1]) rfl ⟨Or.inl ⟨HN.out, rfl⟩, (B.out.setCell (by simp) _).setCell (by simp) _⟩
    · have O2 := hidden ho2
      have HN := hidden (show 0 < K1 ∧ 0 < K2 from ⟨h0, h2⟩)
      have HC := hidden hc2
      have HP2 := hidden (show m = K1 + K2 ∨ o2 = off' + K1 + K2 by
        rcases hp2 with e | e
        · exact Or.inl (by omega)
        · rcases HP.out with e1 | e1
          · exact Or.inl (by omega)
          · exact Or.inr (by rw [e, e1]))
      clear h0 h2 ho2 hp2
      obtain ⟨_, q0, q1, f0, f1⟩ := id R.out
      go_wp2
      exact bodyPost_ret (v := .tuple #[.agg #[.slice (some ⟨g1, 0, none⟩) K1 d1, .slice (some ⟨g2, 0, none⟩) K2 d2], .slice (some ⟨b', o2, none⟩) (m - K1 - K2) c2, .bool true]) (by simp [results, Try.results50, go_sem, q0, q1]) rfl ⟨Or.inr ⟨HN.out, g1, d1, g2, d2, o2, c2, rfl, by omega, by omega, ((O1.out.other _ _ (by simp; omega)).other _ _ (by simp; omega)).base (by omega), ((O2.out.other _ _ (by simp; omega)).other _ _ (by simp; omega)).base (by omega), HC.out, HP2.out⟩, (B.out.setCell (by simp) _).setCell (by simp) _⟩

section
variable {n : Nat} {N : Nat → ByteArray} {A : Nat → Int} {m : Nat} {l : Nat → Int}
/-- A term that bytes begin with has no fault. -/
theorem rd_term (hf : faultF n N A = 0) (h : 0 < rdK n A m l) : termF n N A (rdK n A m l) (nodT l) = 0 := by
  have hp := rd_spec (n := n) (A := A) (m := m) (l := l) (by omega)
  rw [term_l hf]
  have := hp.most
  exact lF_ok (by omega) (fun i hi => okN_node (hp.ok i hi)) hp.whole

theorem cut_key (hf : faultF n N A = 0) (h1 : 0 < rdK n A m l) (h2 : 0 < rd2 n A m l) (ha : rdK n A m l + rd2 n A m l = m) :
    CutP n A m l ↔ keyC n N A (rdK n A m l) (nodT l) (rd2 n A m l) (nodT (behind l (rdK n A m l))) = 0 := by
  have t1 := rd_term hf h1
  have t2 : termF n N A (rd2 n A m l) (nodT (behind l (rdK n A m l))) = 0 := rd_term hf h2
  rw [key_short t1 t2]
  exact ⟨fun h => h.short, fun h => ⟨by omega, by omega, ha, h⟩⟩
end

set_option maxRecDepth 20000 in
set_option maxHeartbeats 3200000 in
theorem implCut_any (b off n c b' off' m c' : Nat) (N : Nat → ByteArray) (A l : Nat → Int) (w : World) (h : Syms w b off n N A) (h' : Byts w (some ⟨b', off', none⟩) m l) (hb' : b' < w.heap.size) (hk : Kept n N A) (hm : m ≤ 1048576) (hmc : m ≤ c') :
    Calls Try.prog 25 #[.agg #[.slice (some ⟨b, off, none⟩) n c], .slice (some ⟨b', off', none⟩) m c'] w fun e w' => KeyAns w (ckC n N A m l) (rdK n A m l) (nodT l) (rd2 n A m l) (nodT (behind l (rdK n A m l))) e w' ∧ Below w.heap.size w w' := by
  have D := hidden ((One.new w (.slice (some ⟨b, off, none⟩) n c) 32).keep (alloc_below _ (.cells #[.int .i64 0, .slice none 0 0, .slice none 0 0] 49)))
  have R := hidden (Res3.new (w.alloc (.cells #[.slice (some ⟨b, off, none⟩) n c] 32)) (.int .i64 0) (.slice none 0 0) (.slice none 0 0) 49)
  have B := hidden (keepB (alloc_below w (.cells #[.slice (some ⟨b, off, none⟩) n c] 32)) (alloc_below _ (.cells #[.int .i64 0, .slice none 0 0, .slice none 0 0] 49)))
  have Q := hidden (h.keep B.out)
  have I := hidden (h'.keep B.out)
  have LB := hidden (Nat.lt_of_lt_of_le hb' B.out.size)
  have HK := hidden hk
  rw [World.size_alloc] at R
  obtain ⟨T2, hT⟩ : ∃ T2, T2 = nodT (behind l (rdK n A m l)) := ⟨_, rfl⟩
  have HKY := hidden (cut_key (n := n) (N := N) (A := A) (m := m) (l := l))
  obtain ⟨K2, hk2⟩ : ∃ K2, K2 = rd2 n A m l := ⟨_, rfl⟩
  rw [← hT, ← hk2] at HKY ⊢
  have HC1 := hidden (fun h : CutP n A m l => h.k2)
  have HC2 := hidden (fun h : CutP n A m l => h.all)
  rw [← hk2] at HC1 HC2
  have hle := (rd_le (n := n) (A := A) (m := m) (l := l))
  have HC0 := hidden (fun h : CutP n A m l => h.k1)
  have hle2 : K2 ≤ m - rdK n A m l ∧ K2 ≤ 24 := hk2 ▸ rd_le
  obtain ⟨K1, hk1⟩ : ∃ K1, K1 = rdK n A m l := ⟨_, rfl⟩
  rw [← hk1] at HKY HC0 HC2 hle hle2 hT ⊢
  have HT := hidden hT
  have HE1 := hidden hk1
  have HE2 := hidden hk2
  clear h h' hk hb' hT hk1 hk2
  go_enter Try.func25, Try.ntmps25
  go_wp2_with fail
  with_reducible refine (implFault_all _ _ _ _ N A _ Q.out HK.out).mono ?_
  rintro e w1 ⟨rfl, hb⟩
  replace D := hidden (D.out.keep hb)
  replace R := hidden (R.out.keep hb)
  replace B := hidden (keepB B.out hb)
  replace I := hidden (I.out.keep hb)
  replace Q := hidden (Q.out.keep hb)
  replace LB := hidden (Nat.lt_of_lt_of_le LB.out hb.size)
  clear hb
  by_cases hf : faultF n N A = 0
  · have HF := hidden hf
    have HS := hidden (fault_sound hf)
    rw [hf]
    clear hf
    have d0 := D.out.c0
    go_wp2_with fail
    with_reducible refine (cutSides_any _ _ _ _ _ _ m c' N A l _ Q.out HS.out hm hmc LB.out I.out).mono ?_
    rintro r w3 ⟨ha, hb⟩
    rw [← HE1.out, ← HE2.out, ← HT.out] at ha
    have hR := R.out.blk
    have hBs := B.out.size
    have hw3 := hb.size
    replace D := hidden (D.out.keep hb)
    replace R := hidden (R.out.keep hb)
    replace B := hidden (keepB B.out hb)
    replace Q := hidden (Q.out.keep hb)
    clear hb I LB d0
    rcases ha with ⟨h0, rfl⟩ | ⟨h0, g1, d1, g2, d2, o2, c2, rfl, hg1, hg12, ho1, ho2, hc2, _⟩
    · have HC := hidden (ck_text (m := m) (l := l) HF.out (fun h => h0 ⟨Nat.pos_of_ne_zero (HC0.out h), Nat.pos_of_ne_zero (HC1.out h)⟩))
      clear h0
      replace R := hidden (R.out.keep (alloc_below w3 (.cells #[.slice none 0 0, .slice none 0 0] 76)))
      replace B := hidden (keepB B.out (alloc_below w3 (.cells #[.slice none 0 0, .slice none 0 0] 76)))
      obtain ⟨_, q0, q1, q2, f0, f1, f2⟩ := id R.out
      go_wp2
      exact bodyPost_ret (v := .agg #[.int .i64 5, .slice none 0 0, .slice none 0 0]) (by simp [results, Try.results25, go_sem, q0, q1, q2]) rfl ⟨Or.inl ⟨by rw [HC.out]; decide, by rw [HC.out]⟩, ((B.out.setCell (by simp) _).setCell (by simp) _).setCell (by simp) _⟩
    · have HP := hidden h0
      have A1 := hidden (alloc_below w3 (.cells #[.slice (some ⟨g1, 0, none⟩) K1 d1, .slice (some ⟨g2, 0, none⟩) K2 d2] 76))
      have z0 := hidden (Res.new w3 (.slice (some ⟨g1, 0, none⟩) K1 d1) (.slice (some ⟨g2, 0, none⟩) K2 d2) 76)
      have O1 := hidden (ho1.keep A1.out)
      have O2 := hidden (ho2.keep A1.out)
      replace R := hidden (R.out.keep A1.out)
      replace D := hidden (D.out.keep A1.out)
      replace Q := hidden (Q.out.keep A1.out)
      replace B := hidden (keepB B.out A1.out)
      have hsz : (w3.alloc (.cells #[.slice (some ⟨g1, 0, none⟩) K1 d1, .slice (some ⟨g2, 0, none⟩) K2 d2] 76)).heap.size = w3.heap.size + 1 := by simp
      clear ho1 ho2 A1
      obtain ⟨r, hr⟩ : ∃ r, r = m - K1 - K2 := ⟨_, rfl⟩
      rw [← hr] at hc2 ⊢
      by_cases hr0 : r = 0
      · subst hr0
        have HA := hidden (show K1 + K2 = m by omega)
        obtain ⟨_, q0, q1, q2, f0, f1, f2⟩ := id R.out
        obtain ⟨_, y0, y1, _, _⟩ := id z0.out
        have d0 := D.out.c0
        clear hr
        go_wp2_with fail
        with_reducible refine (keyFault_any _ _ _ _ _ _ _ _ _ _ _ _ N A (nodT l) T2 _ Q.out O1.out.ints O2.out.ints HK.out (by omega) (by omega)).mono ?_
        rintro e w5 ⟨rfl, hb⟩
        clear d0 y0 y1 q0 q1 q2 f0 f1 f2
        have z1 := hidden (z0.out.keep hb)
        replace R := hidden (R.out.keep hb)
        replace B := hidden (keepB B.out hb)
        replace O1 := hidden (O1.out.keep hb)
        replace O2 := hidden (O2.out.keep hb)
        clear hb
        obtain ⟨_, q0, q1, q2, f0, f1, f2⟩ := id R.out
        obtain ⟨_, y0, y1, _, _⟩ := id z1.out
        have HKC := hidden (HKY.out HF.out HP.out.1 HP.out.2 HA.out)
        by_cases hkc : keyC n N A K1 (nodT l) K2 T2 = 0
        · have HC := hidden (ck_ok (m := m) (l := l) HF.out (HKC.out.2 hkc))
          rw [hkc]
          clear hkc
          go_wp2
          exact bodyPost_ret (v := .agg #[.int .i64 0, .slice (some ⟨g1, 0, none⟩) K1 d1, .slice (some ⟨g2, 0, none⟩) K2 d2]) (by simp [results, Try.results25, go_sem, q0, q1, q2]) rfl ⟨Or.inr ⟨HC.out, g1, d1, g2, d2, rfl, by omega, hg12,
            (((O1.out.other _ _ (by simp; omega)).other _ _ (by simp; omega)).other _ _ (by simp; omega)).base (by omega),
            (((O2.out.other _ _ (by simp; omega)).other _ _ (by simp; omega)).other _ _ (by simp; omega)).base (by omega)⟩, ((B.out.setCell (by simp) _).setCell (by simp) _).setCell (by simp) _⟩
        · have HC := hidden (ck_text (m := m) (l := l) HF.out (fun h => hkc (HKC.out.1 h)))
          have hkc' : (keyC n N A K1 (nodT l) K2 T2 != 0) = true := by simpa using hkc
          generalize keyC n N A K1 (nodT l) K2 T2 = z at hkc' ⊢
          clear hkc
          go_wp2
          exact bodyPost_ret (v := .agg #[.int .i64 5, .slice none 0 0, .slice none 0 0]) (by simp [results, Try.results25, go_sem, q0, q1, q2]) rfl ⟨Or.inl ⟨by rw [HC.out]; decide, by rw [HC.out]⟩, ((B.out.setCell (by simp) _).setCell (by simp) _).setCell (by simp) _⟩
      · have HC := hidden (ck_text (m := m) (l := l) HF.out (fun h => hr0 (by have := HC2.out h; omega)))
        have hr1 : 0 < r := by omega
        obtain ⟨_, q0, q1, q2, f0, f1, f2⟩ := id R.out
        clear hr hr0
        go_wp2
        exact bodyPost_ret (v := .agg #[.int .i64 5, .slice none 0 0, .slice none 0 0]) (by simp [results, Try.results25, go_sem, q0, q1, q2]) rfl ⟨Or.inl ⟨by rw [HC.out]; decide, by rw [HC.out]⟩, ((B.out.setCell (by simp) _).setCell (by simp) _).setCell (by simp) _⟩
  · have HN := hidden hf
    have HC := hidden (ck_fault (m := m) (l := l) hf)
    have hf' : (faultF n N A != 0) = true := by simpa using hf
    generalize faultF n N A = z at hf' HN HC ⊢
    clear hf
    obtain ⟨_, q0, q1, q2, f0, f1, f2⟩ := id R.out
    go_wp2
    exact bodyPost_ret (v := .agg #[.int .i64 z, .slice none 0 0, .slice none 0 0]) (by simp [results, Try.results25, go_sem, q0, q1, q2]) rfl ⟨Or.inl ⟨by rw [HC.out]; exact HN.out, by rw [HC.out]⟩, ((B.out.setCell (by simp) _).setCell (by simp) _).setCell (by simp) _⟩

end Go.Proofs.Ytcnkkoegfjggaaa
