/- Several texts as one: Repl, ReplS, ReplI, ReK, ReplMath, ReplKey, ReKey. -/
import Derived.Test.YtjjpkhlbokfjpaaCat
import Derived.Test.YtjjpkhlbokfjpaaNil
import Derived.Test.YtjjpkhlbokfjpaaDrawRank
import Derived.Test.YtjjpkhlbokfjpaaSub
/- Contract: a term with another one at a place: the model's l3Replace. -/
namespace Go.Proofs.Ytjjpkhlbokfjpaa
open Go.RowKit

set_option maxRecDepth 20000 in
set_option maxHeartbeats 3200000 in
theorem l3Replace_any (B b off n c b' off' m c' b3 off3 k c3 q e : Nat) (N : Nat → ByteArray) (A T M : Nat → Int) (w : World) (hd : One w B (.slice (some ⟨b, off, none⟩) n c)) (h : Syms w b off n N A) (h' : Ints w b' off' m T) (h3 : Ints w b3 off3 k M) (hg : Nods n A m T) (hq : q < m) (hc : m ≤ c') (hk : 1 ≤ k ∧ k ≤ 24) (he : skip (aOf A T) m q 1 = some e) :
    Calls Try.prog 40 #[.pointer (some ⟨B, 0, none⟩), .slice (some ⟨b', off', none⟩) m c', .int .i64 q, .slice (some ⟨b3, off3, none⟩) k c3] w fun r w' => ∃ g d, r = .returned (.slice (some ⟨g, 0, none⟩) (q + k + (m - e)) d) ∧ w.heap.size ≤ g ∧ OwnI w' w.heap.size g (q + k + (m - e)) d (catU q k e T M) (q + k + (m - e)) ∧ Below w.heap.size w w' := by
  have hqe := (skip_le he).2 (by omega)
  have D := hidden hd
  have H := hidden h
  have H' := hidden h'
  have H3 := hidden h3
  have HG := hidden hg
  have HE := hidden (endV_some he)
  have hm24 := hg.most
  have g1 : q ≤ c' := by omega
  have g2 : e ≤ m := by omega
  have g3 : ¬ c' = 0 := by omega
  have IQ := hidden (show Ints w b' off' q T from ⟨fun _ => h'.blk (by omega), fun i hi => h'.cell i (by omega)⟩)
  clear hd h h' h3 hg he
  go_enter Try.func40, Try.ntmps40
  go_wp2_with fail
  with_reducible refine (l1Ints_any _ _ _ _ T _ IQ.out (by omega)).mono ?_
  rintro r w1 ⟨g4, d1, rfl, hg1, ho1, hb⟩
  have O1 := hidden ho1.vals
  have B1 := hidden hb
  have I3 := hidden (H3.out.keep hb)
  clear hb ho1 IQ
  go_wp2_with (first | (at_builtin; refine wpList_append_own _ rfl _ _ 27 rfl w.heap.size 2 _ (.int .i64 0) 1 8 Try.underlying27 rfl rfl rfl rfl rfl (by decide) _ _ _ rfl O1.out ⟨b3, off3, none⟩ k c3 (valsI M k) rfl (by simp [valsI]) I3.out.src0 (intNews _ _) (by unfold maxLen; omega) (by omega) (by have := B1.out.size; omega) ?_) | fail)
  intro v' w2 hown hgrow hnil
  obtain ⟨g5, d2, rfl, hg2, ho, hb⟩ := row_open hown (by simpa using hnil) (B1.out.grown hgrow B1.out.size (by intro x hx; simp [Value.ownBlock] at hx; omega))
  have O2 := hidden ho
  have B2 := hidden hb
  clear hown hgrow hnil ho hb O1 B1 I3
  go_wp2_with fail
  with_reducible refine (l3End_any _ _ _ _ _ _ _ _ _ N A T HG.out m q (by omega) (by omega) _ (D.out.keep B2.out) (H.out.keep B2.out) (H'.out.keep B2.out)).mono ?_
  rintro r w3 ⟨rfl, hb⟩
  rw [HE.out]
  have hl := (O2.out.lt g5 rfl).2
  have O3 := hidden (ownsRow_later O2.out hb hl)
  have B3 := hidden (keepB B2.out hb)
  have I4 := hidden ((H'.out.keep B3.out).part (q := e) (k := m - e) (by omega))
  clear hb O2 B2 hl
  by_cases hce : c' = e
  · subst hce
    obtain rfl : m = c' := by omega
    have hmm : m - m = 0 := Nat.sub_self m
    go_wp2_with (at_builtin; refine wpList_append_own _ rfl _ _ 27 rfl w.heap.size 2 _ (.int .i64 0) 1 8 Try.underlying27 rfl rfl rfl rfl rfl (by decide) _ _ _ rfl O3.out ⟨b', off', none⟩ 0 0 [] rfl rfl (fun j u hj => by simp at hj) (fun u hu => by simp at hu) (by unfold maxLen; omega) (by omega) (by have := B3.out.size; omega) ?_)
    intro v' w4 hown hgrow hnil
    obtain ⟨g6, d4, rfl, hg4, ho, hb⟩ := row_open hown (by simpa using hnil) (B3.out.grown hgrow B3.out.size (by intro x hx; simp [Value.ownBlock] at hx; omega))
    have O4 := hidden ho
    have B4 := hidden hb
    clear hown hgrow hnil ho hb O3 B3 I4
    go_wp2
    go_ret
    have O5 := O4.out
    have e2 : valsI T q ++ valsI M k ++ [] = valsI (catU q k m T M) (q + k + (m - m)) := by
      rw [← cat_vals, hmm]; rfl
    rw [List.append_nil] at e2
    simp only [e2] at O5
    rw [hmm] at O5 ⊢
    exact ⟨g6, d4, rfl, hg4, row_own O5, B4.out⟩
  · go_wp2_with (at_builtin; refine wpList_append_own _ rfl _ _ 27 rfl w.heap.size 2 _ (.int .i64 0) 1 8 Try.underlying27 rfl rfl rfl rfl rfl (by decide) _ _ _ rfl O3.out ⟨b', off' + e, none⟩ (m - e) (c' - e) (valsI (fun i => T (e + i)) (m - e)) rfl (by simp [valsI]) I4.out.src0 (intNews _ _) (by unfold maxLen; omega) (by omega) (by have := B3.out.size; omega) ?_)
    intro v' w4 hown hgrow hnil
    obtain ⟨g6, d4, rfl, hg4, ho, hb⟩ := row_open hown (by simpa using hnil) (B3.out.grown hgrow B3.out.size (by intro x hx; simp [Value.ownBlock] at hx; omega))
    have O4 := hidden ho
    have B4 := hidden hb
    clear hown hgrow hnil ho hb O3 B3 I4
    go_wp2
    go_ret
    have O5 := O4.out
    rw [← List.append_assoc, cat_vals] at O5
    exact ⟨g6, d4, rfl, hg4, row_own O5, B4.out⟩

end Go.Proofs.Ytjjpkhlbokfjpaa

/- Contracts: a term with another one at a place: ReplaceAt, as the model and as the program makes it. -/
namespace Go.Proofs.Ytjjpkhlbokfjpaa
open Go.RowKit

/-- The code of ReplaceAt: the fault of the term or the place, that of the other term, or too many nodes. -/
noncomputable def reC (n : Nat) (N : Nat → ByteArray) (A : Nat → Int) (m : Nat) (T : Nat → Int) (x : Int) (k : Nat) (M : Nat → Int) : Int :=
  if szC n N A m T x = 0 then (if lF n A k M = 0 then (if 24 < x.toNat + k + (m - (x.toNat + manyN (aOf A T) m x.toNat)) then 2 else 0) else lF n A k M) else szC n N A m T x

section
variable {n : Nat} {N : Nat → ByteArray} {A : Nat → Int} {m : Nat} {T : Nat → Int} {x : Int} {k : Nat} {M : Nat → Int}
theorem re_fault (h : szC n N A m T x ≠ 0) : reC n N A m T x k M = szC n N A m T x := by rw [reC, if_neg h]
theorem re_by (h : szC n N A m T x = 0) (hl : lF n A k M ≠ 0) : reC n N A m T x k M = lF n A k M := by rw [reC, if_pos h, if_neg hl]
theorem re_many (h : szC n N A m T x = 0) (hl : lF n A k M = 0) (ht : 24 < x.toNat + k + (m - (x.toNat + manyN (aOf A T) m x.toNat))) : reC n N A m T x k M = 2 := by rw [reC, if_pos h, if_pos hl, if_pos ht]
theorem re_ok (h : szC n N A m T x = 0) (hl : lF n A k M = 0) (ht : ¬ 24 < x.toNat + k + (m - (x.toNat + manyN (aOf A T) m x.toNat))) : reC n N A m T x k M = 0 := by rw [reC, if_pos h, if_pos hl, if_neg ht]

theorem term_sig (h : termF n N A m T = 0) : faultF n N A = 0 := by
  refine Classical.byContradiction fun hf => ?_
  rw [term_fault hf] at h; exact hf h
end

set_option maxRecDepth 20000 in
set_option maxHeartbeats 3200000 in
theorem specReplace_any (b off n c b' off' m c' b3 off3 k c3 : Nat) (N : Nat → ByteArray) (A T M : Nat → Int) (x : Int) (w : World) (h : Syms w b off n N A) (h' : Ints w b' off' m T) (h3 : Ints w b3 off3 k M) (hk : Kept n N A) (hm : m ≤ 1048576) (hm3 : k ≤ 1048576) (hc : m ≤ c') :
    Calls Try.prog 10 #[.agg #[.slice (some ⟨b, off, none⟩) n c], .slice (some ⟨b', off', none⟩) m c', .int .i64 x, .slice (some ⟨b3, off3, none⟩) k c3] w fun e w' => ListAns w (reC n N A m T x k M) (x.toNat + k + (m - (x.toNat + manyN (aOf A T) m x.toNat))) (catU x.toNat k (x.toNat + manyN (aOf A T) m x.toNat) T M) e w' ∧ Below w.heap.size w w' := by
  have D := hidden ((One.new w (.slice (some ⟨b, off, none⟩) n c) 26).keep (alloc_below _ (.cells #[.int .i64 0, .slice none 0 0] 31)))
  have R := hidden (Res.new (w.alloc (.cells #[.slice (some ⟨b, off, none⟩) n c] 26)) (.int .i64 0) (.slice none 0 0) 31)
  have B := hidden (keepB (alloc_below w (.cells #[.slice (some ⟨b, off, none⟩) n c] 26)) (alloc_below _ (.cells #[.int .i64 0, .slice none 0 0] 31)))
  have Q := hidden (h.keep B.out)
  have I := hidden (h'.keep B.out)
  have I3 := hidden (h3.keep B.out)
  have HK := hidden hk
  rw [World.size_alloc] at R
  clear h h' h3 hk
  go_enter Try.func10, Try.ntmps10
  go_wp2_with fail
  with_reducible refine (specTerm_any _ _ _ _ _ _ _ _ N A T _ Q.out I.out HK.out hm).mono ?_
  rintro e w1 ⟨rfl, hb⟩
  replace D := hidden (D.out.keep hb)
  replace R := hidden (R.out.keep hb)
  replace B := hidden (keepB B.out hb)
  replace I := hidden (I.out.keep hb)
  replace I3 := hidden (I3.out.keep hb)
  replace Q := hidden (Q.out.keep hb)
  clear hb
  by_cases hf : termF n N A m T = 0
  · have HF := hidden hf
    rw [hf]
    clear hf
    go_wp2_with fail
    with_reducible refine (l3Place_any _ _ _ _ _ hm).mono ?_
    rintro e w2 ⟨rfl, hb⟩
    replace D := hidden (D.out.keep hb)
    replace R := hidden (R.out.keep hb)
    replace B := hidden (keepB B.out hb)
    replace I := hidden (I.out.keep hb)
    replace I3 := hidden (I3.out.keep hb)
    replace Q := hidden (Q.out.keep hb)
    clear hb
    generalize hx : inB x m = ib
    cases ib
    · have HN := hidden (sub_range HF.out hx)
      have HA := hidden ((re_fault (k := k) (M := M) HN.out).trans (sz_range HF.out hx).1)
      clear hx
      obtain ⟨_, q0, q1, f0, f1⟩ := id R.out
      go_wp2
      exact bodyPost_ret (v := .agg #[.int .i64 3, .slice none 0 0]) (by simp [results, Try.results10, go_sem, q0, q1]) rfl ⟨Or.inl ⟨by rw [HA.out]; decide, by rw [HA.out]⟩, (B.out.setCell (by simp) _).setCell (by simp) _⟩
    · have HZ := hidden (sz_ok HF.out hx).1
      have HX := hidden hx
      clear hx
      go_wp2_with fail
      with_reducible refine (l3Fault_all _ _ _ _ _ _ _ _ _ N A M _ D.out Q.out I3.out (term_right HF.out).sig hm3).mono ?_
      rintro e w3 ⟨rfl, hb⟩
      replace D := hidden (D.out.keep hb)
      replace R := hidden (R.out.keep hb)
      replace B := hidden (keepB B.out hb)
      replace I := hidden (I.out.keep hb)
      replace I3 := hidden (I3.out.keep hb)
      replace Q := hidden (Q.out.keep hb)
      clear hb
      by_cases hl : lF n A k M = 0
      · have HL := hidden hl
        obtain ⟨q, e, rfl, hq, hs, hqe, hem, hE⟩ := place_ok HF.out HX.out
        have hk24 := (lF_right (term_right HF.out).sig hl).nods.most
        have hk1 := (lF_right (term_right HF.out).sig hl).pos
        have HS := hidden hs
        have HE := hidden hE
        rw [hl]
        clear hl hs hE
        go_wp2_with fail
        with_reducible refine (l3Replace_any _ _ _ _ _ _ _ _ _ _ _ _ _ _ _ N A T M _ D.out Q.out I.out I3.out (term_right HF.out).nods hq hc ⟨by omega, hk24⟩ HS.out).mono ?_
        rintro r w4 ⟨g, d, rfl, hgg, ho, hb⟩
        have O := hidden ho
        have hR := R.out.blk
        have hBs := B.out.size
        replace R := hidden (R.out.keep hb)
        replace B := hidden (keepB B.out hb)
        clear hb D I I3 Q ho
        obtain ⟨_, q0, q1, f0, f1⟩ := id R.out
        by_cases ht : 24 < q + k + (m - e)
        · have HA := hidden (re_many HZ.out HL.out (by rw [Int.toNat_natCast, ← HE.out]; exact ht))
          generalize q + k + (m - e) = tot at *
          have ht' : (24 : Int) < tot := by omega
          go_wp2
          exact bodyPost_ret (v := .agg #[.int .i64 2, .slice none 0 0]) (by simp [results, Try.results10, go_sem, q0, q1]) rfl ⟨Or.inl ⟨by rw [HA.out]; decide, by rw [HA.out]⟩, (B.out.setCell (by simp) _).setCell (by simp) _⟩
        · have HA := hidden (re_ok HZ.out HL.out (by rw [Int.toNat_natCast, ← HE.out]; exact ht))
          generalize hto : q + k + (m - e) = tot at *
          have HTO := hidden hto
          have ht' : ¬ (24 : Int) < tot := by omega
          clear hto
          go_wp2
          exact bodyPost_ret (v := .agg #[.int .i64 0, .slice (some ⟨g, 0, none⟩) tot d]) (by simp [results, Try.results10, go_sem, q0, q1]) rfl ⟨Or.inr ⟨HA.out, g, d, by rw [Int.toNat_natCast, ← HE.out, HTO.out], by omega, by
            rw [Int.toNat_natCast, ← HE.out, HTO.out]; exact ((O.out.other _ _ (by simp; omega)).other _ _ (by simp; omega)).base (by omega)⟩, (B.out.setCell (by simp) _).setCell (by simp) _⟩
      · have HA := hidden (re_by HZ.out hl)
        have HN := hidden hl
        have hl' : (lF n A k M != 0) = true := by simpa using hl
        generalize lF n A k M = z at *
        clear hl
        obtain ⟨_, q0, q1, f0, f1⟩ := id R.out
        go_wp2
        exact bodyPost_ret (v := .agg #[.int .i64 z, .slice none 0 0]) (by simp [results, Try.results10, go_sem, q0, q1]) rfl ⟨Or.inl ⟨by rw [HA.out]; exact HN.out, by rw [HA.out]⟩, (B.out.setCell (by simp) _).setCell (by simp) _⟩
  · have HN := hidden (sub_fault (x := x) hf)
    have HA := hidden ((re_fault (k := k) (M := M) HN.out).trans (sz_fault hf).1)
    have HF := hidden hf
    have hf' : (termF n N A m T != 0) = true := by simpa using hf
    generalize termF n N A m T = z at *
    clear hf
    obtain ⟨_, q0, q1, f0, f1⟩ := id R.out
    go_wp2
    exact bodyPost_ret (v := .agg #[.int .i64 z, .slice none 0 0]) (by simp [results, Try.results10, go_sem, q0, q1]) rfl ⟨Or.inl ⟨by rw [HA.out]; exact HF.out, by rw [HA.out]⟩, (B.out.setCell (by simp) _).setCell (by simp) _⟩

end Go.Proofs.Ytjjpkhlbokfjpaa

/- Contract: a term with another one at a place: ReplaceAt, as the program makes it. -/
namespace Go.Proofs.Ytjjpkhlbokfjpaa
open Go.RowKit

set_option maxRecDepth 20000 in
set_option maxHeartbeats 6400000 in
theorem implReplace_any (b off n c b' off' m c' b3 off3 k c3 : Nat) (N : Nat → ByteArray) (A T M : Nat → Int) (x : Int) (w : World) (h : Syms w b off n N A) (h' : Ints w b' off' m T) (h3 : Ints w b3 off3 k M) (hk : Kept n N A) (hm : m ≤ 1048576) (hm3 : k ≤ 1048576) (hc : m ≤ c') :
    Calls Try.prog 8 #[.agg #[.slice (some ⟨b, off, none⟩) n c], .slice (some ⟨b', off', none⟩) m c', .int .i64 x, .slice (some ⟨b3, off3, none⟩) k c3] w fun e w' => ListAns w (reC n N A m T x k M) (x.toNat + k + (m - (x.toNat + manyN (aOf A T) m x.toNat))) (catU x.toNat k (x.toNat + manyN (aOf A T) m x.toNat) T M) e w' ∧ Below w.heap.size w w' := by
  have D := hidden ((One.new w (.slice (some ⟨b, off, none⟩) n c) 26).keep (alloc_below _ (.cells #[.int .i64 0, .slice none 0 0] 31)))
  have R := hidden (Res.new (w.alloc (.cells #[.slice (some ⟨b, off, none⟩) n c] 26)) (.int .i64 0) (.slice none 0 0) 31)
  have B := hidden (keepB (alloc_below w (.cells #[.slice (some ⟨b, off, none⟩) n c] 26)) (alloc_below _ (.cells #[.int .i64 0, .slice none 0 0] 31)))
  have Q := hidden (h.keep B.out)
  have I := hidden (h'.keep B.out)
  have I3 := hidden (h3.keep B.out)
  have HK := hidden hk
  rw [World.size_alloc] at R
  clear h h' h3 hk
  go_enter Try.func8, Try.ntmps8
  go_wp2_with fail
  with_reducible refine (placeFault_any _ _ _ _ _ _ _ _ N A T x _ Q.out I.out HK.out hm).mono ?_
  rintro e w1 ⟨rfl, hb⟩
  replace D := hidden (D.out.keep hb)
  replace R := hidden (R.out.keep hb)
  replace B := hidden (keepB B.out hb)
  replace I := hidden (I.out.keep hb)
  replace I3 := hidden (I3.out.keep hb)
  replace Q := hidden (Q.out.keep hb)
  clear hb
  by_cases hz : szC n N A m T x = 0
  · have HZ := hidden hz
    have HF := hidden (show termF n N A m T = 0 from Classical.byContradiction fun hf => sub_fault hf hz)
    have HX := hidden (show inB x m = true from by
      cases hb : inB x m
      · exact absurd hz (sub_range HF.out hb)
      · rfl)
    have d0 := D.out.c0
    rw [hz]
    clear hz
    go_wp2_with fail
    with_reducible refine (implTerm_any _ _ _ _ _ _ _ _ N A M _ Q.out I3.out HK.out hm3).mono ?_
    rw [term_l (term_sig HF.out)]
    rintro e w2 ⟨rfl, hb⟩
    clear d0
    replace D := hidden (D.out.keep hb)
    replace R := hidden (R.out.keep hb)
    replace B := hidden (keepB B.out hb)
    replace I := hidden (I.out.keep hb)
    replace I3 := hidden (I3.out.keep hb)
    replace Q := hidden (Q.out.keep hb)
    clear hb
    by_cases hl : lF n A k M = 0
    · have HL := hidden hl
      obtain ⟨q, e, rfl, hq, hs, hqe, hem, hE⟩ := place_ok HF.out HX.out
      have hk24 := (lF_right (term_right HF.out).sig hl).nods.most
      have hk1 := (lF_right (term_right HF.out).sig hl).pos
      have hm24 := (term_right HF.out).nods.most
      have HE := hidden hE
      have d0 := D.out.c0
      have SC := hidden (sizeThere_any b off n c b' off' m c' q N A T w2.drew (Q.out.keep (Below.refl _ _).drew) (I.out.keep (Below.refl _ _).drew) (term_right HF.out).nods (term_right HF.out).sig.least hq hc)
      rw [hl]
      rw [show manyN (aOf A T) m q = e - q by omega] at SC
      obtain ⟨s, hs2⟩ : ∃ s, s = e - q := ⟨_, rfl⟩
      rw [← hs2] at SC
      have g1 : q ≤ c' := by omega
      have g3 : ¬ c' = 0 := by omega
      clear hl hs hE
      go_wp2_with fail
      go_cut [11, 12] (fun a z wc => a = .slice (some ⟨b', off', none⟩) q c' ∧ (∃ o cr, z = .slice (some ⟨b', o, none⟩) (m - e) cr ∧ (m - e = 0 ∨ o = off' + e)) ∧ Hid (Below w2.heap.size w2 wc))
      case first =>
        obtain rfl : e = q + s := by omega
        by_cases hce : c' = q + s
        · subst hce
          obtain rfl : m = q + s := by omega
          clear hs2
          have hsl : ∀ v : World, (Instr.slice 27 (.slice (some ⟨b', off', none⟩) (q + s) (q + s)) (some (.int .i64 ((q : Int) + (s : Int)))) none none).run Try.prog v = .ok (.slice (some ⟨b', off', none⟩) 0 0) v := fun v => by
            rw [run_slice_l (P := Try.prog) v 27 _ (q + s) (q + s) (by rfl) .i64 _ (by omega) (by omega), show ((q : Int) + (s : Int)).toNat = q + s by omega]
            simp [sliced, go_sem]
          have hw : wrap64 ((q : Int) + (s : Int)) = (q : Int) + (s : Int) := by unfold wrap64; omega
          have hw2 : IntKind.i64.wrap ((q : Int) + (s : Int)) = (q : Int) + (s : Int) := by rw [IntKind.wrap_i64]; omega
          have i1 : (0 : Int) ≤ (q : Int) + s := by omega
          have i3 : ((q : Int) + (s : Int)).toNat = q + s := by omega
          have i4 : (q : Int) + s ≤ ((q + s : Nat) : Int) := by omega
          have i5 : 0 ≤ wrap64 ((q : Int) + (s : Int)) ∧ wrap64 ((q : Int) + (s : Int)) ≤ ((q + s : Nat) : Int) := by rw [hw]; exact ⟨i1, i4⟩
          have i6 : 0 ≤ wrap64 ((q : Int) + (s : Int)) := i5.1
          have i7 : wrap64 ((q : Int) + (s : Int)) ≤ ((q + s : Nat) : Int) := i5.2
          go_region_with (first | (go_at_call 33; with_reducible refine SC.out.mono ?_; rintro e w5 ⟨rfl, hb5⟩))
          all_goals (go_wp2_with fail; go_meet)
          all_goals exact ⟨rfl, ⟨off', 0, by simp, Or.inl (Nat.sub_self _)⟩, hidden ((Below.refl _ _).drew.trans hb5)⟩
        · have g5 : q + s ≤ m := by omega
          clear hs2
          have hsl : ∀ v : World, (Instr.slice 27 (.slice (some ⟨b', off', none⟩) m c') (some (.int .i64 ((q : Int) + (s : Int)))) none none).run Try.prog v = .ok (.slice (some ⟨b', off' + (q + s), none⟩) (m - (q + s)) (c' - (q + s))) v := fun v => by
            rw [run_slice_l (P := Try.prog) v 27 _ m c' (by rfl) .i64 _ (by omega) (by omega), show ((q : Int) + (s : Int)).toNat = q + s by omega]
            simp [sliced, go_sem, hce]
          have hw : wrap64 ((q : Int) + (s : Int)) = (q : Int) + (s : Int) := by unfold wrap64; omega
          have hw2 : IntKind.i64.wrap ((q : Int) + (s : Int)) = (q : Int) + (s : Int) := by rw [IntKind.wrap_i64]; omega
          have i1 : (0 : Int) ≤ (q : Int) + s := by omega
          have i3 : ((q : Int) + (s : Int)).toNat = q + s := by omega
          have i4 : (q : Int) + s ≤ (m : Int) := by omega
          have i5 : 0 ≤ wrap64 ((q : Int) + (s : Int)) ∧ wrap64 ((q : Int) + (s : Int)) ≤ (m : Int) := by rw [hw]; exact ⟨i1, i4⟩
          have i6 : 0 ≤ wrap64 ((q : Int) + (s : Int)) := i5.1
          have i7 : wrap64 ((q : Int) + (s : Int)) ≤ (m : Int) := i5.2
          go_region_with (first | (go_at_call 33; with_reducible refine SC.out.mono ?_; rintro e w5 ⟨rfl, hb5⟩))
          all_goals (go_wp2_with fail; go_meet)
          all_goals exact ⟨rfl, ⟨_, _, rfl, Or.inr rfl⟩, hidden ((Below.refl _ _).drew.trans hb5)⟩
      case rest =>
        rename World => w3
        obtain ⟨rfl, ⟨o, cr, rfl, ho⟩, HB⟩ := hcut
        have hb := HB.out
        replace R := hidden (R.out.keep hb)
        replace B := hidden (keepB B.out hb)
        replace I := hidden (I.out.keep hb)
        replace I3 := hidden (I3.out.keep hb)
        clear hb d0 SC D Q HB hs2
        obtain ⟨_, q0, q1, f0, f1⟩ := id R.out
        by_cases ht : 24 < q + k + (m - e)
        · have HA := hidden (re_many HZ.out HL.out (by rw [Int.toNat_natCast, ← HE.out]; exact ht))
          have ht' : (24 : Int) < (q : Int) + k + ((m - e : Nat) : Int) := by omega
          have hrb : m - e ≤ 24 := by omega
          generalize m - e = r at *
          go_wp2
          exact bodyPost_ret (v := .agg #[.int .i64 2, .slice none 0 0]) (by simp [results, Try.results8, go_sem, q0, q1]) rfl ⟨Or.inl ⟨by rw [HA.out]; decide, by rw [HA.out]⟩, (B.out.setCell (by simp) _).setCell (by simp) _⟩
        · have HA := hidden (re_ok HZ.out HL.out (by rw [Int.toNat_natCast, ← HE.out]; exact ht))
          have ht' : ¬ (24 : Int) < (q : Int) + k + ((m - e : Nat) : Int) := by omega
          have IQ := hidden (show Ints w3 b' off' q T from ⟨fun _ => I.out.blk (by omega), fun i hi => I.out.cell i (by omega)⟩)
          have IR := hidden (show Ints w3 b' o (m - e) (fun i => T (e + i)) from by
            rcases ho with h0 | rfl
            · exact ⟨fun h => by omega, fun i hi => by omega⟩
            · exact I.out.part (by omega))
          have CC := hidden (concat_any w3.heap.size b' off' q c' b3 off3 k c3 b' o (m - e) cr T M (fun i => T (e + i)) (w3.alloc (.cells #[.slice (some ⟨b', off', none⟩) q c', .slice (some ⟨b3, off3, none⟩) k c3, .slice (some ⟨b', o, none⟩) (m - e) cr] 27)) (Three.new w3 _ _ _ 27) (IQ.out.keep (alloc_below _ _)) (I3.out.keep (alloc_below _ _)) (IR.out.keep (alloc_below _ _)) (by omega) ⟨by omega, hk24⟩ (by omega))
          rw [cat_vals] at CC
          clear IQ IR ho q0 q1 f0 f1
          have hrb : m - e ≤ 24 := by omega
          generalize hr : m - e = r at *
          have HR := hidden hr
          clear hr
          go_wp2_with fail
          with_reducible refine CC.out.mono ?_
          rintro r2 w4 ⟨g, d, rfl, hgg, hoo, hb⟩
          have hR := R.out.blk
          have hBs := B.out.size
          rw [World.size_alloc] at hgg
          have O := hidden (row_own hoo)
          replace hb := keepB (alloc_below w3 _) hb
          replace R := hidden (R.out.keep hb)
          replace B := hidden (keepB B.out hb)
          clear hb hoo CC I I3
          obtain ⟨_, q0, q1, f0, f1⟩ := id R.out
          generalize hto : q + k + r = tot at *
          have HTO := hidden hto
          clear hto
          go_wp2
          exact bodyPost_ret (v := .agg #[.int .i64 0, .slice (some ⟨g, 0, none⟩) tot d]) (by simp [results, Try.results8, go_sem, q0, q1]) rfl ⟨Or.inr ⟨HA.out, g, d, by rw [Int.toNat_natCast, ← HE.out, HR.out, HTO.out], by omega, by
            rw [Int.toNat_natCast, ← HE.out, HR.out, HTO.out]; exact ((O.out.other _ _ (by simp; omega)).other _ _ (by simp; omega)).base (by omega)⟩, (B.out.setCell (by simp) _).setCell (by simp) _⟩
    · have HA := hidden (re_by HZ.out hl)
      have HN := hidden hl
      have hl' : (lF n A k M != 0) = true := by simpa using hl
      generalize lF n A k M = z at *
      clear hl
      obtain ⟨_, q0, q1, f0, f1⟩ := id R.out
      go_wp2
      exact bodyPost_ret (v := .agg #[.int .i64 z, .slice none 0 0]) (by simp [results, Try.results8, go_sem, q0, q1]) rfl ⟨Or.inl ⟨by rw [HA.out]; exact HN.out, by rw [HA.out]⟩, (B.out.setCell (by simp) _).setCell (by simp) _⟩
  · have HA := hidden (re_fault (k := k) (M := M) hz)
    have HF := hidden hz
    have hf' : (szC n N A m T x != 0) = true := by simpa using hz
    generalize szC n N A m T x = z at *
    clear hz
    obtain ⟨_, q0, q1, f0, f1⟩ := id R.out
    go_wp2
    exact bodyPost_ret (v := .agg #[.int .i64 z, .slice none 0 0]) (by simp [results, Try.results8, go_sem, q0, q1]) rfl ⟨Or.inl ⟨by rw [HA.out]; exact HF.out, by rw [HA.out]⟩, (B.out.setCell (by simp) _).setCell (by simp) _⟩

end Go.Proofs.Ytjjpkhlbokfjpaa

/- Contracts for laws over drawn terms: where there is no symbol; lists of numbers; fields of answers. -/
namespace Go.Proofs.Ytjjpkhlbokfjpaa
open Go.RowKit

set_option maxRecDepth 20000 in
set_option maxHeartbeats 400000 in
theorem implPlaceFault_nil (p' : Option Addr) (m c' : Nat) (x : Int) (w : World) : Calls Try.prog 32 #[.agg #[.slice none 0 0], .slice p' m c', .int .i64 x] w fun e w' => e = .returned (.int .i64 2) ∧ Below w.heap.size w w' := by
  go_enter Try.func32, Try.ntmps32
  go_wp2_with fail
  with_reducible refine (implTerm_nil _ _ _ _).mono ?_
  rintro e w1 ⟨rfl, hb⟩
  have B := hidden (keepB (alloc_below _ _) hb)
  clear hb
  go_wp2
  go_ret
  exact ⟨rfl, B.out⟩

set_option maxRecDepth 20000 in
set_option maxHeartbeats 800000 in
theorem specSubtermAt_nil (p' : Option Addr) (m c' : Nat) (x : Int) (w : World) : Calls Try.prog 11 #[.agg #[.slice none 0 0], .slice p' m c', .int .i64 x] w fun e w' => e = .returned (.agg #[.int .i64 2, .slice none 0 0]) ∧ Below w.heap.size w w' := by
  have R := hidden (Res.new (w.alloc (.cells #[.slice none 0 0] 26)) (.int .i64 0) (.slice none 0 0) 31)
  have B := hidden (keepB (alloc_below w (.cells #[.slice none 0 0] 26)) (alloc_below _ (.cells #[.int .i64 0, .slice none 0 0] 31)))
  rw [World.size_alloc] at R
  go_enter Try.func11, Try.ntmps11
  go_wp2_with fail
  with_reducible refine (specTerm_nil _ _ _ _).mono ?_
  rintro e w1 ⟨rfl, hb⟩
  replace R := hidden (R.out.keep hb)
  replace B := hidden (keepB B.out hb)
  clear hb
  obtain ⟨_, q0, q1, f0, f1⟩ := id R.out
  go_wp2
  exact bodyPost_ret (v := .agg #[.int .i64 2, .slice none 0 0]) (by simp [results, Try.results11, go_sem, q0, q1]) rfl ⟨rfl, (B.out.setCell (by simp) _).setCell (by simp) _⟩

set_option maxRecDepth 20000 in
set_option maxHeartbeats 800000 in
theorem implSubtermAt_nil (p' : Option Addr) (m c' : Nat) (x : Int) (w : World) : Calls Try.prog 9 #[.agg #[.slice none 0 0], .slice p' m c', .int .i64 x] w fun e w' => e = .returned (.agg #[.int .i64 2, .slice none 0 0]) ∧ Below w.heap.size w w' := by
  have R := hidden (Res.new (w.alloc (.cells #[.slice none 0 0] 26)) (.int .i64 0) (.slice none 0 0) 31)
  have B := hidden (keepB (alloc_below w (.cells #[.slice none 0 0] 26)) (alloc_below _ (.cells #[.int .i64 0, .slice none 0 0] 31)))
  rw [World.size_alloc] at R
  go_enter Try.func9, Try.ntmps9
  go_wp2_with fail
  with_reducible refine (implPlaceFault_nil _ _ _ _ _).mono ?_
  rintro e w1 ⟨rfl, hb⟩
  replace R := hidden (R.out.keep hb)
  replace B := hidden (keepB B.out hb)
  clear hb
  obtain ⟨_, q0, q1, f0, f1⟩ := id R.out
  go_wp2
  exact bodyPost_ret (v := .agg #[.int .i64 2, .slice none 0 0]) (by simp [results, Try.results9, go_sem, q0, q1]) rfl ⟨rfl, (B.out.setCell (by simp) _).setCell (by simp) _⟩

set_option maxRecDepth 20000 in
set_option maxHeartbeats 800000 in
theorem specReplaceAt_nil (p' : Option Addr) (m c' : Nat) (x : Int) (p3 : Option Addr) (m3 c3 : Nat) (w : World) : Calls Try.prog 10 #[.agg #[.slice none 0 0], .slice p' m c', .int .i64 x, .slice p3 m3 c3] w fun e w' => e = .returned (.agg #[.int .i64 2, .slice none 0 0]) ∧ Below w.heap.size w w' := by
  have R := hidden (Res.new (w.alloc (.cells #[.slice none 0 0] 26)) (.int .i64 0) (.slice none 0 0) 31)
  have B := hidden (keepB (alloc_below w (.cells #[.slice none 0 0] 26)) (alloc_below _ (.cells #[.int .i64 0, .slice none 0 0] 31)))
  rw [World.size_alloc] at R
  go_enter Try.func10, Try.ntmps10
  go_wp2_with fail
  with_reducible refine (specTerm_nil _ _ _ _).mono ?_
  rintro e w1 ⟨rfl, hb⟩
  replace R := hidden (R.out.keep hb)
  replace B := hidden (keepB B.out hb)
  clear hb
  obtain ⟨_, q0, q1, f0, f1⟩ := id R.out
  go_wp2
  exact bodyPost_ret (v := .agg #[.int .i64 2, .slice none 0 0]) (by simp [results, Try.results10, go_sem, q0, q1]) rfl ⟨rfl, (B.out.setCell (by simp) _).setCell (by simp) _⟩

set_option maxRecDepth 20000 in
set_option maxHeartbeats 800000 in
theorem implReplaceAt_nil (p' : Option Addr) (m c' : Nat) (x : Int) (p3 : Option Addr) (m3 c3 : Nat) (w : World) : Calls Try.prog 8 #[.agg #[.slice none 0 0], .slice p' m c', .int .i64 x, .slice p3 m3 c3] w fun e w' => e = .returned (.agg #[.int .i64 2, .slice none 0 0]) ∧ Below w.heap.size w w' := by
  have R := hidden (Res.new (w.alloc (.cells #[.slice none 0 0] 26)) (.int .i64 0) (.slice none 0 0) 31)
  have B := hidden (keepB (alloc_below w (.cells #[.slice none 0 0] 26)) (alloc_below _ (.cells #[.int .i64 0, .slice none 0 0] 31)))
  rw [World.size_alloc] at R
  go_enter Try.func8, Try.ntmps8
  go_wp2_with fail
  with_reducible refine (implPlaceFault_nil _ _ _ _ _).mono ?_
  rintro e w1 ⟨rfl, hb⟩
  replace R := hidden (R.out.keep hb)
  replace B := hidden (keepB B.out hb)
  clear hb
  obtain ⟨_, q0, q1, f0, f1⟩ := id R.out
  go_wp2
  exact bodyPost_ret (v := .agg #[.int .i64 2, .slice none 0 0]) (by simp [results, Try.results8, go_sem, q0, q1]) rfl ⟨rfl, (B.out.setCell (by simp) _).setCell (by simp) _⟩

set_option maxRecDepth 20000 in
set_option maxHeartbeats 800000 in
theorem specPackTerm_nil (p' : Option Addr) (m c' : Nat) (w : World) : Calls Try.prog 19 #[.agg #[.slice none 0 0], .slice p' m c'] w fun e w' => e = .returned (.agg #[.int .i64 2, .slice none 0 0]) ∧ Below w.heap.size w w' := by
  have R := hidden (Res.new (w.alloc (.cells #[.slice none 0 0] 26)) (.int .i64 0) (.slice none 0 0) 42)
  have B := hidden (keepB (alloc_below w (.cells #[.slice none 0 0] 26)) (alloc_below _ (.cells #[.int .i64 0, .slice none 0 0] 42)))
  rw [World.size_alloc] at R
  go_enter Try.func19, Try.ntmps19
  go_wp2_with fail
  with_reducible refine (specTerm_nil _ _ _ _).mono ?_
  rintro e w1 ⟨rfl, hb⟩
  replace R := hidden (R.out.keep hb)
  replace B := hidden (keepB B.out hb)
  clear hb
  obtain ⟨_, q0, q1, f0, f1⟩ := id R.out
  go_wp2
  exact bodyPost_ret (v := .agg #[.int .i64 2, .slice none 0 0]) (by simp [results, Try.results19, go_sem, q0, q1]) rfl ⟨rfl, (B.out.setCell (by simp) _).setCell (by simp) _⟩

set_option maxRecDepth 20000 in
set_option maxHeartbeats 800000 in
theorem implPackTerm_nil (p' : Option Addr) (m c' : Nat) (w : World) : Calls Try.prog 16 #[.agg #[.slice none 0 0], .slice p' m c'] w fun e w' => e = .returned (.agg #[.int .i64 2, .slice none 0 0]) ∧ Below w.heap.size w w' := by
  have R := hidden (Res.new (w.alloc (.cells #[.slice none 0 0] 26)) (.int .i64 0) (.slice none 0 0) 42)
  have B := hidden (keepB (alloc_below w (.cells #[.slice none 0 0] 26)) (alloc_below _ (.cells #[.int .i64 0, .slice none 0 0] 42)))
  rw [World.size_alloc] at R
  go_enter Try.func16, Try.ntmps16
  go_wp2_with fail
  with_reducible refine (implTerm_nil _ _ _ _).mono ?_
  rintro e w1 ⟨rfl, hb⟩
  replace R := hidden (R.out.keep hb)
  replace B := hidden (keepB B.out hb)
  clear hb
  obtain ⟨_, q0, q1, f0, f1⟩ := id R.out
  go_wp2
  exact bodyPost_ret (v := .agg #[.int .i64 2, .slice none 0 0]) (by simp [results, Try.results16, go_sem, q0, q1]) rfl ⟨rfl, (B.out.setCell (by simp) _).setCell (by simp) _⟩

set_option maxRecDepth 20000 in
set_option maxHeartbeats 800000 in
theorem specUnpackTerm_nil (p' : Option Addr) (m c' : Nat) (w : World) : Calls Try.prog 20 #[.agg #[.slice none 0 0], .slice p' m c'] w fun e w' => e = .returned (.agg #[.int .i64 2, .slice none 0 0]) ∧ Below w.heap.size w w' := by
  have R := hidden (Res.new (w.alloc (.cells #[.slice none 0 0] 26)) (.int .i64 0) (.slice none 0 0) 31)
  have B := hidden (keepB (alloc_below w (.cells #[.slice none 0 0] 26)) (alloc_below _ (.cells #[.int .i64 0, .slice none 0 0] 31)))
  rw [World.size_alloc] at R
  go_enter Try.func20, Try.ntmps20
  go_wp2_with fail
  with_reducible refine (specFault_nil _).mono ?_
  rintro e w1 ⟨rfl, hb⟩
  replace R := hidden (R.out.keep hb)
  replace B := hidden (keepB B.out hb)
  clear hb
  obtain ⟨_, q0, q1, f0, f1⟩ := id R.out
  go_wp2
  exact bodyPost_ret (v := .agg #[.int .i64 2, .slice none 0 0]) (by simp [results, Try.results20, go_sem, q0, q1]) rfl ⟨rfl, (B.out.setCell (by simp) _).setCell (by simp) _⟩

set_option maxRecDepth 20000 in
set_option maxHeartbeats 800000 in
theorem implUnpackTerm_nil (p' : Option Addr) (m c' : Nat) (w : World) : Calls Try.prog 18 #[.agg #[.slice none 0 0], .slice p' m c'] w fun e w' => e = .returned (.agg #[.int .i64 2, .slice none 0 0]) ∧ Below w.heap.size w w' := by
  have R := hidden (Res.new (w.alloc (.cells #[.slice none 0 0] 26)) (.int .i64 0) (.slice none 0 0) 31)
  have B := hidden (keepB (alloc_below w (.cells #[.slice none 0 0] 26)) (alloc_below _ (.cells #[.int .i64 0, .slice none 0 0] 31)))
  rw [World.size_alloc] at R
  go_enter Try.func18, Try.ntmps18
  go_wp2_with fail
  with_reducible refine (implFault_nil _).mono ?_
  rintro e w1 ⟨rfl, hb⟩
  replace R := hidden (R.out.keep hb)
  replace B := hidden (keepB B.out hb)
  clear hb
  obtain ⟨_, q0, q1, f0, f1⟩ := id R.out
  go_wp2
  exact bodyPost_ret (v := .agg #[.int .i64 2, .slice none 0 0]) (by simp [results, Try.results18, go_sem, q0, q1]) rfl ⟨rfl, (B.out.setCell (by simp) _).setCell (by simp) _⟩

set_option maxRecDepth 20000 in
set_option maxHeartbeats 400000 in
theorem implKeyFault_nil (p' : Option Addr) (m c' : Nat) (p3 : Option Addr) (m3 c3 : Nat) (w : World) : Calls Try.prog 56 #[.agg #[.slice none 0 0], .slice p' m c', .slice p3 m3 c3] w fun e w' => e = .returned (.int .i64 2) ∧ Below w.heap.size w w' := by
  go_enter Try.func56, Try.ntmps56
  go_wp2_with fail
  with_reducible refine (implTerm_nil _ _ _ _).mono ?_
  rintro e w1 ⟨rfl, hb⟩
  have B := hidden (keepB (alloc_below _ _) hb)
  clear hb
  go_wp2
  go_ret
  exact ⟨rfl, B.out⟩

set_option maxRecDepth 20000 in
set_option maxHeartbeats 800000 in
theorem specKeyOf_nil (p' : Option Addr) (m c' : Nat) (p3 : Option Addr) (m3 c3 : Nat) (w : World) : Calls Try.prog 25 #[.agg #[.slice none 0 0], .slice p' m c', .slice p3 m3 c3] w fun e w' => e = .returned (.agg #[.int .i64 2, .slice none 0 0]) ∧ Below w.heap.size w w' := by
  have R := hidden (Res.new (w.alloc (.cells #[.slice none 0 0] 26)) (.int .i64 0) (.slice none 0 0) 42)
  have B := hidden (keepB (alloc_below w (.cells #[.slice none 0 0] 26)) (alloc_below _ (.cells #[.int .i64 0, .slice none 0 0] 42)))
  rw [World.size_alloc] at R
  go_enter Try.func25, Try.ntmps25
  go_wp2_with fail
  with_reducible refine (specTerm_nil _ _ _ _).mono ?_
  rintro e w1 ⟨rfl, hb⟩
  replace R := hidden (R.out.keep hb)
  replace B := hidden (keepB B.out hb)
  clear hb
  obtain ⟨_, q0, q1, f0, f1⟩ := id R.out
  go_wp2
  exact bodyPost_ret (v := .agg #[.int .i64 2, .slice none 0 0]) (by simp [results, Try.results25, go_sem, q0, q1]) rfl ⟨rfl, (B.out.setCell (by simp) _).setCell (by simp) _⟩

set_option maxRecDepth 20000 in
set_option maxHeartbeats 800000 in
theorem implKeyOf_nil (p' : Option Addr) (m c' : Nat) (p3 : Option Addr) (m3 c3 : Nat) (w : World) : Calls Try.prog 24 #[.agg #[.slice none 0 0], .slice p' m c', .slice p3 m3 c3] w fun e w' => e = .returned (.agg #[.int .i64 2, .slice none 0 0]) ∧ Below w.heap.size w w' := by
  have R := hidden (Res.new (w.alloc (.cells #[.slice none 0 0] 26)) (.int .i64 0) (.slice none 0 0) 42)
  have B := hidden (keepB (alloc_below w (.cells #[.slice none 0 0] 26)) (alloc_below _ (.cells #[.int .i64 0, .slice none 0 0] 42)))
  rw [World.size_alloc] at R
  go_enter Try.func24, Try.ntmps24
  go_wp2_with fail
  with_reducible refine (implKeyFault_nil _ _ _ _ _ _ _).mono ?_
  rintro e w1 ⟨rfl, hb⟩
  replace R := hidden (R.out.keep hb)
  replace B := hidden (keepB B.out hb)
  clear hb
  obtain ⟨_, q0, q1, f0, f1⟩ := id R.out
  go_wp2
  exact bodyPost_ret (v := .agg #[.int .i64 2, .slice none 0 0]) (by simp [results, Try.results24, go_sem, q0, q1]) rfl ⟨rfl, (B.out.setCell (by simp) _).setCell (by simp) _⟩

set_option maxRecDepth 20000 in
set_option maxHeartbeats 800000 in
theorem lwNums_row (b k d b' d' : Nat) (L : Nat → Int) (w : World) (h : Ints w b 0 k L) (h' : Ints w b' 0 k L) (hm : k ≤ 1048576) :
    Calls Try.prog 12 #[.slice (some ⟨b, 0, none⟩) k d, .slice (some ⟨b', 0, none⟩) k d'] w fun e w' => e = .returned (.bool true) ∧ Below w.heap.size w w' := by
  go_enter Try.func12, Try.ntmps12
  go_wp2
  go_loopw [5] (fun i wr => ∃ j : Nat, j ≤ k ∧ i = .int .i64 j ∧ ∃ q, wr = w.drewN q) (fun i _ => k - (intOf i).toNat)
  case atStart => exact ⟨0, Nat.zero_le _, rfl, 0, rfl⟩
  case round =>
    obtain ⟨j, hj, rfl, q, rfl⟩ := hrel
    by_cases hlt : j < k
    · have c1 := h.cell j hlt
      have c2 := h'.cell j hlt
      rw [Nat.zero_add] at c1 c2
      go_wp2
      go_quiet (fail)
      go_wp2
      go_roundw
      case rel => exact ⟨j + 1, by omega, by go_num, _, rfl⟩
      case measure => simp [intOf]; omega
    · go_wp2
      go_ret
      exact ⟨rfl, below_drewN (Below.refl _ _) _⟩

set_option maxRecDepth 20000 in
set_option maxHeartbeats 400000 in
theorem lwBig_any (p : Option Addr) (n c : Nat) (w : World) (hn : n ≤ 1048576) : Calls Try.prog 6 #[.slice p n c] w fun e w' => e = .returned (.bool false) ∧ w' = w := by
  have h : ¬ (1048576 : Int) < n := by omega
  go_enter Try.func6, Try.ntmps6
  go_wp2
  go_ret
  exact ⟨rfl, rfl⟩

set_option maxRecDepth 20000 in
set_option maxHeartbeats 400000 in
theorem lwBig_big (p : Option Addr) (n c : Nat) (w : World) (hn : ¬ n ≤ 1048576) : Calls Try.prog 6 #[.slice p n c] w fun e w' => e = .returned (.bool true) ∧ w' = w := by
  have h : (1048576 : Int) < n := by omega
  go_enter Try.func6, Try.ntmps6
  go_wp2
  go_ret
  exact ⟨rfl, rfl⟩

theorem lwNums_eq (b k d b' d' : Nat) (L L' : Nat → Int) (w : World) (h : Ints w b 0 k L) (h' : Ints w b' 0 k L') (hm : k ≤ 1048576) (he : ∀ i, i < k → L' i = L i) :
    Calls Try.prog 12 #[.slice (some ⟨b, 0, none⟩) k d, .slice (some ⟨b', 0, none⟩) k d'] w fun e w' => e = .returned (.bool true) ∧ Below w.heap.size w w' :=
  lwNums_row b k d b' d' L w h ⟨h'.blk, fun i hi => by rw [h'.cell i hi, he i hi]⟩ hm

theorem fldT0 (C : Int) (a : Option Addr) (b k : Nat) (v : World) : (Instr.field 31 (.agg #[.int .i64 C, .slice a b k]) 0).run Try.prog v = .ok (.int .i64 C) v := by kernel_rfl
theorem fldT1 (C : Int) (a : Option Addr) (b k : Nat) (v : World) : (Instr.field 31 (.agg #[.int .i64 C, .slice a b k]) 1).run Try.prog v = .ok (.slice a b k) v := by kernel_rfl

theorem fldB0 (C : Int) (a : Option Addr) (b k : Nat) (v : World) : (Instr.field 42 (.agg #[.int .i64 C, .slice a b k]) 0).run Try.prog v = .ok (.int .i64 C) v := by kernel_rfl
theorem fldB1 (C : Int) (a : Option Addr) (b k : Nat) (v : World) : (Instr.field 42 (.agg #[.int .i64 C, .slice a b k]) 1).run Try.prog v = .ok (.slice a b k) v := by kernel_rfl

theorem fldI0 (x y : Int) (v : World) : (Instr.field 36 (.agg #[.int .i64 x, .int .i64 y]) 0).run Try.prog v = .ok (.int .i64 x) v := by kernel_rfl
theorem fldI1 (x y : Int) (v : World) : (Instr.field 36 (.agg #[.int .i64 x, .int .i64 y]) 1).run Try.prog v = .ok (.int .i64 y) v := by kernel_rfl

/-- An answer that holds a list: a code and some list, which is known where the code is 0. -/
theorem ListAns.some {w w' : World} {C : Int} {k : Nat} {U : Nat → Int} {e : Ending} (h : ListAns w C k U e w') :
    ∃ q n d, e = .returned (.agg #[.int .i64 C, .slice q n d]) ∧ (C = 0 → ∃ g, q = Option.some ⟨g, 0, none⟩ ∧ n = k ∧ w.heap.size ≤ g ∧ OwnI w' w.heap.size g k d U k) := by
  rcases h with ⟨h, rfl⟩ | ⟨h, g, d, rfl, hg, ho⟩
  · exact ⟨_, _, _, rfl, fun h0 => absurd h0 h⟩
  · exact ⟨_, _, _, by rw [h], fun _ => ⟨g, rfl, rfl, hg, ho⟩⟩

end Go.Proofs.Ytjjpkhlbokfjpaa

/- Plain facts: a term in which a part was replaced. -/
namespace Go.Proofs.Ytjjpkhlbokfjpaa
open Go.RowKit

/-- What is passed over looks at what it passes alone. -/
theorem skip_shift (a a' : Nat → Nat) (m m' : Nat) : ∀ (d p p' j r : Nat), m - p ≤ d → skip a m p j = some r → (∀ i, p + i < r → a' (p' + i) = a (p + i)) → p' + (r - p) ≤ m' → skip a' m' p' j = some (p' + (r - p)) := by
  intro d
  induction d with
  | zero =>
    intro p p' j r hd h _ _
    cases j with
    | zero =>
      rw [skip_zero] at h ⊢
      cases h
      simp
    | succ j => rw [skip_end a j (by omega)] at h; cases h
  | succ d ih =>
    intro p p' j r hd h ha hm
    cases j with
    | zero =>
      rw [skip_zero] at h ⊢
      cases h
      simp
    | succ j =>
      by_cases hp : p < m
      · rw [skip_step a j hp] at h
        have hl := (skip_le h).1
        have h0 := ha 0 (by omega)
        rw [Nat.add_zero, Nat.add_zero] at h0
        rw [skip_step a' j (by omega), h0, ih (p + 1) (p' + 1) (j + a p) r (by omega) h (fun i hi => by
          have := ha (i + 1) (by omega)
          rw [show p' + 1 + i = p' + (i + 1) by omega, show p + 1 + i = p + (i + 1) by omega]; exact this) (by omega)]
        congr 1
        omega
      · rw [skip_end a j (by omega)] at h; cases h

theorem awt_same {a a' : Nat → Nat} : ∀ j, (∀ i, i < j → a' i = a i) → awt a' 0 j = awt a 0 j
  | 0, _ => rfl
  | j + 1, h => by
    have h1 := awt_same j (fun i hi => h i (by omega))
    have h2 := h j (by omega)
    simp only [awt, h1, Nat.zero_add, h2]

section
variable {A T M : Nat → Int} {m k q e : Nat}

theorem catU_low {i : Nat} (h : i < q) : catU q k e T M i = T i := by simp [catU, h]
theorem catU_mid {i : Nat} (h : i < k) : catU q k e T M (q + i) = M i := by
  rw [catU, if_neg (by omega), if_pos (by omega), Nat.add_sub_cancel_left]
theorem catU_high (i : Nat) : catU q k e T M (q + k + i) = T (e + i) := by
  rw [catU, if_neg (by omega), if_neg (by omega), Nat.add_sub_cancel_left]

theorem aOf_eq {T T' : Nat → Int} {i j : Nat} (h : T i = T' j) : aOf A T i = aOf A T' j := by simp only [aOf, h]

/-- The part that was put in ends where it should. -/
theorem cat_part (hM : skip (aOf A M) k 0 1 = some k) : skip (aOf A (catU q k e T M)) (q + k + (m - e)) q 1 = some (q + k) := by
  have := skip_shift (aOf A M) (aOf A (catU q k e T M)) k (q + k + (m - e)) k 0 q 1 k (by omega) hM (fun i hi => by
    rw [Nat.zero_add]; exact aOf_eq (catU_mid (by omega))) (by omega)
  simpa using this

/-- The whole is a term again. -/
theorem cat_whole (hT : skip (aOf A T) m 0 1 = some m) (hM : skip (aOf A M) k 0 1 = some k) (hq : q < m) (he : skip (aOf A T) m q 1 = some e) : skip (aOf A (catU q k e T M)) (q + k + (m - e)) 0 1 = some (q + k + (m - e)) := by
  have hmm : manyN (aOf A T) m 0 = m := by rw [manyN_some hT]; rfl
  have hem := (skip_le he).2 (by omega)
  have hpos : ∀ i, i < m → 0 < awt (aOf A T) 0 i := fun i hi => awt_pos (m := m) (Nat.zero_le _) i (Or.inl (by omega))
  have h1 := (awt_skip (aOf A T) (m := m) (p := 0) q (by omega) (fun i hi => hpos i (by omega))).2
  have hs : ∀ i, i ≤ q → awt (aOf A (catU q k e T M)) 0 i = awt (aOf A T) 0 i := fun i hi => awt_same i (fun j hj => aOf_eq (catU_low (by omega)))
  have h2 := (awt_skip (aOf A (catU q k e T M)) (m := q + k + (m - e)) (p := 0) q (by omega) (fun i hi => by rw [hs i (by omega)]; exact hpos i (by omega))).2
  rw [hs q (Nat.le_refl _)] at h2
  have hq0 := hpos q hq
  obtain ⟨t, ht⟩ : ∃ t, (awt (aOf A T) 0 q).toNat = 1 + t := ⟨(awt (aOf A T) 0 q).toNat - 1, by omega⟩
  rw [ht, Nat.zero_add, skip_split, hT, he] at h1
  rw [ht, Nat.zero_add, skip_split, cat_part hM] at h2
  rw [h2]
  have := skip_shift (aOf A T) (aOf A (catU q k e T M)) m (q + k + (m - e)) m e (q + k) t m (by omega) h1.symm (fun i hi => aOf_eq (catU_high i)) (by omega)
  exact this

/-- The old part put back gives the old term. -/
theorem cat_back (hqe : q < e) {i : Nat} : catU q (e - q) (q + k) (catU q k e T M) (fun j => T (q + j)) i = T i := by
  unfold catU
  by_cases h1 : i < q
  · simp [h1]
  · rw [if_neg h1]
    by_cases h2 : i < q + (e - q)
    · rw [if_pos h2]; show T (q + (i - q)) = T i; congr 1; omega
    · rw [if_neg h2, if_neg (by omega), if_neg (by omega)]; congr 1; omega
end

end Go.Proofs.Ytjjpkhlbokfjpaa

/- Plain facts: codes and sizes of a term in which a part was replaced. -/
namespace Go.Proofs.Ytjjpkhlbokfjpaa
open Go.RowKit

section
variable {n : Nat} {N : Nat → ByteArray} {A T M : Nat → Int} {m k q e : Nat}

/-- A part of a term is a term. -/
theorem part_lF (hT : Trm n A m T) (he : skip (aOf A T) m q 1 = some e) : lF n A (e - q) (fun j => T (q + j)) = 0 := by
  have hl := skip_le he
  have hem := hl.2 (by omega)
  have h24 := hT.nods.most
  refine lF_ok (by omega) (fun i hi => hT.nods.node (q + i) (by omega)) ?_
  have := skip_shift (aOf A T) (aOf A (fun j => T (q + j))) m (e - q) m q 0 1 e (by omega) he (fun i hi => by
    rw [Nat.zero_add]; exact aOf_eq rfl) (by omega)
  simpa using this

/-- The whole is a term again. -/
theorem cat_lF (hT : Trm n A m T) (hM : Trm n A k M) (hq : q < m) (he : skip (aOf A T) m q 1 = some e) (h24 : q + k + (m - e) ≤ 24) : lF n A (q + k + (m - e)) (catU q k e T M) = 0 := by
  have hem := (skip_le he).2 (by omega)
  have hk := hM.pos
  refine lF_ok (by omega) (fun i hi => ?_) (cat_whole hT.whole hM.whole hq he)
  by_cases h1 : i < q
  · rw [catU_low h1]; exact hT.nods.node i (by omega)
  · by_cases h2 : i < q + k
    · obtain ⟨j, rfl⟩ : ∃ j, i = q + j := ⟨i - q, by omega⟩
      rw [catU_mid (by omega)]; exact hM.nods.node j (by omega)
    · obtain ⟨j, rfl⟩ : ∃ j, i = q + k + j := ⟨i - (q + k), by omega⟩
      rw [catU_high]; exact hT.nods.node (e + j) (by omega)

/-- How large the part is that was put in. -/
theorem cat_size (hM : Trm n A k M) : manyN (aOf A (catU q k e T M)) (q + k + (m - e)) q = k := by
  rw [manyN_some (cat_part hM.whole)]; omega

/-- All codes of what the law asks behind a replacement. -/
theorem cat_codes (hf : faultF n N A = 0) (hT : Trm n A m T) (hM : Trm n A k M) (hq : q < m) (he : skip (aOf A T) m q 1 = some e) (h24 : q + k + (m - e) ≤ 24) :
    termF n N A (q + k + (m - e)) (catU q k e T M) = 0 ∧ szC n N A (q + k + (m - e)) (catU q k e T M) (q : Int) = 0 ∧ szV n N A (q + k + (m - e)) (catU q k e T M) (q : Int) = (k : Int) ∧
      reC n N A (q + k + (m - e)) (catU q k e T M) (q : Int) (e - q) (fun j => T (q + j)) = 0 := by
  have hem := (skip_le he).2 (by omega)
  have hk := hM.pos
  have h1 : termF n N A (q + k + (m - e)) (catU q k e T M) = 0 := by rw [term_l hf]; exact cat_lF hT hM hq he h24
  have hin : inB (q : Int) (q + k + (m - e)) = true := by simp [inB]; omega
  have h2 := sz_ok h1 hin
  have hc : manyN (aOf A (catU q k e T M)) (q + k + (m - e)) (q : Int).toNat = k := by rw [Int.toNat_natCast]; exact cat_size hM
  have hm := hT.nods.most
  refine ⟨h1, h2.1, by rw [h2.2, hc], re_ok h2.1 (part_lF hT he) ?_⟩
  rw [hc, Int.toNat_natCast]
  omega
end

end Go.Proofs.Ytjjpkhlbokfjpaa

/- Law FnReplaces: what its walk knows of the signature, the terms and the place that were drawn. -/

namespace Go.Proofs.Ytjjpkhlbokfjpaa
open Go.RowKit

theorem ownI_le {A : World} {B g n d k : Nat} {T : Nat → Int} (h : OwnI A B g n d T k) : n ≤ d := by
  obtain ⟨xs, ho, hx⟩ := h
  rcases ho.2 with ⟨hv, h0⟩ | ⟨g', cap, cur, hv, _, hgg, hc, _⟩
  · cases hv
  · injection hv with h1 h2 h3; omega

/-- A list that was answered. -/
def LstOk (W : World) (q : Option Addr) (n d K : Nat) (U : Nat → Int) : Prop := ∃ g, q = some ⟨g, 0, none⟩ ∧ n = K ∧ Ints W g 0 K U ∧ K ≤ d

theorem LstOk.keep {w w' : World} {q : Option Addr} {n d K : Nat} {U : Nat → Int} (h : LstOk w q n d K U) (hb : Below w.heap.size w w') : LstOk w' q n d K U := by
  obtain ⟨g, h1, h2, h3, h4⟩ := h
  exact ⟨g, h1, h2, h3.keep hb, h4⟩

/-- An answer: a code and some list, which is known where the code is 0. -/
def LstAns (C : Int) (K : Nat) (U : Nat → Int) (e : Ending) (W : World) : Prop :=
  ∃ q n d, e = .returned (.agg #[.int .i64 C, .slice q n d]) ∧ (C = 0 → LstOk W q n d K U)

theorem ListAns.lst {w w' : World} {C : Int} {k : Nat} {U : Nat → Int} {e : Ending} (h : ListAns w C k U e w') : LstAns C k U e w' := by
  obtain ⟨q, n, d, h1, h2⟩ := h.some
  refine ⟨q, n, d, h1, fun h0 => ?_⟩
  obtain ⟨g, h3, h4, _, h5⟩ := h2 h0
  exact ⟨g, h3, h4, h5.ints, ownI_le h5⟩

/-- What the code 0 tells of a replacement. -/
structure ReOk (w : World) (q : Option Addr) (n m : Nat) (L : Nat → Int) (x : Int) (m2 : Nat) (L2 : Nat → Int) (Co : Int) (Kr Ko : Nat) (Ur Uo : Nat → Int) (b : Nat) (N : Nat → ByteArray) (A : Nat → Int) (s e : Nat) : Prop where
  sig : q = some ⟨b, 0, none⟩
  kept : Kept n N A
  syms : Syms w b 0 n N A
  fine : faultF n N A = 0
  term : Trm n A m L
  by' : Trm n A m2 L2
  at' : x = (s : Int)
  low : s < m
  cut : skip (aOf A L) m s 1 = some e
  most : s + m2 + (m - e) ≤ 24
  co : Co = 0
  kr : Kr = s + m2 + (m - e)
  ur : Ur = catU s m2 e L L2
  ko : Ko = e - s
  uo : Uo = fun j => L (s + j)

theorem wrapK {z : Int} (h0 : 0 ≤ z) (h1 : z ≤ 1048576) : IntKind.i64.wrap z = z := by
  have e : z % 18446744073709551616 = z := Int.emod_eq_of_lt h0 (by omega)
  have h2 : ¬ (9223372036854775808 : Int) ≤ z := by omega
  simp [IntKind.wrap, IntKind.bits, IntKind.signed, e, h2]

theorem sumK {n7 n8 m m2 : Nat} (h : n7 + n8 = m + m2) (h1 : m ≤ 25) (h2 : m2 ≤ 25) :
    (IntKind.i64.wrap ((m : Int) + (m2 : Int)) = (m : Int) + (m2 : Int) ∧ wrap64 ((m : Int) + (m2 : Int)) = (m : Int) + (m2 : Int)) ∧
    (IntKind.i64.wrap ((m : Int) + (m2 : Int) - (n8 : Int)) = (m : Int) + (m2 : Int) - (n8 : Int) ∧ wrap64 ((m : Int) + (m2 : Int) - (n8 : Int)) = (m : Int) + (m2 : Int) - (n8 : Int)) ∧
    ((n7 : Int) == (m : Int) + (m2 : Int) - (n8 : Int)) = true := by
  have e : (m : Int) + (m2 : Int) - (n8 : Int) = (n7 : Int) := by omega
  rw [e]
  exact ⟨⟨wrapK (by omega) (by omega), by unfold wrap64; omega⟩, ⟨wrapK (by omega) (by omega), by unfold wrap64; omega⟩, by simp⟩

theorem term_ok' {w : World} {q : Option Addr} {n m : Nat} {L : Nat → Int} {x : Int} {m2 : Nat} {L2 : Nat → Int} {Co : Int} {Kr Ko : Nat} {Ur Uo : Nat → Int} {b : Nat} {N : Nat → ByteArray} {A : Nat → Int} {s e : Nat}
    (h : ReOk w q n m L x m2 L2 Co Kr Ko Ur Uo b N A s e) : termF n N A m L = 0 := by
  rw [term_l h.fine]
  exact lF_ok (by have := h.term.pos; have := h.term.nods.most; omega) h.term.nods.node h.term.whole

theorem re_key (q : Option Addr) (n d0 g m d : Nat) (x : Int) (g2 m2 d2 : Nat) (L L2 : Nat → Int) (w1 : World) (hS : SigV w1 (.slice q n d0)) (hL : Ints w1 g 0 m L) (hL2 : Ints w1 g2 0 m2 L2) (hm : m ≤ 25) (hm2 : m2 ≤ 25) (hd : m ≤ d) :
    ∃ (Cr Co : Int) (Kr Ko : Nat) (Ur Uo : Nat → Int),
      (∀ wc, Below w1.heap.size w1 wc → Calls Try.prog 8 #[.agg #[.slice q n d0], .slice (some ⟨g, 0, none⟩) m d, .int .i64 x, .slice (some ⟨g2, 0, none⟩) m2 d2] wc fun e w' => LstAns Cr Kr Ur e w' ∧ Below wc.heap.size wc w') ∧
      (∀ wc, Below w1.heap.size w1 wc → Calls Try.prog 10 #[.agg #[.slice q n d0], .slice (some ⟨g, 0, none⟩) m d, .int .i64 x, .slice (some ⟨g2, 0, none⟩) m2 d2] wc fun e w' => LstAns Cr Kr Ur e w' ∧ Below wc.heap.size wc w') ∧
      (∀ wc, Below w1.heap.size w1 wc → Calls Try.prog 9 #[.agg #[.slice q n d0], .slice (some ⟨g, 0, none⟩) m d, .int .i64 x] wc fun e w' => LstAns Co Ko Uo e w' ∧ Below wc.heap.size wc w') ∧
      (∀ wc, Below w1.heap.size w1 wc → Calls Try.prog 11 #[.agg #[.slice q n d0], .slice (some ⟨g, 0, none⟩) m d, .int .i64 x] wc fun e w' => LstAns Co Ko Uo e w' ∧ Below wc.heap.size wc w') ∧
      (Cr = 0 → ∃ b N A s e, ReOk w1 q n m L x m2 L2 Co Kr Ko Ur Uo b N A s e) := by
  rcases hS with h | ⟨b, n', d', N, A, h, hn7, hk, hS⟩
  · cases h
    have no : ∀ (v : Value) (K : Nat) (U : Nat → Int) (w' : World), v = .agg #[.int .i64 2, .slice none 0 0] → LstAns 2 K U (.returned v) w' := fun v K U w' hv => ⟨none, 0, 0, by rw [hv], fun h => absurd h (by decide)⟩
    refine ⟨2, 2, 0, 0, L, L, fun wc _ => (implReplaceAt_nil _ _ _ _ _ _ _ _).mono ?_, fun wc _ => (specReplaceAt_nil _ _ _ _ _ _ _ _).mono ?_, fun wc _ => (implSubtermAt_nil _ _ _ _ _).mono ?_, fun wc _ => (specSubtermAt_nil _ _ _ _ _).mono ?_, fun h => absurd h (by decide)⟩
    all_goals
      rintro e w' ⟨rfl, hb⟩
      exact ⟨no _ _ _ _ rfl, hb⟩
  · cases h
    refine ⟨reC n N A m L x m2 L2, szC n N A m L x, _, _, _, _, fun wc hb => (implReplace_any b 0 n d0 g 0 m d g2 0 m2 d2 N A L L2 x wc (hS.keep hb) (hL.keep hb) (hL2.keep hb) hk (by omega) (by omega) hd).mono fun e w' h => ⟨h.1.lst, h.2⟩,
      fun wc hb => (specReplace_any b 0 n d0 g 0 m d g2 0 m2 d2 N A L L2 x wc (hS.keep hb) (hL.keep hb) (hL2.keep hb) hk (by omega) (by omega) hd).mono fun e w' h => ⟨h.1.lst, h.2⟩,
      fun wc hb => (implSub_any b 0 n d0 g 0 m d N A L x wc (hS.keep hb) (hL.keep hb) hk (by omega) hd).mono fun e w' h => ⟨h.1.lst, h.2⟩,
      fun wc hb => (specSub_any b 0 n d0 g 0 m d N A L x wc (hS.keep hb) (hL.keep hb) hk (by omega) hd).mono fun e w' h => ⟨h.1.lst, h.2⟩, fun hC => ?_⟩
    have hz : szC n N A m L x = 0 := Classical.byContradiction fun h => by rw [re_fault h] at hC; exact h hC
    have hl : lF n A m2 L2 = 0 := Classical.byContradiction fun h => by rw [re_by hz h] at hC; exact h hC
    have ht : termF n N A m L = 0 := Classical.byContradiction fun h => by rw [(sz_fault h).1] at hz; exact h hz
    have hx : inB x m = true := by
      cases e : inB x m with
      | true => rfl
      | false => rw [(sz_range ht e).1] at hz; omega
    have hf := term_sig ht
    have h24 : ¬ 24 < x.toNat + m2 + (m - (x.toNat + manyN (aOf A L) m x.toNat)) := fun h => by rw [re_many hz hl h] at hC; omega
    obtain ⟨s, e, rfl, hs, he, hse, hem, hE⟩ := place_ok ht hx
    rw [Int.toNat_natCast, ← hE] at h24
    refine ⟨b, N, A, s, e, rfl, hk, hS, hf, term_right ht, lF_right (fault_sound hf) hl, rfl, hs, he, by omega, hz, ?_, ?_, ?_, ?_⟩
    · rw [Int.toNat_natCast, ← hE]
    · rw [Int.toNat_natCast, ← hE]
    · rw [Int.toNat_natCast]; omega
    · rw [Int.toNat_natCast]

end Go.Proofs.Ytjjpkhlbokfjpaa
