/- Several texts as one: Nil, ReAll, Spoil, DrawTerm, BBeg, UKey, DrawU, PkKit. -/
import Derived.Test.YtjjpkhlbokfjpaaRank
import Derived.Test.YtjjpkhlbokfjpaaCat
import Derived.Test.YtjjpkhlbokfjpaaDrawRank
import Derived.Test.YtjjpkhlbokfjpaaSub
import Derived.Test.YtjjpkhlbokfjpaaL3One
import Derived.Test.YtjjpkhlbokfjpaaBSum
import Derived.Test.YtjjpkhlbokfjpaaBLists
import Derived.Test.YtjjpkhlbokfjpaaPkA
import Derived.Deep.RegionHeld3
/- Contracts: what the functions on precedences and terms answer where there is no symbol. -/
namespace Go.Proofs.Ytjjpkhlbokfjpaa
open Go.RowKit

theorem specFault_nil (w : World) : Calls Try.prog 50 #[.agg #[.slice none 0 0]] w fun e w' => e = .returned (.int .i64 2) ∧ Below w.heap.size w w' := by
  have h := specFault_many none 0 0 w (Or.inl (by omega)) (fun _ => ByteArray.empty) (fun _ => 0)
  rw [show faultF 0 (fun _ => ByteArray.empty) (fun _ => 0) = 2 by rw [faultF, if_pos (Or.inl (by omega))]] at h
  exact h

theorem implFault_nil (w : World) : Calls Try.prog 42 #[.agg #[.slice none 0 0]] w fun e w' => e = .returned (.int .i64 2) ∧ Below w.heap.size w w' := by
  have h := implFault_many none 0 0 w (Or.inl (by omega)) (fun _ => ByteArray.empty) (fun _ => 0)
  rw [show faultF 0 (fun _ => ByteArray.empty) (fun _ => 0) = 2 by rw [faultF, if_pos (Or.inl (by omega))]] at h
  exact h

set_option maxRecDepth 20000 in
set_option maxHeartbeats 400000 in
theorem specTerm_nil (p' : Option Addr) (m c' : Nat) (w : World) : Calls Try.prog 37 #[.agg #[.slice none 0 0], .slice p' m c'] w fun e w' => e = .returned (.int .i64 2) ∧ Below w.heap.size w w' := by
  go_enter Try.func37, Try.ntmps37
  go_wp2_with fail
  with_reducible refine (specFault_nil _).mono ?_
  rintro e w1 ⟨rfl, hb⟩
  have B := hidden (keepB (alloc_below _ _) hb)
  clear hb
  go_wp2
  go_ret
  exact ⟨rfl, B.out⟩

set_option maxRecDepth 20000 in
set_option maxHeartbeats 400000 in
theorem implTerm_nil (p' : Option Addr) (m c' : Nat) (w : World) : Calls Try.prog 14 #[.agg #[.slice none 0 0], .slice p' m c'] w fun e w' => e = .returned (.int .i64 2) ∧ Below w.heap.size w w' := by
  go_enter Try.func14, Try.ntmps14
  go_wp2_with fail
  with_reducible refine (implFault_nil _).mono ?_
  rintro e w1 ⟨rfl, hb⟩
  have B := hidden (keepB (alloc_below _ _) hb)
  clear hb
  go_wp2
  go_ret
  exact ⟨rfl, B.out⟩

end Go.Proofs.Ytjjpkhlbokfjpaa

/- Several texts as one: Repl, ReplS, ReplI, ReK, ReplMath, ReplKey, ReKey. -/
/- Contract: a term with another one at a place: the model's l3Replace. -/
namespace Go.Proofs.Ytjjpkhlbokfjpaa
open Go.RowKit

set_option maxRecDepth 20000 in
set_option maxHeartbeats 3200000 in
theorem l3Replace_any (B b off n c b' off' m c' b3 off3 k c3 q e : Nat) (N : Nat → ByteArray) (A T M : Nat → Int) (w : World) (hd : One w B (.slice (some ⟨b, off, none⟩) n c)) (h : Syms w b off n N A) (h' : Ints w b' off' m T) (h3 : Ints w b3 off3 k M) (hg : Nods n A m T) (hq : q < m) (hc : m ≤ c') (hk : 1 ≤ k ∧ k ≤ 24) (he : skip (aOf A T) m q 1 = some e) :
    Calls Try.prog 40 #[.pointer (some ⟨B, 0, none⟩), .slice (some ⟨b', off', none⟩) m c', .int .i64 q, .slice (some ⟨b3, off3, none⟩) k c3] w fun r w' => ∃ g d, r = .returned (.slice (some ⟨g, 0, none⟩) (q + k + (m - e)) d) ∧ w.heap.size ≤ g ∧ OwnI w' w.heap.size g (q + k + (m - e)) d (catU q k e T M) (q + k + (m - e)) ∧ Below w.heap.size w w' := by
  have hqe := (skip_le he).2 (by omega)
  have D := hidden hd
  have H := hidden h
  have H' := hidden h'
  have H3 := hidden h3
  have HG := hidden hg
  have HE := hidden (endV_some he)
  have hm24 := hg.most
  have g1 : q ≤ c' := by omega
  have g2 : e ≤ m := by omega
  have g3 : ¬ c' = 0 := by omega
  have IQ := hidden (show Ints w b' off' q T from ⟨fun _ => h'.blk (by omega), fun i hi => h'.cell i (by omega)⟩)
  clear hd h h' h3 hg he
  go_enter Try.func40, Try.ntmps40
  go_wp2_with fail
  with_reducible refine (l1Ints_any _ _ _ _ T _ IQ.out (by omega)).mono ?_
  rintro r w1 ⟨g4, d1, rfl, hg1, ho1, hb⟩
  have O1 := hidden ho1.vals
  have B1 := hidden hb
  have I3 := hidden (H3.out.keep hb)
  clear hb ho1 IQ
  go_wp2_with (first | (at_builtin; refine wpList_append_own _ rfl _ _ 27 rfl w.heap.size 2 _ (.int .i64 0) 1 8 Try.underlying27 rfl rfl rfl rfl rfl (by decide) _ _ _ rfl O1.out ⟨b3, off3, none⟩ k c3 (valsI M k) rfl (by simp [valsI]) I3.out.src0 (intNews _ _) (by unfold maxLen; omega) (by omega) (by have := B1.out.size; omega) ?_) | fail)
  intro v' w2 hown hgrow hnil
  obtain ⟨g5, d2, rfl, hg2, ho, hb⟩ := row_open hown (by simpa using hnil) (B1.out.grown hgrow B1.out.size (by intro x hx; simp [Value.ownBlock] at hx; omega))
  have O2 := hidden ho
  have B2 := hidden hb
  clear hown hgrow hnil ho hb O1 B1 I3
  go_wp2_with fail
  with_reducible refine (l3End_any _ _ _ _ _ _ _ _ _ N A T HG.out m q (by omega) (by omega) _ (D.out.keep B2.out) (H.out.keep B2.out) (H'.out.keep B2.out)).mono ?_
  rintro r w3 ⟨rfl, hb⟩
  rw [HE.out]
  have hl := (O2.out.lt g5 rfl).2
  have O3 := hidden (ownsRow_later O2.out hb hl)
  have B3 := hidden (keepB B2.out hb)
  have I4 := hidden ((H'.out.keep B3.out).part (q := e) (k := m - e) (by omega))
  clear hb O2 B2 hl
  by_cases hce : c' = e
  · subst hce
    obtain rfl : m = c' := by omega
    have hmm : m - m = 0 := Nat.sub_self m
    go_wp2_with (at_builtin; refine wpList_append_own _ rfl _ _ 27 rfl w.heap.size 2 _ (.int .i64 0) 1 8 Try.underlying27 rfl rfl rfl rfl rfl (by decide) _ _ _ rfl O3.out ⟨b', off', none⟩ 0 0 [] rfl rfl (fun j u hj => by simp at hj) (fun u hu => by simp at hu) (by unfold maxLen; omega) (by omega) (by have := B3.out.size; omega) ?_)
    intro v' w4 hown hgrow hnil
    obtain ⟨g6, d4, rfl, hg4, ho, hb⟩ := row_open hown (by simpa using hnil) (B3.out.grown hgrow B3.out.size (by intro x hx; simp [Value.ownBlock] at hx; omega))
    have O4 := hidden ho
    have B4 := hidden hb
    clear hown hgrow hnil ho hb O3 B3 I4
    go_wp2
    go_ret
    have O5 := O4.out
    have e2 : valsI T q ++ valsI M k ++ [] = valsI (catU q k m T M) (q + k + (m - m)) := by
      rw [← cat_vals, hmm]; rfl
    rw [List.append_nil] at e2
    simp only [e2] at O5
    rw [hmm] at O5 ⊢
    exact ⟨g6, d4, rfl, hg4, row_own O5, B4.out⟩
  · go_wp2_with (at_builtin; refine wpList_append_own _ rfl _ _ 27 rfl w.heap.size 2 _ (.int .i64 0) 1 8 Try.underlying27 rfl rfl rfl rfl rfl (by decide) _ _ _ rfl O3.out ⟨b', off' + e, none⟩ (m - e) (c' - e) (valsI (fun i => T (e + i)) (m - e)) rfl (by simp [valsI]) I4.out.src0 (intNews _ _) (by unfold maxLen; omega) (by omega) (by have := B3.out.size; omega) ?_)
    intro v' w4 hown hgrow hnil
    obtain ⟨g6, d4, rfl, hg4, ho, hb⟩ := row_open hown (by simpa using hnil) (B3.out.grown hgrow B3.out.size (by intro x hx; simp [Value.ownBlock] at hx; omega))
    have O4 := hidden ho
    have B4 := hidden hb
    clear hown hgrow hnil ho hb O3 B3 I4
    go_wp2
    go_ret
    have O5 := O4.out
    rw [← List.append_assoc, cat_vals] at O5
    exact ⟨g6, d4, rfl, hg4, row_own O5, B4.out⟩

end Go.Proofs.Ytjjpkhlbokfjpaa

/- Contracts: a term with another one at a place: ReplaceAt, as the model and as the program makes it. -/
namespace Go.Proofs.Ytjjpkhlbokfjpaa
open Go.RowKit

/-- The code of ReplaceAt: the fault of the term or the place, that of the other term, or too many nodes. -/
noncomputable def reC (n : Nat) (N : Nat → ByteArray) (A : Nat → Int) (m : Nat) (T : Nat → Int) (x : Int) (k : Nat) (M : Nat → Int) : Int :=
  if szC n N A m T x = 0 then (if lF n A k M = 0 then (if 24 < x.toNat + k + (m - (x.toNat + manyN (aOf A T) m x.toNat)) then 2 else 0) else lF n A k M) else szC n N A m T x

section
variable {n : Nat} {N : Nat → ByteArray} {A : Nat → Int} {m : Nat} {T : Nat → Int} {x : Int} {k : Nat} {M : Nat → Int}
theorem re_fault (h : szC n N A m T x ≠ 0) : reC n N A m T x k M = szC n N A m T x := by rw [reC, if_neg h]
theorem re_by (h : szC n N A m T x = 0) (hl : lF n A k M ≠ 0) : reC n N A m T x k M = lF n A k M := by rw [reC, if_pos h, if_neg hl]
theorem re_many (h : szC n N A m T x = 0) (hl : lF n A k M = 0) (ht : 24 < x.toNat + k + (m - (x.toNat + manyN (aOf A T) m x.toNat))) : reC n N A m T x k M = 2 := by rw [reC, if_pos h, if_pos hl, if_pos ht]
theorem re_ok (h : szC n N A m T x = 0) (hl : lF n A k M = 0) (ht : ¬ 24 < x.toNat + k + (m - (x.toNat + manyN (aOf A T) m x.toNat))) : reC n N A m T x k M = 0 := by rw [reC, if_pos h, if_pos hl, if_neg ht]

theorem term_sig (h : termF n N A m T = 0) : faultF n N A = 0 := by
  refine Classical.byContradiction fun hf => ?_
  rw [term_fault hf] at h; exact hf h
end

set_option maxRecDepth 20000 in
set_option maxHeartbeats 3200000 in
theorem specReplace_any (b off n c b' off' m c' b3 off3 k c3 : Nat) (N : Nat → ByteArray) (A T M : Nat → Int) (x : Int) (w : World) (h : Syms w b off n N A) (h' : Ints w b' off' m T) (h3 : Ints w b3 off3 k M) (hk : Kept n N A) (hm : m ≤ 1048576) (hm3 : k ≤ 1048576) (hc : m ≤ c') :
    Calls Try.prog 10 #[.agg #[.slice (some ⟨b, off, none⟩) n c], .slice (some ⟨b', off', none⟩) m c', .int .i64 x, .slice (some ⟨b3, off3, none⟩) k c3] w fun e w' => ListAns w (reC n N A m T x k M) (x.toNat + k + (m - (x.toNat + manyN (aOf A T) m x.toNat))) (catU x.toNat k (x.toNat + manyN (aOf A T) m x.toNat) T M) e w' ∧ Below w.heap.size w w' := by
  have D := hidden ((One.new w (.slice (some ⟨b, off, none⟩) n c) 26).keep (alloc_below _ (.cells #[.int .i64 0, .slice none 0 0] 31)))
  have R := hidden (Res.new (w.alloc (.cells #[.slice (some ⟨b, off, none⟩) n c] 26)) (.int .i64 0) (.slice none 0 0) 31)
  have B := hidden (keepB (alloc_below w (.cells #[.slice (some ⟨b, off, none⟩) n c] 26)) (alloc_below _ (.cells #[.int .i64 0, .slice none 0 0] 31)))
  have Q := hidden (h.keep B.out)
  have I := hidden (h'.keep B.out)
  have I3 := hidden (h3.keep B.out)
  have HK := hidden hk
  rw [World.size_alloc] at R
  clear h h' h3 hk
  go_enter Try.func10, Try.ntmps10
  go_wp2_with fail
  with_reducible refine (specTerm_any _ _ _ _ _ _ _ _ N A T _ Q.out I.out HK.out hm).mono ?_
  rintro e w1 ⟨rfl, hb⟩
  replace D := hidden (D.out.keep hb)
  replace R := hidden (R.out.keep hb)
  replace B := hidden (keepB B.out hb)
  replace I := hidden (I.out.keep hb)
  replace I3 := hidden (I3.out.keep hb)
  replace Q := hidden (Q.out.keep hb)
  clear hb
  by_cases hf : termF n N A m T = 0
  · have HF := hidden hf
    rw [hf]
    clear hf
    go_wp2_with fail
    with_reducible refine (l3Place_any _ _ _ _ _ hm).mono ?_
    rintro e w2 ⟨rfl, hb⟩
    replace D := hidden (D.out.keep hb)
    replace R := hidden (R.out.keep hb)
    replace B := hidden (keepB B.out hb)
    replace I := hidden (I.out.keep hb)
    replace I3 := hidden (I3.out.keep hb)
    replace Q := hidden (Q.out.keep hb)
    clear hb
    generalize hx : inB x m = ib
    cases ib
    · have HN := hidden (sub_range HF.out hx)
      have HA := hidden ((re_fault (k := k) (M := M) HN.out).trans (sz_range HF.out hx).1)
      clear hx
      obtain ⟨_, q0, q1, f0, f1⟩ := id R.out
      go_wp2
      exact bodyPost_ret (v := .agg #[.int .i64 3, .slice none 0 0]) (by simp [results, Try.results10, go_sem, q0, q1]) rfl ⟨Or.inl ⟨by rw [HA.out]; decide, by rw [HA.out]⟩, (B.out.setCell (by simp) _).setCell (by simp) _⟩
    · have HZ := hidden (sz_ok HF.out hx).1
      have HX := hidden hx
      clear hx
      go_wp2_with fail
      with_reducible refine (l3Fault_all _ _ _ _ _ _ _ _ _ N A M _ D.out Q.out I3.out (term_right HF.out).sig hm3).mono ?_
      rintro e w3 ⟨rfl, hb⟩
      replace D := hidden (D.out.keep hb)
      replace R := hidden (R.out.keep hb)
      replace B := hidden (keepB B.out hb)
      replace I := hidden (I.out.keep hb)
      replace I3 := hidden (I3.out.keep hb)
      replace Q := hidden (Q.out.keep hb)
      clear hb
      by_cases hl : lF n A k M = 0
      · have HL := hidden hl
        obtain ⟨q, e, rfl, hq, hs, hqe, hem, hE⟩ := place_ok HF.out HX.out
        have hk24 := (lF_right (term_right HF.out).sig hl).nods.most
        have hk1 := (lF_right (term_right HF.out).sig hl).pos
        have HS := hidden hs
        have HE := hidden hE
        rw [hl]
        clear hl hs hE
        go_wp2_with fail
        with_reducible refine (l3Replace_any _ _ _ _ _ _ _ _ _ _ _ _ _ _ _ N A T M _ D.out Q.out I.out I3.out (term_right HF.out).nods hq hc ⟨by omega, hk24⟩ HS.out).mono ?_
        rintro r w4 ⟨g, d, rfl, hgg, ho, hb⟩
        have O := hidden ho
        have hR := R.out.blk
        have hBs := B.out.size
        replace R := hidden (R.out.keep hb)
        replace B := hidden (keepB B.out hb)
        clear hb D I I3 Q ho
        obtain ⟨_, q0, q1, f0, f1⟩ := id R.out
        by_cases ht : 24 < q + k + (m - e)
        · have HA := hidden (re_many HZ.out HL.out (by rw [Int.toNat_natCast, ← HE.out]; exact ht))
          generalize q + k + (m - e) = tot at *
          have ht' : (24 : Int) < tot := by omega
          go_wp2
          exact bodyPost_ret (v := .agg #[.int .i64 2, .slice none 0 0]) (by simp [results, Try.results10, go_sem, q0, q1]) rfl ⟨Or.inl ⟨by rw [HA.out]; decide, by rw [HA.out]⟩, (B.out.setCell (by simp) _).setCell (by simp) _⟩
        · have HA := hidden (re_ok HZ.out HL.out (by rw [Int.toNat_natCast, ← HE.out]; exact ht))
          generalize hto : q + k + (m - e) = tot at *
          have HTO := hidden hto
          have ht' : ¬ (24 : Int) < tot := by omega
          clear hto
          go_wp2
          exact bodyPost_ret (v := .agg #[.int .i64 0, .slice (some ⟨g, 0, none⟩) tot d]) (by simp [results, Try.results10, go_sem, q0, q1]) rfl ⟨Or.inr ⟨HA.out, g, d, by rw [Int.toNat_natCast, ← HE.out, HTO.out], by omega, by
            rw [Int.toNat_natCast, ← HE.out, HTO.out]; exact ((O.out.other _ _ (by simp; omega)).other _ _ (by simp; omega)).base (by omega)⟩, (B.out.setCell (by simp) _).setCell (by simp) _⟩
      · have HA := hidden (re_by HZ.out hl)
        have HN := hidden hl
        have hl' : (lF n A k M != 0) = true := by simpa using hl
        generalize lF n A k M = z at *
        clear hl
        obtain ⟨_, q0, q1, f0, f1⟩ := id R.out
        go_wp2
        exact bodyPost_ret (v := .agg #[.int .i64 z, .slice none 0 0]) (by simp [results, Try.results10, go_sem, q0, q1]) rfl ⟨Or.inl ⟨by rw [HA.out]; exact HN.out, by rw [HA.out]⟩, (B.out.setCell (by simp) _).setCell (by simp) _⟩
  · have HN := hidden (sub_fault (x := x) hf)
    have HA := hidden ((re_fault (k := k) (M := M) HN.out).trans (sz_fault hf).1)
    have HF := hidden hf
    have hf' : (termF n N A m T != 0) = true := by simpa using hf
    generalize termF n N A m T = z at *
    clear hf
    obtain ⟨_, q0, q1, f0, f1⟩ := id R.out
    go_wp2
    exact bodyPost_ret (v := .agg #[.int .i64 z, .slice none 0 0]) (by simp [results, Try.results10, go_sem, q0, q1]) rfl ⟨Or.inl ⟨by rw [HA.out]; exact HF.out, by rw [HA.out]⟩, (B.out.setCell (by simp) _).setCell (by simp) _⟩

end Go.Proofs.Ytjjpkhlbokfjpaa

/- Contract: a term with another one at a place: ReplaceAt, as the program makes it. -/
namespace Go.Proofs.Ytjjpkhlbokfjpaa
open Go.RowKit

set_option maxRecDepth 20000 in
set_option maxHeartbeats 6400000 in
theorem implReplace_any (b off n c b' off' m c' b3 off3 k c3 : Nat) (N : Nat → ByteArray) (A T M : Nat → Int) (x : Int) (w : World) (h : Syms w b off n N A) (h' : Ints w b' off' m T) (h3 : Ints w b3 off3 k M) (hk : Kept n N A) (hm : m ≤ 1048576) (hm3 : k ≤ 1048576) (hc : m ≤ c') :
    Calls Try.prog 8 #[.agg #[.slice (some ⟨b, off, none⟩) n c], .slice (some ⟨b', off', none⟩) m c', .int .i64 x, .slice (some ⟨b3, off3, none⟩) k c3] w fun e w' => ListAns w (reC n N A m T x k M) (x.toNat + k + (m - (x.toNat + manyN (aOf A T) m x.toNat))) (catU x.toNat k (x.toNat + manyN (aOf A T) m x.toNat) T M) e w' ∧ Below w.heap.size w w' := by
  have D := hidden ((One.new w (.slice (some ⟨b, off, none⟩) n c) 26).keep (alloc_below _ (.cells #[.int .i64 0, .slice none 0 0] 31)))
  have R := hidden (Res.new (w.alloc (.cells #[.slice (some ⟨b, off, none⟩) n c] 26)) (.int .i64 0) (.slice none 0 0) 31)
  have B := hidden (keepB (alloc_below w (.cells #[.slice (some ⟨b, off, none⟩) n c] 26)) (alloc_below _ (.cells #[.int .i64 0, .slice none 0 0] 31)))
  have Q := hidden (h.keep B.out)
  have I := hidden (h'.keep B.out)
  have I3 := hidden (h3.keep B.out)
  have HK := hidden hk
  rw [World.size_alloc] at R
  clear h h' h3 hk
  go_enter Try.func8, Try.ntmps8
  go_wp2_with fail
  with_reducible refine (placeFault_any _ _ _ _ _ _ _ _ N A T x _ Q.out I.out HK.out hm).mono ?_
  rintro e w1 ⟨rfl, hb⟩
  replace D := hidden (D.out.keep hb)
  replace R := hidden (R.out.keep hb)
  replace B := hidden (keepB B.out hb)
  replace I := hidden (I.out.keep hb)
  replace I3 := hidden (I3.out.keep hb)
  replace Q := hidden (Q.out.keep hb)
  clear hb
  by_cases hz : szC n N A m T x = 0
  · have HZ := hidden hz
    have HF := hidden (show termF n N A m T = 0 from Classical.byContradiction fun hf => sub_fault hf hz)
    have HX := hidden (show inB x m = true from by
      cases hb : inB x m
      · exact absurd hz (sub_range HF.out hb)
      · rfl)
    have d0 := D.out.c0
    rw [hz]
    clear hz
    go_wp2_with fail
    with_reducible refine (implTerm_any _ _ _ _ _ _ _ _ N A M _ Q.out I3.out HK.out hm3).mono ?_
    rw [term_l (term_sig HF.out)]
    rintro e w2 ⟨rfl, hb⟩
    clear d0
    replace D := hidden (D.out.keep hb)
    replace R := hidden (R.out.keep hb)
    replace B := hidden (keepB B.out hb)
    replace I := hidden (I.out.keep hb)
    replace I3 := hidden (I3.out.keep hb)
    replace Q := hidden (Q.out.keep hb)
    clear hb
    by_cases hl : lF n A k M = 0
    · have HL := hidden hl
      obtain ⟨q, e, rfl, hq, hs, hqe, hem, hE⟩ := place_ok HF.out HX.out
      have hk24 := (lF_right (term_right HF.out).sig hl).nods.most
      have hk1 := (lF_right (term_right HF.out).sig hl).pos
      have hm24 := (term_right HF.out).nods.most
      have HE := hidden hE
      have d0 := D.out.c0
      have SC := hidden (sizeThere_any b off n c b' off' m c' q N A T w2.drew (Q.out.keep (Below.refl _ _).drew) (I.out.keep (Below.refl _ _).drew) (term_right HF.out).nods (term_right HF.out).sig.least hq hc)
      rw [hl]
      rw [show manyN (aOf A T) m q = e - q by omega] at SC
      obtain ⟨s, hs2⟩ : ∃ s, s = e - q := ⟨_, rfl⟩
      rw [← hs2] at SC
      have g1 : q ≤ c' := by omega
      have g3 : ¬ c' = 0 := by omega
      clear hl hs hE
      go_wp2_with fail
      go_cut [11, 12] (fun a z wc => a = .slice (some ⟨b', off', none⟩) q c' ∧ (∃ o cr, z = .slice (some ⟨b', o, none⟩) (m - e) cr ∧ (m - e = 0 ∨ o = off' + e)) ∧ Hid (Below w2.heap.size w2 wc))
      case first =>
        obtain rfl : e = q + s := by omega
        by_cases hce : c' = q + s
        · subst hce
          obtain rfl : m = q + s := by omega
          clear hs2
          have hsl : ∀ v : World, (Instr.slice 27 (.slice (some ⟨b', off', none⟩) (q + s) (q + s)) (some (.int .i64 ((q : Int) + (s : Int)))) none none).run Try.prog v = .ok (.slice (some ⟨b', off', none⟩) 0 0) v := fun v => by
            rw [run_slice_l (P := Try.prog) v 27 _ (q + s) (q + s) (by rfl) .i64 _ (by omega) (by omega), show ((q : Int) + (s : Int)).toNat = q + s by omega]
            simp [sliced, go_sem]
          have hw : wrap64 ((q : Int) + (s : Int)) = (q : Int) + (s : Int) := by unfold wrap64; omega
          have hw2 : IntKind.i64.wrap ((q : Int) + (s : Int)) = (q : Int) + (s : Int) := by rw [IntKind.wrap_i64]; omega
          have i1 : (0 : Int) ≤ (q : Int) + s := by omega
          have i3 : ((q : Int) + (s : Int)).toNat = q + s := by omega
          have i4 : (q : Int) + s ≤ ((q + s : Nat) : Int) := by omega
          have i5 : 0 ≤ wrap64 ((q : Int) + (s : Int)) ∧ wrap64 ((q : Int) + (s : Int)) ≤ ((q + s : Nat) : Int) := by rw [hw]; exact ⟨i1, i4⟩
          have i6 : 0 ≤ wrap64 ((q : Int) + (s : Int)) := i5.1
          have i7 : wrap64 ((q : Int) + (s : Int)) ≤ ((q + s : Nat) : Int) := i5.2
          go_region_with (first | (go_at_call 33; with_reducible refine SC.out.mono ?_; rintro e w5 ⟨rfl, hb5⟩))
          all_goals (go_wp2_with fail; go_meet)
          all_goals exact ⟨rfl, ⟨off', 0, by simp, Or.inl (Nat.sub_self _)⟩, hidden ((Below.refl _ _).drew.trans hb5)⟩
        · have g5 : q + s ≤ m := by omega
          clear hs2
          have hsl : ∀ v : World, (Instr.slice 27 (.slice (some ⟨b', off', none⟩) m c') (some (.int .i64 ((q : Int) + (s : Int)))) none none).run Try.prog v = .ok (.slice (some ⟨b', off' + (q + s), none⟩) (m - (q + s)) (c' - (q + s))) v := fun v => by
            rw [run_slice_l (P := Try.prog) v 27 _ m c' (by rfl) .i64 _ (by omega) (by omega), show ((q : Int) + (s : Int)).toNat = q + s by omega]
            simp [sliced, go_sem, hce]
          have hw : wrap64 ((q : Int) + (s : Int)) = (q : Int) + (s : Int) := by unfold wrap64; omega
          have hw2 : IntKind.i64.wrap ((q : Int) + (s : Int)) = (q : Int) + (s : Int) := by rw [IntKind.wrap_i64]; omega
          have i1 : (0 : Int) ≤ (q : Int) + s := by omega
          have i3 : ((q : Int) + (s : Int)).toNat = q + s := by omega
          have i4 : (q : Int) + s ≤ (m : Int) := by omega
          have i5 : 0 ≤ wrap64 ((q : Int) + (s : Int)) ∧ wrap64 ((q : Int) + (s : Int)) ≤ (m : Int) := by rw [hw]; exact ⟨i1, i4⟩
          have i6 : 0 ≤ wrap64 ((q : Int) + (s : Int)) := i5.1
          have i7 : wrap64 ((q : Int) + (s : Int)) ≤ (m : Int) := i5.2
          go_region_with (first | (go_at_call 33; with_reducible refine SC.out.mono ?_; rintro e w5 ⟨rfl, hb5⟩))
          all_goals (go_wp2_with fail; go_meet)
          all_goals exact ⟨rfl, ⟨_, _, rfl, Or.inr rfl⟩, hidden ((Below.refl _ _).drew.trans hb5)⟩
      case rest =>
        rename World => w3
        obtain ⟨rfl, ⟨o, cr, rfl, ho⟩, HB⟩ := hcut
        have hb := HB.out
        replace R := hidden (R.out.keep hb)
        replace B := hidden (keepB B.out hb)
        replace I := hidden (I.out.keep hb)
        replace I3 := hidden (I3.out.keep hb)
        clear hb d0 SC D Q HB hs2
        obtain ⟨_, q0, q1, f0, f1⟩ := id R.out
        by_cases ht : 24 < q + k + (m - e)
        · have HA := hidden (re_many HZ.out HL.out (by rw [Int.toNat_natCast, ← HE.out]; exact ht))
          have ht' : (24 : Int) < (q : Int) + k + ((m - e : Nat) : Int) := by omega
          have hrb : m - e ≤ 24 := by omega
          generalize m - e = r at *
          go_wp2
          exact bodyPost_ret (v := .agg #[.int .i64 2, .slice none 0 0]) (by simp [results, Try.results8, go_sem, q0, q1]) rfl ⟨Or.inl ⟨by rw [HA.out]; decide, by rw [HA.out]⟩, (B.out.setCell (by simp) _).setCell (by simp) _⟩
        · have HA := hidden (re_ok HZ.out HL.out (by rw [Int.toNat_natCast, ← HE.out]; exact ht))
          have ht' : ¬ (24 : Int) < (q : Int) + k + ((m - e : Nat) : Int) := by omega
          have IQ := hidden (show Ints w3 b' off' q T from ⟨fun _ => I.out.blk (by omega), fun i hi => I.out.cell i (by omega)⟩)
          have IR := hidden (show Ints w3 b' o (m - e) (fun i => T (e + i)) from by
            rcases ho with h0 | rfl
            · exact ⟨fun h => by omega, fun i hi => by omega⟩
            · exact I.out.part (by omega))
          have CC := hidden (concat_any w3.heap.size b' off' q c' b3 off3 k c3 b' o (m - e) cr T M (fun i => T (e + i)) (w3.alloc (.cells #[.slice (some ⟨b', off', none⟩) q c', .slice (some ⟨b3, off3, none⟩) k c3, .slice (some ⟨b', o, none⟩) (m - e) cr] 27)) (Three.new w3 _ _ _ 27) (IQ.out.keep (alloc_below _ _)) (I3.out.keep (alloc_below _ _)) (IR.out.keep (alloc_below _ _)) (by omega) ⟨by omega, hk24⟩ (by omega))
          rw [cat_vals] at CC
          clear IQ IR ho q0 q1 f0 f1
          have hrb : m - e ≤ 24 := by omega
          generalize hr : m - e = r at *
          have HR := hidden hr
          clear hr
          go_wp2_with fail
          with_reducible refine CC.out.mono ?_
          rintro r2 w4 ⟨g, d, rfl, hgg, hoo, hb⟩
          have hR := R.out.blk
          have hBs := B.out.size
          rw [World.size_alloc] at hgg
          have O := hidden (row_own hoo)
          replace hb := keepB (alloc_below w3 _) hb
          replace R := hidden (R.out.keep hb)
          replace B := hidden (keepB B.out hb)
          clear hb hoo CC I I3
          obtain ⟨_, q0, q1, f0, f1⟩ := id R.out
          generalize hto : q + k + r = tot at *
          have HTO := hidden hto
          clear hto
          go_wp2
          exact bodyPost_ret (v := .agg #[.int .i64 0, .slice (some ⟨g, 0, none⟩) tot d]) (by simp [results, Try.results8, go_sem, q0, q1]) rfl ⟨Or.inr ⟨HA.out, g, d, by rw [Int.toNat_natCast, ← HE.out, HR.out, HTO.out], by omega, by
            rw [Int.toNat_natCast, ← HE.out, HR.out, HTO.out]; exact ((O.out.other _ _ (by simp; omega)).other _ _ (by simp; omega)).base (by omega)⟩, (B.out.setCell (by simp) _).setCell (by simp) _⟩
    · have HA := hidden (re_by HZ.out hl)
      have HN := hidden hl
      have hl' : (lF n A k M != 0) = true := by simpa using hl
      generalize lF n A k M = z at *
      clear hl
      obtain ⟨_, q0, q1, f0, f1⟩ := id R.out
      go_wp2
      exact bodyPost_ret (v := .agg #[.int .i64 z, .slice none 0 0]) (by simp [results, Try.results8, go_sem, q0, q1]) rfl ⟨Or.inl ⟨by rw [HA.out]; exact HN.out, by rw [HA.out]⟩, (B.out.setCell (by simp) _).setCell (by simp) _⟩
  · have HA := hidden (re_fault (k := k) (M := M) hz)
    have HF := hidden hz
    have hf' : (szC n N A m T x != 0) = true := by simpa using hz
    generalize szC n N A m T x = z at *
    clear hz
    obtain ⟨_, q0, q1, f0, f1⟩ := id R.out
    go_wp2
    exact bodyPost_ret (v := .agg #[.int .i64 z, .slice none 0 0]) (by simp [results, Try.results8, go_sem, q0, q1]) rfl ⟨Or.inl ⟨by rw [HA.out]; exact HF.out, by rw [HA.out]⟩, (B.out.setCell (by simp) _).setCell (by simp) _⟩

end Go.Proofs.Ytjjpkhlbokfjpaa

/- Contracts for laws over drawn terms: where there is no symbol; lists of numbers; fields of answers. -/
namespace Go.Proofs.Ytjjpkhlbokfjpaa
open Go.RowKit

set_option maxRecDepth 20000 in
set_option maxHeartbeats 400000 in
theorem implPlaceFault_nil (p' : Option Addr) (m c' : Nat) (x : Int) (w : World) : Calls Try.prog 32 #[.agg #[.slice none 0 0], .slice p' m c', .int .i64 x] w fun e w' => e = .returned (.int .i64 2) ∧ Below w.heap.size w w' := by
  go_enter Try.func32, Try.ntmps32
  go_wp2_with fail
  with_reducible refine (implTerm_nil _ _ _ _).mono ?_
  rintro e w1 ⟨rfl, hb⟩
  have B := hidden (keepB (alloc_below _ _) hb)
  clear hb
  go_wp2
  go_ret
  exact ⟨rfl, B.out⟩

set_option maxRecDepth 20000 in
set_option maxHeartbeats 800000 in
theorem specSubtermAt_nil (p' : Option Addr) (m c' : Nat) (x : Int) (w : World) : Calls Try.prog 11 #[.agg #[.slice none 0 0], .slice p' m c', .int .i64 x] w fun e w' => e = .returned (.agg #[.int .i64 2, .slice none 0 0]) ∧ Below w.heap.size w w' := by
  have R := hidden (Res.new (w.alloc (.cells #[.slice none 0 0] 26)) (.int .i64 0) (.slice none 0 0) 31)
  have B := hidden (keepB (alloc_below w (.cells #[.slice none 0 0] 26)) (alloc_below _ (.cells #[.int .i64 0, .slice none 0 0] 31)))
  rw [World.size_alloc] at R
  go_enter Try.func11, Try.ntmps11
  go_wp2_with fail
  with_reducible refine (specTerm_nil _ _ _ _).mono ?_
  rintro e w1 ⟨rfl, hb⟩
  replace R := hidden (R.out.keep hb)
  replace B := hidden (keepB B.out hb)
  clear hb
  obtain ⟨_, q0, q1, f0, f1⟩ := id R.out
  go_wp2
  exact bodyPost_ret (v := .agg #[.int .i64 2, .slice none 0 0]) (by simp [results, Try.results11, go_sem, q0, q1]) rfl ⟨rfl, (B.out.setCell (by simp) _).setCell (by simp) _⟩

set_option maxRecDepth 20000 in
set_option maxHeartbeats 800000 in
theorem implSubtermAt_nil (p' : Option Addr) (m c' : Nat) (x : Int) (w : World) : Calls Try.prog 9 #[.agg #[.slice none 0 0], .slice p' m c', .int .i64 x] w fun e w' => e = .returned (.agg #[.int .i64 2, .slice none 0 0]) ∧ Below w.heap.size w w' := by
  have R := hidden (Res.new (w.alloc (.cells #[.slice none 0 0] 26)) (.int .i64 0) (.slice none 0 0) 31)
  have B := hidden (keepB (alloc_below w (.cells #[.slice none 0 0] 26)) (alloc_below _ (.cells #[.int .i64 0, .slice none 0 0] 31)))
  rw [World.size_alloc] at R
  go_enter Try.func9, Try.ntmps9
  go_wp2_with fail
  with_reducible refine (implPlaceFault_nil _ _ _ _ _).mono ?_
  rintro e w1 ⟨rfl, hb⟩
  replace R := hidden (R.out.keep hb)
  replace B := hidden (keepB B.out hb)
  clear hb
  obtain ⟨_, q0, q1, f0, f1⟩ := id R.out
  go_wp2
  exact bodyPost_ret (v := .agg #[.int .i64 2, .slice none 0 0]) (by simp [results, Try.results9, go_sem, q0, q1]) rfl ⟨rfl, (B.out.setCell (by simp) _).setCell (by simp) _⟩

set_option maxRecDepth 20000 in
set_option maxHeartbeats 800000 in
theorem specReplaceAt_nil (p' : Option Addr) (m c' : Nat) (x : Int) (p3 : Option Addr) (m3 c3 : Nat) (w : World) : Calls Try.prog 10 #[.agg #[.slice none 0 0], .slice p' m c', .int .i64 x, .slice p3 m3 c3] w fun e w' => e = .returned (.agg #[.int .i64 2, .slice none 0 0]) ∧ Below w.heap.size w w' := by
  have R := hidden (Res.new (w.alloc (.cells #[.slice none 0 0] 26)) (.int .i64 0) (.slice none 0 0) 31)
  have B := hidden (keepB (alloc_below w (.cells #[.slice none 0 0] 26)) (alloc_below _ (.cells #[.int .i64 0, .slice none 0 0] 31)))
  rw [World.size_alloc] at R
  go_enter Try.func10, Try.ntmps10
  go_wp2_with fail
  with_reducible refine (specTerm_nil _ _ _ _).mono ?_
  rintro e w1 ⟨rfl, hb⟩
  replace R := hidden (R.out.keep hb)
  replace B := hidden (keepB B.out hb)
  clear hb
  obtain ⟨_, q0, q1, f0, f1⟩ := id R.out
  go_wp2
  exact bodyPost_ret (v := .agg #[.int .i64 2, .slice none 0 0]) (by simp [results, Try.results10, go_sem, q0, q1]) rfl ⟨rfl, (B.out.setCell (by simp) _).setCell (by simp) _⟩

set_option maxRecDepth 20000 in
set_option maxHeartbeats 800000 in
theorem implReplaceAt_nil (p' : Option Addr) (m c' : Nat) (x : Int) (p3 : Option Addr) (m3 c3 : Nat) (w : World) : Calls Try.prog 8 #[.agg #[.slice none 0 0], .slice p' m c', .int .i64 x, .slice p3 m3 c3] w fun e w' => e = .returned (.agg #[.int .i64 2, .slice none 0 0]) ∧ Below w.heap.size w w' := by
  have R := hidden (Res.new (w.alloc (.cells #[.slice none 0 0] 26)) (.int .i64 0) (.slice none 0 0) 31)
  have B := hidden (keepB (alloc_below w (.cells #[.slice none 0 0] 26)) (alloc_below _ (.cells #[.int .i64 0, .slice none 0 0] 31)))
  rw [World.size_alloc] at R
  go_enter Try.func8, Try.ntmps8
  go_wp2_with fail
  with_reducible refine (implPlaceFault_nil _ _ _ _ _).mono ?_
  rintro e w1 ⟨rfl, hb⟩
  replace R := hidden (R.out.keep hb)
  replace B := hidden (keepB B.out hb)
  clear hb
  obtain ⟨_, q0, q1, f0, f1⟩ := id R.out
  go_wp2
  exact bodyPost_ret (v := .agg #[.int .i64 2, .slice none 0 0]) (by simp [results, Try.results8, go_sem, q0, q1]) rfl ⟨rfl, (B.out.setCell (by simp) _).setCell (by simp) _⟩

set_option maxRecDepth 20000 in
set_option maxHeartbeats 800000 in
theorem specPackTerm_nil (p' : Option Addr) (m c' : Nat) (w : World) : Calls Try.prog 19 #[.agg #[.slice none 0 0], .slice p' m c'] w fun e w' => e = .returned (.agg #[.int .i64 2, .slice none 0 0]) ∧ Below w.heap.size w w' := by
  have R := hidden (Res.new (w.alloc (.cells #[.slice none 0 0] 26)) (.int .i64 0) (.slice none 0 0) 42)
  have B := hidden (keepB (alloc_below w (.cells #[.slice none 0 0] 26)) (alloc_below _ (.cells #[.int .i64 0, .slice none 0 0] 42)))
  rw [World.size_alloc] at R
  go_enter Try.func19, Try.ntmps19
  go_wp2_with fail
  with_reducible refine (specTerm_nil _ _ _ _).mono ?_
  rintro e w1 ⟨rfl, hb⟩
  replace R := hidden (R.out.keep hb)
  replace B := hidden (keepB B.out hb)
  clear hb
  obtain ⟨_, q0, q1, f0, f1⟩ := id R.out
  go_wp2
  exact bodyPost_ret (v := .agg #[.int .i64 2, .slice none 0 0]) (by simp [results, Try.results19, go_sem, q0, q1]) rfl ⟨rfl, (B.out.setCell (by simp) _).setCell (by simp) _⟩

set_option maxRecDepth 20000 in
set_option maxHeartbeats 800000 in
theorem implPackTerm_nil (p' : Option Addr) (m c' : Nat) (w : World) : Calls Try.prog 16 #[.agg #[.slice none 0 0], .slice p' m c'] w fun e w' => e = .returned (.agg #[.int .i64 2, .slice none 0 0]) ∧ Below w.heap.size w w' := by
  have R := hidden (Res.new (w.alloc (.cells #[.slice none 0 0] 26)) (.int .i64 0) (.slice none 0 0) 42)
  have B := hidden (keepB (alloc_below w (.cells #[.slice none 0 0] 26)) (alloc_below _ (.cells #[.int .i64 0, .slice none 0 0] 42)))
  rw [World.size_alloc] at R
  go_enter Try.func16, Try.ntmps16
  go_wp2_with fail
  with_reducible refine (implTerm_nil _ _ _ _).mono ?_
  rintro e w1 ⟨rfl, hb⟩
  replace R := hidden (R.out.keep hb)
  replace B := hidden (keepB B.out hb)
  clear hb
  obtain ⟨_, q0, q1, f0, f1⟩ := id R.out
  go_wp2
  exact bodyPost_ret (v := .agg #[.int .i64 2, .slice none 0 0]) (by simp [results, Try.results16, go_sem, q0, q1]) rfl ⟨rfl, (B.out.setCell (by simp) _).setCell (by simp) _⟩

set_option maxRecDepth 20000 in
set_option maxHeartbeats 800000 in
theorem specUnpackTerm_nil (p' : Option Addr) (m c' : Nat) (w : World) : Calls Try.prog 20 #[.agg #[.slice none 0 0], .slice p' m c'] w fun e w' => e = .returned (.agg #[.int .i64 2, .slice none 0 0]) ∧ Below w.heap.size w w' := by
  have R := hidden (Res.new (w.alloc (.cells #[.slice none 0 0] 26)) (.int .i64 0) (.slice none 0 0) 31)
  have B := hidden (keepB (alloc_below w (.cells #[.slice none 0 0] 26)) (alloc_below _ (.cells #[.int .i64 0, .slice none 0 0] 31)))
  rw [World.size_alloc] at R
  go_enter Try.func20, Try.ntmps20
  go_wp2_with fail
  with_reducible refine (specFault_nil _).mono ?_
  rintro e w1 ⟨rfl, hb⟩
  replace R := hidden (R.out.keep hb)
  replace B := hidden (keepB B.out hb)
  clear hb
  obtain ⟨_, q0, q1, f0, f1⟩ := id R.out
  go_wp2
  exact bodyPost_ret (v := .agg #[.int .i64 2, .slice none 0 0]) (by simp [results, Try.results20, go_sem, q0, q1]) rfl ⟨rfl, (B.out.setCell (by simp) _).setCell (by simp) _⟩

set_option maxRecDepth 20000 in
set_option maxHeartbeats 800000 in
theorem implUnpackTerm_nil (p' : Option Addr) (m c' : Nat) (w : World) : Calls Try.prog 18 #[.agg #[.slice none 0 0], .slice p' m c'] w fun e w' => e = .returned (.agg #[.int .i64 2, .slice none 0 0]) ∧ Below w.heap.size w w' := by
  have R := hidden (Res.new (w.alloc (.cells #[.slice none 0 0] 26)) (.int .i64 0) (.slice none 0 0) 31)
  have B := hidden (keepB (alloc_below w (.cells #[.slice none 0 0] 26)) (alloc_below _ (.cells #[.int .i64 0, .slice none 0 0] 31)))
  rw [World.size_alloc] at R
  go_enter Try.func18, Try.ntmps18
  go_wp2_with fail
  with_reducible refine (implFault_nil _).mono ?_
  rintro e w1 ⟨rfl, hb⟩
  replace R := hidden (R.out.keep hb)
  replace B := hidden (keepB B.out hb)
  clear hb
  obtain ⟨_, q0, q1, f0, f1⟩ := id R.out
  go_wp2
  exact bodyPost_ret (v := .agg #[.int .i64 2, .slice none 0 0]) (by simp [results, Try.results18, go_sem, q0, q1]) rfl ⟨rfl, (B.out.setCell (by simp) _).setCell (by simp) _⟩

set_option maxRecDepth 20000 in
set_option maxHeartbeats 400000 in
theorem implKeyFault_nil (p' : Option Addr) (m c' : Nat) (p3 : Option Addr) (m3 c3 : Nat) (w : World) : Calls Try.prog 56 #[.agg #[.slice none 0 0], .slice p' m c', .slice p3 m3 c3] w fun e w' => e = .returned (.int .i64 2) ∧ Below w.heap.size w w' := by
  go_enter Try.func56, Try.ntmps56
  go_wp2_with fail
  with_reducible refine (implTerm_nil _ _ _ _).mono ?_
  rintro e w1 ⟨rfl, hb⟩
  have B := hidden (keepB (alloc_below _ _) hb)
  clear hb
  go_wp2
  go_ret
  exact ⟨rfl, B.out⟩

set_option maxRecDepth 20000 in
set_option maxHeartbeats 800000 in
theorem specKeyOf_nil (p' : Option Addr) (m c' : Nat) (p3 : Option Addr) (m3 c3 : Nat) (w : World) : Calls Try.prog 25 #[.agg #[.slice none 0 0], .slice p' m c', .slice p3 m3 c3] w fun e w' => e = .returned (.agg #[.int .i64 2, .slice none 0 0]) ∧ Below w.heap.size w w' := by
  have R := hidden (Res.new (w.alloc (.cells #[.slice none 0 0] 26)) (.int .i64 0) (.slice none 0 0) 42)
  have B := hidden (keepB (alloc_below w (.cells #[.slice none 0 0] 26)) (alloc_below _ (.cells #[.int .i64 0, .slice none 0 0] 42)))
  rw [World.size_alloc] at R
  go_enter Try.func25, Try.ntmps25
  go_wp2_with fail
  with_reducible refine (specTerm_nil _ _ _ _).mono ?_
  rintro e w1 ⟨rfl, hb⟩
  replace R := hidden (R.out.keep hb)
  replace B := hidden (keepB B.out hb)
  clear hb
  obtain ⟨_, q0, q1, f0, f1⟩ := id R.out
  go_wp2
  exact bodyPost_ret (v := .agg #[.int .i64 2, .slice none 0 0]) (by simp [results, Try.results25, go_sem, q0, q1]) rfl ⟨rfl, (B.out.setCell (by simp) _).setCell (by simp) _⟩

set_option maxRecDepth 20000 in
set_option maxHeartbeats 800000 in
theorem implKeyOf_nil (p' : Option Addr) (m c' : Nat) (p3 : Option Addr) (m3 c3 : Nat) (w : World) : Calls Try.prog 24 #[.agg #[.slice none 0 0], .slice p' m c', .slice p3 m3 c3] w fun e w' => e = .returned (.agg #[.int .i64 2, .slice none 0 0]) ∧ Below w.heap.size w w' := by
  have R := hidden (Res.new (w.alloc (.cells #[.slice none 0 0] 26)) (.int .i64 0) (.slice none 0 0) 42)
  have B := hidden (keepB (alloc_below w (.cells #[.slice none 0 0] 26)) (alloc_below _ (.cells #[.int .i64 0, .slice none 0 0] 42)))
  rw [World.size_alloc] at R
  go_enter Try.func24, Try.ntmps24
  go_wp2_with fail
  with_reducible refine (implKeyFault_nil _ _ _ _ _ _ _).mono ?_
  rintro e w1 ⟨rfl, hb⟩
  replace R := hidden (R.out.keep hb)
  replace B := hidden (keepB B.out hb)
  clear hb
  obtain ⟨_, q0, q1, f0, f1⟩ := id R.out
  go_wp2
  exact bodyPost_ret (v := .agg #[.int .i64 2, .slice none 0 0]) (by simp [results, Try.results24, go_sem, q0, q1]) rfl ⟨rfl, (B.out.setCell (by simp) _).setCell (by simp) _⟩

set_option maxRecDepth 20000 in
set_option maxHeartbeats 800000 in
theorem lwNums_row (b k d b' d' : Nat) (L : Nat → Int) (w : World) (h : Ints w b 0 k L) (h' : Ints w b' 0 k L) (hm : k ≤ 1048576) :
    Calls Try.prog 12 #[.slice (some ⟨b, 0, none⟩) k d, .slice (some ⟨b', 0, none⟩) k d'] w fun e w' => e = .returned (.bool true) ∧ Below w.heap.size w w' := by
  go_enter Try.func12, Try.ntmps12
  go_wp2
  go_loopw [5] (fun i wr => ∃ j : Nat, j ≤ k ∧ i = .int .i64 j ∧ ∃ q, wr = w.drewN q) (fun i _ => k - (intOf i).toNat)
  case atStart => exact ⟨0, Nat.zero_le _, rfl, 0, rfl⟩
  case round =>
    obtain ⟨j, hj, rfl, q, rfl⟩ := hrel
    by_cases hlt : j < k
    · have c1 := h.cell j hlt
      have c2 := h'.cell j hlt
      rw [Nat.zero_add] at c1 c2
      go_wp2
      go_quiet (fail)
      go_wp2
      go_roundw
      case rel => exact ⟨j + 1, by omega, by go_num, _, rfl⟩
      case measure => simp [intOf]; omega
    · go_wp2
      go_ret
      exact ⟨rfl, below_drewN (Below.refl _ _) _⟩

set_option maxRecDepth 20000 in
set_option maxHeartbeats 400000 in
theorem lwBig_any (p : Option Addr) (n c : Nat) (w : World) (hn : n ≤ 1048576) : Calls Try.prog 6 #[.slice p n c] w fun e w' => e = .returned (.bool false) ∧ w' = w := by
  have h : ¬ (1048576 : Int) < n := by omega
  go_enter Try.func6, Try.ntmps6
  go_wp2
  go_ret
  exact ⟨rfl, rfl⟩

set_option maxRecDepth 20000 in
set_option maxHeartbeats 400000 in
theorem lwBig_big (p : Option Addr) (n c : Nat) (w : World) (hn : ¬ n ≤ 1048576) : Calls Try.prog 6 #[.slice p n c] w fun e w' => e = .returned (.bool true) ∧ w' = w := by
  have h : (1048576 : Int) < n := by omega
  go_enter Try.func6, Try.ntmps6
  go_wp2
  go_ret
  exact ⟨rfl, rfl⟩

theorem lwNums_eq (b k d b' d' : Nat) (L L' : Nat → Int) (w : World) (h : Ints w b 0 k L) (h' : Ints w b' 0 k L') (hm : k ≤ 1048576) (he : ∀ i, i < k → L' i = L i) :
    Calls Try.prog 12 #[.slice (some ⟨b, 0, none⟩) k d, .slice (some ⟨b', 0, none⟩) k d'] w fun e w' => e = .returned (.bool true) ∧ Below w.heap.size w w' :=
  lwNums_row b k d b' d' L w h ⟨h'.blk, fun i hi => by rw [h'.cell i hi, he i hi]⟩ hm

theorem fldT0 (C : Int) (a : Option Addr) (b k : Nat) (v : World) : (Instr.field 31 (.agg #[.int .i64 C, .slice a b k]) 0).run Try.prog v = .ok (.int .i64 C) v := by kernel_rfl
theorem fldT1 (C : Int) (a : Option Addr) (b k : Nat) (v : World) : (Instr.field 31 (.agg #[.int .i64 C, .slice a b k]) 1).run Try.prog v = .ok (.slice a b k) v := by kernel_rfl

theorem fldB0 (C : Int) (a : Option Addr) (b k : Nat) (v : World) : (Instr.field 42 (.agg #[.int .i64 C, .slice a b k]) 0).run Try.prog v = .ok (.int .i64 C) v := by kernel_rfl
theorem fldB1 (C : Int) (a : Option Addr) (b k : Nat) (v : World) : (Instr.field 42 (.agg #[.int .i64 C, .slice a b k]) 1).run Try.prog v = .ok (.slice a b k) v := by kernel_rfl

theorem fldI0 (x y : Int) (v : World) : (Instr.field 36 (.agg #[.int .i64 x, .int .i64 y]) 0).run Try.prog v = .ok (.int .i64 x) v := by kernel_rfl
theorem fldI1 (x y : Int) (v : World) : (Instr.field 36 (.agg #[.int .i64 x, .int .i64 y]) 1).run Try.prog v = .ok (.int .i64 y) v := by kernel_rfl

/-- An answer that holds a list: a code and some list, which is known where the code is 0. -/
theorem ListAns.some {w w' : World} {C : Int} {k : Nat} {U : Nat → Int} {e : Ending} (h : ListAns w C k U e w') :
    ∃ q n d, e = .returned (.agg #[.int .i64 C, .slice q n d]) ∧ (C = 0 → ∃ g, q = Option.some ⟨g, 0, none⟩ ∧ n = k ∧ w.heap.size ≤ g ∧ OwnI w' w.heap.size g k d U k) := by
  rcases h with ⟨h, rfl⟩ | ⟨h, g, d, rfl, hg, ho⟩
  · exact ⟨_, _, _, rfl, fun h0 => absurd h0 h⟩
  · exact ⟨_, _, _, by rw [h], fun _ => ⟨g, rfl, rfl, hg, ho⟩⟩

end Go.Proofs.Ytjjpkhlbokfjpaa

/- Plain facts: a term in which a part was replaced. -/
namespace Go.Proofs.Ytjjpkhlbokfjpaa
open Go.RowKit

/-- What is passed over looks at what it passes alone. -/
theorem skip_shift (a a' : Nat → Nat) (m m' : Nat) : ∀ (d p p' j r : Nat), m - p ≤ d → skip a m p j = some r → (∀ i, p + i < r → a' (p' + i) = a (p + i)) → p' + (r - p) ≤ m' → skip a' m' p' j = some (p' + (r - p)) := by
  intro d
  induction d with
  | zero =>
    intro p p' j r hd h _ _
    cases j with
    | zero =>
      rw [skip_zero] at h ⊢
      cases h
      simp
    | succ j => rw [skip_end a j (by omega)] at h; cases h
  | succ d ih =>
    intro p p' j r hd h ha hm
    cases j with
    | zero =>
      rw [skip_zero] at h ⊢
      cases h
      simp
    | succ j =>
      by_cases hp : p < m
      · rw [skip_step a j hp] at h
        have hl := (skip_le h).1
        have h0 := ha 0 (by omega)
        rw [Nat.add_zero, Nat.add_zero] at h0
        rw [skip_step a' j (by omega), h0, ih (p + 1) (p' + 1) (j + a p) r (by omega) h (fun i hi => by
          have := ha (i + 1) (by omega)
          rw [show p' + 1 + i = p' + (i + 1) by omega, show p + 1 + i = p + (i + 1) by omega]; exact this) (by omega)]
        congr 1
        omega
      · rw [skip_end a j (by omega)] at h; cases h

theorem awt_same {a a' : Nat → Nat} : ∀ j, (∀ i, i < j → a' i = a i) → awt a' 0 j = awt a 0 j
  | 0, _ => rfl
  | j + 1, h => by
    have h1 := awt_same j (fun i hi => h i (by omega))
    have h2 := h j (by omega)
    simp only [awt, h1, Nat.zero_add, h2]

section
variable {A T M : Nat → Int} {m k q e : Nat}

theorem catU_low {i : Nat} (h : i < q) : catU q k e T M i = T i := by simp [catU, h]
theorem catU_mid {i : Nat} (h : i < k) : catU q k e T M (q + i) = M i := by
  rw [catU, if_neg (by omega), if_pos (by omega), Nat.add_sub_cancel_left]
theorem catU_high (i : Nat) : catU q k e T M (q + k + i) = T (e + i) := by
  rw [catU, if_neg (by omega), if_neg (by omega), Nat.add_sub_cancel_left]

theorem aOf_eq {T T' : Nat → Int} {i j : Nat} (h : T i = T' j) : aOf A T i = aOf A T' j := by simp only [aOf, h]

/-- The part that was put in ends where it should. -/
theorem cat_part (hM : skip (aOf A M) k 0 1 = some k) : skip (aOf A (catU q k e T M)) (q + k + (m - e)) q 1 = some (q + k) := by
  have := skip_shift (aOf A M) (aOf A (catU q k e T M)) k (q + k + (m - e)) k 0 q 1 k (by omega) hM (fun i hi => by
    rw [Nat.zero_add]; exact aOf_eq (catU_mid (by omega))) (by omega)
  simpa using this

/-- The whole is a term again. -/
theorem cat_whole (hT : skip (aOf A T) m 0 1 = some m) (hM : skip (aOf A M) k 0 1 = some k) (hq : q < m) (he : skip (aOf A T) m q 1 = some e) : skip (aOf A (catU q k e T M)) (q + k + (m - e)) 0 1 = some (q + k + (m - e)) := by
  have hmm : manyN (aOf A T) m 0 = m := by rw [manyN_some hT]; rfl
  have hem := (skip_le he).2 (by omega)
  have hpos : ∀ i, i < m → 0 < awt (aOf A T) 0 i := fun i hi => awt_pos (m := m) (Nat.zero_le _) i (Or.inl (by omega))
  have h1 := (awt_skip (aOf A T) (m := m) (p := 0) q (by omega) (fun i hi => hpos i (by omega))).2
  have hs : ∀ i, i ≤ q → awt (aOf A (catU q k e T M)) 0 i = awt (aOf A T) 0 i := fun i hi => awt_same i (fun j hj => aOf_eq (catU_low (by omega)))
  have h2 := (awt_skip (aOf A (catU q k e T M)) (m := q + k + (m - e)) (p := 0) q (by omega) (fun i hi => by rw [hs i (by omega)]; exact hpos i (by omega))).2
  rw [hs q (Nat.le_refl _)] at h2
  have hq0 := hpos q hq
  obtain ⟨t, ht⟩ : ∃ t, (awt (aOf A T) 0 q).toNat = 1 + t := ⟨(awt (aOf A T) 0 q).toNat - 1, by omega⟩
  rw [ht, Nat.zero_add, skip_split, hT, he] at h1
  rw [ht, Nat.zero_add, skip_split, cat_part hM] at h2
  rw [h2]
  have := skip_shift (aOf A T) (aOf A (catU q k e T M)) m (q + k + (m - e)) m e (q + k) t m (by omega) h1.symm (fun i hi => aOf_eq (catU_high i)) (by omega)
  exact this

/-- The old part put back gives the old term. -/
theorem cat_back (hqe : q < e) {i : Nat} : catU q (e - q) (q + k) (catU q k e T M) (fun j => T (q + j)) i = T i := by
  unfold catU
  by_cases h1 : i < q
  · simp [h1]
  · rw [if_neg h1]
    by_cases h2 : i < q + (e - q)
    · rw [if_pos h2]; show T (q + (i - q)) = T i; congr 1; omega
    · rw [if_neg h2, if_neg (by omega), if_neg (by omega)]; congr 1; omega
end

end Go.Proofs.Ytjjpkhlbokfjpaa

/- Plain facts: codes and sizes of a term in which a part was replaced. -/
namespace Go.Proofs.Ytjjpkhlbokfjpaa
open Go.RowKit

section
variable {n : Nat} {N : Nat → ByteArray} {A T M : Nat → Int} {m k q e : Nat}

/-- A part of a term is a term. -/
theorem part_lF (hT : Trm n A m T) (he : skip (aOf A T) m q 1 = some e) : lF n A (e - q) (fun j => T (q + j)) = 0 := by
  have hl := skip_le he
  have hem := hl.2 (by omega)
  have h24 := hT.nods.most
  refine lF_ok (by omega) (fun i hi => hT.nods.node (q + i) (by omega)) ?_
  have := skip_shift (aOf A T) (aOf A (fun j => T (q + j))) m (e - q) m q 0 1 e (by omega) he (fun i hi => by
    rw [Nat.zero_add]; exact aOf_eq rfl) (by omega)
  simpa using this

/-- The whole is a term again. -/
theorem cat_lF (hT : Trm n A m T) (hM : Trm n A k M) (hq : q < m) (he : skip (aOf A T) m q 1 = some e) (h24 : q + k + (m - e) ≤ 24) : lF n A (q + k + (m - e)) (catU q k e T M) = 0 := by
  have hem := (skip_le he).2 (by omega)
  have hk := hM.pos
  refine lF_ok (by omega) (fun i hi => ?_) (cat_whole hT.whole hM.whole hq he)
  by_cases h1 : i < q
  · rw [catU_low h1]; exact hT.nods.node i (by omega)
  · by_cases h2 : i < q + k
    · obtain ⟨j, rfl⟩ : ∃ j, i = q + j := ⟨i - q, by omega⟩
      rw [catU_mid (by omega)]; exact hM.nods.node j (by omega)
    · obtain ⟨j, rfl⟩ : ∃ j, i = q + k + j := ⟨i - (q + k), by omega⟩
      rw [catU_high]; exact hT.nods.node (e + j) (by omega)

/-- How large the part is that was put in. -/
theorem cat_size (hM : Trm n A k M) : manyN (aOf A (catU q k e T M)) (q + k + (m - e)) q = k := by
  rw [manyN_some (cat_part hM.whole)]; omega

/-- All codes of what the law asks behind a replacement. -/
theorem cat_codes (hf : faultF n N A = 0) (hT : Trm n A m T) (hM : Trm n A k M) (hq : q < m) (he : skip (aOf A T) m q 1 = some e) (h24 : q + k + (m - e) ≤ 24) :
    termF n N A (q + k + (m - e)) (catU q k e T M) = 0 ∧ szC n N A (q + k + (m - e)) (catU q k e T M) (q : Int) = 0 ∧ szV n N A (q + k + (m - e)) (catU q k e T M) (q : Int) = (k : Int) ∧
      reC n N A (q + k + (m - e)) (catU q k e T M) (q : Int) (e - q) (fun j => T (q + j)) = 0 := by
  have hem := (skip_le he).2 (by omega)
  have hk := hM.pos
  have h1 : termF n N A (q + k + (m - e)) (catU q k e T M) = 0 := by rw [term_l hf]; exact cat_lF hT hM hq he h24
  have hin : inB (q : Int) (q + k + (m - e)) = true := by simp [inB]; omega
  have h2 := sz_ok h1 hin
  have hc : manyN (aOf A (catU q k e T M)) (q + k + (m - e)) (q : Int).toNat = k := by rw [Int.toNat_natCast]; exact cat_size hM
  have hm := hT.nods.most
  refine ⟨h1, h2.1, by rw [h2.2, hc], re_ok h2.1 (part_lF hT he) ?_⟩
  rw [hc, Int.toNat_natCast]
  omega
end

end Go.Proofs.Ytjjpkhlbokfjpaa

/- Law FnReplaces: what its walk knows of the signature, the terms and the place that were drawn. -/

namespace Go.Proofs.Ytjjpkhlbokfjpaa
open Go.RowKit

theorem ownI_le {A : World} {B g n d k : Nat} {T : Nat → Int} (h : OwnI A B g n d T k) : n ≤ d := by
  obtain ⟨xs, ho, hx⟩ := h
  rcases ho.2 with ⟨hv, h0⟩ | ⟨g', cap, cur, hv, _, hgg, hc, _⟩
  · cases hv
  · injection hv with h1 h2 h3; omega

/-- A list that was answered. -/
def LstOk (W : World) (q : Option Addr) (n d K : Nat) (U : Nat → Int) : Prop := ∃ g, q = some ⟨g, 0, none⟩ ∧ n = K ∧ Ints W g 0 K U ∧ K ≤ d

theorem LstOk.keep {w w' : World} {q : Option Addr} {n d K : Nat} {U : Nat → Int} (h : LstOk w q n d K U) (hb : Below w.heap.size w w') : LstOk w' q n d K U := by
  obtain ⟨g, h1, h2, h3, h4⟩ := h
  exact ⟨g, h1, h2, h3.keep hb, h4⟩

/-- An answer: a code and some list, which is known where the code is 0. -/
def LstAns (C : Int) (K : Nat) (U : Nat → Int) (e : Ending) (W : World) : Prop :=
  ∃ q n d, e = .returned (.agg #[.int .i64 C, .slice q n d]) ∧ (C = 0 → LstOk W q n d K U)

theorem ListAns.lst {w w' : World} {C : Int} {k : Nat} {U : Nat → Int} {e : Ending} (h : ListAns w C k U e w') : LstAns C k U e w' := by
  obtain ⟨q, n, d, h1, h2⟩ := h.some
  refine ⟨q, n, d, h1, fun h0 => ?_⟩
  obtain ⟨g, h3, h4, _, h5⟩ := h2 h0
  exact ⟨g, h3, h4, h5.ints, ownI_le h5⟩

/-- What the code 0 tells of a replacement. -/
structure ReOk (w : World) (q : Option Addr) (n m : Nat) (L : Nat → Int) (x : Int) (m2 : Nat) (L2 : Nat → Int) (Co : Int) (Kr Ko : Nat) (Ur Uo : Nat → Int) (b : Nat) (N : Nat → ByteArray) (A : Nat → Int) (s e : Nat) : Prop where
  sig : q = some ⟨b, 0, none⟩
  kept : Kept n N A
  syms : Syms w b 0 n N A
  fine : faultF n N A = 0
  term : Trm n A m L
  by' : Trm n A m2 L2
  at' : x = (s : Int)
  low : s < m
  cut : skip (aOf A L) m s 1 = some e
  most : s + m2 + (m - e) ≤ 24
  co : Co = 0
  kr : Kr = s + m2 + (m - e)
  ur : Ur = catU s m2 e L L2
  ko : Ko = e - s
  uo : Uo = fun j => L (s + j)

theorem wrapK {z : Int} (h0 : 0 ≤ z) (h1 : z ≤ 1048576) : IntKind.i64.wrap z = z := by
  have e : z % 18446744073709551616 = z := Int.emod_eq_of_lt h0 (by omega)
  have h2 : ¬ (9223372036854775808 : Int) ≤ z := by omega
  simp [IntKind.wrap, IntKind.bits, IntKind.signed, e, h2]

theorem sumK {n7 n8 m m2 : Nat} (h : n7 + n8 = m + m2) (h1 : m ≤ 25) (h2 : m2 ≤ 25) :
    (IntKind.i64.wrap ((m : Int) + (m2 : Int)) = (m : Int) + (m2 : Int) ∧ wrap64 ((m : Int) + (m2 : Int)) = (m : Int) + (m2 : Int)) ∧
    (IntKind.i64.wrap ((m : Int) + (m2 : Int) - (n8 : Int)) = (m : Int) + (m2 : Int) - (n8 : Int) ∧ wrap64 ((m : Int) + (m2 : Int) - (n8 : Int)) = (m : Int) + (m2 : Int) - (n8 : Int)) ∧
    ((n7 : Int) == (m : Int) + (m2 : Int) - (n8 : Int)) = true := by
  have e : (m : Int) + (m2 : Int) - (n8 : Int) = (n7 : Int) := by omega
  rw [e]
  exact ⟨⟨wrapK (by omega) (by omega), by unfold wrap64; omega⟩, ⟨wrapK (by omega) (by omega), by unfold wrap64; omega⟩, by simp⟩

theorem term_ok' {w : World} {q : Option Addr} {n m : Nat} {L : Nat → Int} {x : Int} {m2 : Nat} {L2 : Nat → Int} {Co : Int} {Kr Ko : Nat} {Ur Uo : Nat → Int} {b : Nat} {N : Nat → ByteArray} {A : Nat → Int} {s e : Nat}
    (h : ReOk w q n m L x m2 L2 Co Kr Ko Ur Uo b N A s e) : termF n N A m L = 0 := by
  rw [term_l h.fine]
  exact lF_ok (by have := h.term.pos; have := h.term.nods.most; omega) h.term.nods.node h.term.whole

theorem re_key (q : Option Addr) (n d0 g m d : Nat) (x : Int) (g2 m2 d2 : Nat) (L L2 : Nat → Int) (w1 : World) (hS : SigV w1 (.slice q n d0)) (hL : Ints w1 g 0 m L) (hL2 : Ints w1 g2 0 m2 L2) (hm : m ≤ 25) (hm2 : m2 ≤ 25) (hd : m ≤ d) :
    ∃ (Cr Co : Int) (Kr Ko : Nat) (Ur Uo : Nat → Int),
      (∀ wc, Below w1.heap.size w1 wc → Calls Try.prog 8 #[.agg #[.slice q n d0], .slice (some ⟨g, 0, none⟩) m d, .int .i64 x, .slice (some ⟨g2, 0, none⟩) m2 d2] wc fun e w' => LstAns Cr Kr Ur e w' ∧ Below wc.heap.size wc w') ∧
      (∀ wc, Below w1.heap.size w1 wc → Calls Try.prog 10 #[.agg #[.slice q n d0], .slice (some ⟨g, 0, none⟩) m d, .int .i64 x, .slice (some ⟨g2, 0, none⟩) m2 d2] wc fun e w' => LstAns Cr Kr Ur e w' ∧ Below wc.heap.size wc w') ∧
      (∀ wc, Below w1.heap.size w1 wc → Calls Try.prog 9 #[.agg #[.slice q n d0], .slice (some ⟨g, 0, none⟩) m d, .int .i64 x] wc fun e w' => LstAns Co Ko Uo e w' ∧ Below wc.heap.size wc w') ∧
      (∀ wc, Below w1.heap.size w1 wc → Calls Try.prog 11 #[.agg #[.slice q n d0], .slice (some ⟨g, 0, none⟩) m d, .int .i64 x] wc fun e w' => LstAns Co Ko Uo e w' ∧ Below wc.heap.size wc w') ∧
      (Cr = 0 → ∃ b N A s e, ReOk w1 q n m L x m2 L2 Co Kr Ko Ur Uo b N A s e) := by
  rcases hS with h | ⟨b, n', d', N, A, h, hn7, hk, hS⟩
  · cases h
    have no : ∀ (v : Value) (K : Nat) (U : Nat → Int) (w' : World), v = .agg #[.int .i64 2, .slice none 0 0] → LstAns 2 K U (.returned v) w' := fun v K U w' hv => ⟨none, 0, 0, by rw [hv], fun h => absurd h (by decide)⟩
    refine ⟨2, 2, 0, 0, L, L, fun wc _ => (implReplaceAt_nil _ _ _ _ _ _ _ _).mono ?_, fun wc _ => (specReplaceAt_nil _ _ _ _ _ _ _ _).mono ?_, fun wc _ => (implSubtermAt_nil _ _ _ _ _).mono ?_, fun wc _ => (specSubtermAt_nil _ _ _ _ _).mono ?_, fun h => absurd h (by decide)⟩
    all_goals
      rintro e w' ⟨rfl, hb⟩
      exact ⟨no _ _ _ _ rfl, hb⟩
  · cases h
    refine ⟨reC n N A m L x m2 L2, szC n N A m L x, _, _, _, _, fun wc hb => (implReplace_any b 0 n d0 g 0 m d g2 0 m2 d2 N A L L2 x wc (hS.keep hb) (hL.keep hb) (hL2.keep hb) hk (by omega) (by omega) hd).mono fun e w' h => ⟨h.1.lst, h.2⟩,
      fun wc hb => (specReplace_any b 0 n d0 g 0 m d g2 0 m2 d2 N A L L2 x wc (hS.keep hb) (hL.keep hb) (hL2.keep hb) hk (by omega) (by omega) hd).mono fun e w' h => ⟨h.1.lst, h.2⟩,
      fun wc hb => (implSub_any b 0 n d0 g 0 m d N A L x wc (hS.keep hb) (hL.keep hb) hk (by omega) hd).mono fun e w' h => ⟨h.1.lst, h.2⟩,
      fun wc hb => (specSub_any b 0 n d0 g 0 m d N A L x wc (hS.keep hb) (hL.keep hb) hk (by omega) hd).mono fun e w' h => ⟨h.1.lst, h.2⟩, fun hC => ?_⟩
    have hz : szC n N A m L x = 0 := Classical.byContradiction fun h => by rw [re_fault h] at hC; exact h hC
    have hl : lF n A m2 L2 = 0 := Classical.byContradiction fun h => by rw [re_by hz h] at hC; exact h hC
    have ht : termF n N A m L = 0 := Classical.byContradiction fun h => by rw [(sz_fault h).1] at hz; exact h hz
    have hx : inB x m = true := by
      cases e : inB x m with
      | true => rfl
      | false => rw [(sz_range ht e).1] at hz; omega
    have hf := term_sig ht
    have h24 : ¬ 24 < x.toNat + m2 + (m - (x.toNat + manyN (aOf A L) m x.toNat)) := fun h => by rw [re_many hz hl h] at hC; omega
    obtain ⟨s, e, rfl, hs, he, hse, hem, hE⟩ := place_ok ht hx
    rw [Int.toNat_natCast, ← hE] at h24
    refine ⟨b, N, A, s, e, rfl, hk, hS, hf, term_right ht, lF_right (fault_sound hf) hl, rfl, hs, he, by omega, hz, ?_, ?_, ?_, ?_⟩
    · rw [Int.toNat_natCast, ← hE]
    · rw [Int.toNat_natCast, ← hE]
    · rw [Int.toNat_natCast]; omega
    · rw [Int.toNat_natCast]

end Go.Proofs.Ytjjpkhlbokfjpaa

/- Contracts: bytes that are now and then spoiled, for laws on bytes. -/
namespace Go.Proofs.Ytjjpkhlbokfjpaa
open Go.RowKit

/-- What the draw stands at: the source, and bytes of its own. -/
structure Db (w W : World) (s : Nat) (p : Option Addr) (nn c a g k d : Nat) : Prop where
  gen : Byt.Gen W s p nn c a
  own : ∃ l : List Int, l.length = k ∧ (∀ x ∈ l, 0 ≤ x ∧ x ≤ 255) ∧ W.ownsRow w.heap.size 5 1 (.slice (some ⟨g, 0, none⟩) k d) k (l.map (Value.int .u8))
  bel : Below w.heap.size w W
  hs : w.heap.size ≤ s
  hg : w.heap.size ≤ g
  ne : g ≠ s
  k1 : 1 ≤ k
  k2 : k ≤ 41

theorem Db.call {w W W' : World} {s nn c a a' g k d : Nat} {p : Option Addr} (h : Db w W s p nn c a g k d) (hg : Byt.Gen W' s p nn c a') (hk : W.grownBy W' (some s)) : Db w W' s p nn c a' g k d := by
  obtain ⟨l, h1, h2, ho⟩ := h.own
  exact ⟨hg, ⟨l, h1, h2, ho.kept hk (.inr (by simpa [Value.ownBlock] using h.ne))⟩, h.bel.grown hk h.bel.size (fun j e => by cases e; exact h.hs), h.hs, h.hg, h.ne, h.k1, h.k2⟩

theorem Db.put {w W : World} {s nn c a g k d : Nat} {p : Option Addr} (h : Db w W s p nn c a g k d) {i : Nat} (hi : i < k) (x : Int) (hx : 0 ≤ x ∧ x ≤ 255) :
    (∃ u0, W.cell? ⟨g, i, none⟩ = some u0) ∧ W.frozen? ⟨g, i, none⟩ = false ∧ Db w (W.setCell ⟨g, i, none⟩ (.int .u8 x)) s p nn c a g k d := by
  obtain ⟨l, h1, h2, ho⟩ := h.own
  obtain ⟨o1, g1⟩ := ho.stored i (.int .u8 x)
  have hl : (l.map (Value.int .u8)).length = k * 1 := ho.1
  refine ⟨⟨_, (ho.cellAt i (by omega)).trans (List.getElem?_eq_getElem (by omega))⟩, ho.frozenAt _, h.gen.grown (Byt.setCell_grown _ _ _ _) (fun e => h.ne e.symm), ⟨l.set i x, by simpa using h1, fun y hy => ?_, by rw [List.map_set]; exact o1⟩, h.bel.setCell h.hg _, h.hs, h.hg, h.ne, h.k1, h.k2⟩
  rcases List.mem_or_eq_of_mem_set hy with e | e
  · exact h2 y e
  · rw [e]; exact hx

theorem Byt.Gen.keep {w w' : World} {s n c a : Nat} {p : Option Addr} (h : Byt.Gen w s p n c a) (hb : Below w.heap.size w w') : Byt.Gen w' s p n c a :=
  ⟨Nat.lt_of_lt_of_le h.blk hb.size, by rw [(bcell hb).1 _ _ h.blk]; exact h.c0, by rw [(bcell hb).1 _ _ h.blk]; exact h.c1, by rw [(bcell hb).2 _ _ h.blk]; exact h.f1⟩

theorem own_base2 {w : World} {B B' e size g n c : Nat} {xs : List Value} (h : w.ownsRow B e size (.slice (some ⟨g, 0, none⟩) n c) n xs) (hB : B' ≤ g) : w.ownsRow B' e size (.slice (some ⟨g, 0, none⟩) n c) n xs := by
  refine ⟨h.1, h.2.imp id ?_⟩
  rintro ⟨g', cap, cur, h1, h2, h3, h4⟩
  have e : g' = g := by simp at h1; exact h1.1.symm
  subst e
  exact ⟨g', cap, cur, h1, hB, h3, h4⟩

theorem Db.alloc {w W : World} {s nn c a g k d : Nat} {p : Option Addr} (h : Db w W s p nn c a g k d) (o : Obj) : Db w (W.alloc o) s p nn c a g k d := by
  obtain ⟨l, h1, h2, ho⟩ := h.own
  exact ⟨h.gen.alloc o, ⟨l, h1, h2, ownsRow_later ho (alloc_below W o) (ho.lt g rfl).2⟩, keepB h.bel (alloc_below _ _), h.hs, h.hg, h.ne, h.k1, h.k2⟩

theorem Db.cap {w W : World} {s nn c a g k d : Nat} {p : Option Addr} (h : Db w W s p nn c a g k d) : k ≤ d := by
  obtain ⟨l, h1, h2, ho⟩ := h.own
  rcases ho.2 with ⟨e, _⟩ | ⟨g9, cap, cur, e, _, _, h3, h4, _⟩
  · cases e
  · simp at e; rw [e.2]; exact h3

theorem one_srcB (W : World) (v : Value) (t : TypeId) : ∀ (j : Nat) (u : Value), [v][j]? = some u → (W.alloc (.cells #[v] t)).cell? ((⟨W.heap.size, 0, none⟩ : Addr).add j) = some u := by
  intro j u hj
  match j, hj with
  | 0, hj => simp at hj; subst hj; simp [Addr.add, go_sem]

theorem oneValB (x : Int) : ∀ u ∈ [Value.int .u8 x], u.oneCell' = true := by intro u hu; simp at hu; rw [hu]; rfl

theorem Db.more {w W W' : World} {s nn c a g k d : Nat} {p : Option Addr} (h : Db w W s p nn c a g k d) {l : List Int} (h1 : l.length = k) (h2 : ∀ x ∈ l, 0 ≤ x ∧ x ≤ 255) {v' : Value} {x0 : Int} (hx0 : 0 ≤ x0 ∧ x0 ≤ 255) (hown : W'.ownsRow w.heap.size 5 1 v' (k + 1) (l.map (Value.int .u8) ++ [.int .u8 x0])) (hgr : (W.alloc (.cells #[.int .u8 x0] 5)).grownBy W' (Value.slice (some ⟨g, 0, none⟩) k d).ownBlock) (hnil : ¬ v' = .slice none 0 0) (hk : k ≤ 40) :
    ∃ g' d', v' = .slice (some ⟨g', 0, none⟩) (k + 1) d' ∧ Db w W' s p nn c a g' (k + 1) d' := by
  have hob : (Value.slice (some ⟨g, 0, none⟩) k d).ownBlock = some g := rfl
  rw [hob] at hgr
  have hsz : w.heap.size ≤ (W.alloc (.cells #[.int .u8 x0] 5)).heap.size := by have := h.bel.size; simp; omega
  have hgen : Byt.Gen W' s p nn c a := (h.gen.alloc _).grown hgr (fun e => h.ne e.symm)
  have hbel : Below w.heap.size w W' := (keepB h.bel (alloc_below _ _)).grown hgr hsz (fun j e => by cases e; exact h.hg)
  rcases hown.2 with ⟨hv, _⟩ | ⟨g', d', cur, hv, hg', _⟩
  · exact absurd hv hnil
  · subst hv
    refine ⟨g', d', rfl, hgen, ⟨l ++ [x0], by simp [h1], fun x hx => ?_, by simpa using hown⟩, hbel, h.hs, hg', fun e => ?_, by omega, by omega⟩
    · rcases List.mem_append.1 hx with hx | hx
      · exact h2 x hx
      · simp at hx; subst hx; omega
    · subst e
      have c1 := hgen.c1
      have hk1 := h.k1
      rw [hown.cellAt 1 (by omega)] at c1
      have hm := List.mem_of_getElem? c1
      rcases List.mem_append.1 hm with hm | hm
      · obtain ⟨y, _, hy⟩ := List.mem_map.1 hm
        cases hy
      · simp at hm

/-- Bytes that were drawn. -/
def DatAns (w : World) (e : Ending) (w' : World) : Prop :=
  ∃ g v d l, e = .returned (.slice (some ⟨g, 0, none⟩) v d) ∧ w.heap.size ≤ g ∧ v ≤ 42 ∧ v ≤ d ∧ d ≤ 9223372036854775807 ∧ Byt.Row w' g 0 v l ∧ Below w.heap.size w w'

theorem Db.ans {w W : World} {s nn c a g k d : Nat} {p : Option Addr} (h : Db w W s p nn c a g k d) {v : Nat} (hv : v ≤ k) : DatAns w (.returned (.slice (some ⟨g, 0, none⟩) v d)) W := by
  obtain ⟨l, h1, h2, ho⟩ := h.own
  have hc : k ≤ d ∧ d ≤ maxLen := by
    rcases ho.2 with ⟨e, _⟩ | ⟨g9, cap, cur, e, _, _, h3, h4, _⟩
    · cases e
    · simp at e; rw [e.2]; exact ⟨h3, h4⟩
  have hk2 := h.k2
  have hml := hc.2
  unfold maxLen at hml
  refine ⟨g, v, d, l.take v, rfl, h.hg, by omega, by omega, by omega, ⟨by simp; omega, by omega, fun i => ?_, (ho.lt g rfl).2, fun i hi => ?_⟩, h.bel⟩
  · rw [List.getD_eq_getElem?_getD]
    by_cases hi : i < (l.take v).length
    · rw [List.getElem?_eq_getElem hi]; exact h2 _ (List.mem_of_mem_take (List.getElem_mem hi))
    · rw [List.getElem?_eq_none (by omega)]; simp
  · rw [Nat.zero_add, ho.cellAt _ (by omega)]
    have hil : i < l.length := by omega
    simp [List.getD_eq_getElem?_getD, hi, List.getElem?_eq_getElem hil]

/-- All blocks but two lie as they lay. -/
structure Oth (s g : Nat) (w w' : World) : Prop where
  size : w.heap.size ≤ w'.heap.size
  blk : ∀ k, k < w.heap.size → k ≠ s → k ≠ g → w'.heap[k]? = w.heap[k]?

theorem Oth.refl (s g : Nat) (w : World) : Oth s g w w := ⟨Nat.le_refl _, fun _ _ _ _ => rfl⟩
theorem Oth.step {s g x : Nat} {w w1 w2 : World} (h : Oth s g w w1) (hg : w1.grownBy w2 (some x)) (hx : x = s ∨ x = g) : Oth s g w w2 :=
  ⟨Nat.le_trans h.size hg.size, fun k hk hs hg' => (hg.block k (Nat.lt_of_lt_of_le hk h.size) (fun e => by injection e with e; omega)).trans (h.blk k hk hs hg')⟩
theorem Oth.cell {s g : Nat} {w w' : World} (h : Oth s g w w') {b o : Nat} (hb : b < w.heap.size) (hs : b ≠ s) (hg : b ≠ g) : w'.cell? ⟨b, o, none⟩ = w.cell? ⟨b, o, none⟩ :=
  World.cell?_of_block (a := ⟨b, o, none⟩) (h.blk b hb hs hg)
theorem Oth.frozen {s g : Nat} {w w' : World} (h : Oth s g w w') {b o : Nat} (hb : b < w.heap.size) (hs : b ≠ s) (hg : b ≠ g) : w'.frozen? ⟨b, o, none⟩ = w.frozen? ⟨b, o, none⟩ :=
  World.frozen?_of_block (a := ⟨b, o, none⟩) (h.blk b hb hs hg)
theorem Oth.sig {s g : Nat} {w w' : World} {v : Value} (k : Oth s g w w') (h : SigV w v) (hne : ∀ g' m d, v = .slice (some ⟨g', 0, none⟩) m d → 0 < m → g' ≠ s ∧ g' ≠ g) : SigV w' v := by
  rcases h with h | ⟨g', m, d, N, A, rfl, hm, hk, hS⟩
  · exact Or.inl h
  · have h1 := hne g' m d rfl
    exact Or.inr ⟨g', m, d, N, A, rfl, hm, hk, ⟨fun h0 => Nat.lt_of_lt_of_le (hS.blk h0) k.size, fun i hi => (k.cell (hS.blk (by omega)) (h1 (by omega)).1 (h1 (by omega)).2).trans (hS.name i hi), fun i hi => (k.cell (hS.blk (by omega)) (h1 (by omega)).1 (h1 (by omega)).2).trans (hS.arity i hi), hS.big, hS.fits⟩⟩

theorem nums_ten (W : World) : Byt.Nums (W.alloc (.cells #[.int .i64 0, .int .i64 1, .int .i64 2, .int .i64 3, .int .i64 4, .int .i64 7, .int .i64 32, .int .i64 33, .int .i64 43, .int .i64 44] 2)) W.heap.size 10 [0, 1, 2, 3, 4, 7, 32, 33, 43, 44] :=
  ⟨rfl, fun i hi => by
  match i, hi with
  | 0, _ => simp [go_sem]
  | 1, _ => simp [go_sem]
  | 2, _ => simp [go_sem]
  | 3, _ => simp [go_sem]
  | 4, _ => simp [go_sem]
  | 5, _ => simp [go_sem]
  | 6, _ => simp [go_sem]
  | 7, _ => simp [go_sem]
  | 8, _ => simp [go_sem]
  | 9, _ => simp [go_sem]⟩

theorem ten_in (i : Nat) (hi : i < 10) : ∃ x : Int, [(0 : Int), 1, 2, 3, 4, 7, 32, 33, 43, 44].getD i 0 = x ∧ 0 ≤ x ∧ x ≤ 255 := by
  match i, hi with
  | 0, _ => exact ⟨0, rfl, by omega, by omega⟩
  | 1, _ => exact ⟨1, rfl, by omega, by omega⟩
  | 2, _ => exact ⟨2, rfl, by omega, by omega⟩
  | 3, _ => exact ⟨3, rfl, by omega, by omega⟩
  | 4, _ => exact ⟨4, rfl, by omega, by omega⟩
  | 5, _ => exact ⟨7, rfl, by omega, by omega⟩
  | 6, _ => exact ⟨32, rfl, by omega, by omega⟩
  | 7, _ => exact ⟨33, rfl, by omega, by omega⟩
  | 8, _ => exact ⟨43, rfl, by omega, by omega⟩
  | 9, _ => exact ⟨44, rfl, by omega, by omega⟩

set_option maxRecDepth 20000 in
set_option maxHeartbeats 3200000 in
theorem l5Spoil_any (s : Nat) (p : Option Addr) (nn c a : Nat) (l : List Int) (w0 w : World) (g k d : Nat) (hS : Db w0 w s p nn c a g k d) (h0 : Byt.Src w0 p nn l) (ha : a ≤ 2000) (hk40 : k ≤ 40) :
    Calls Try.prog 47 #[.pointer (some ⟨s, 0, none⟩), .slice (some ⟨g, 0, none⟩) k d] w fun e w' => DatAns w0 e w' ∧ Oth s g w w' := by
  have ST := hidden hS
  have KP := hidden (Oth.refl s g w)
  have H0 := hidden h0
  clear hS h0
  have hk1 := ST.out.k1
  have hcap := ST.out.cap
  go_enter Try.func47, Try.ntmps47
  go_wp2_with fail
  with_reducible refine (Byt.l1Chance_any s p nn c a l 4 w0 w ST.out.gen H0.out ST.out.bel ST.out.hs (by omega) (by omega) (by omega)).mono ?_
  rintro e w4 ⟨cv, rfl, hgn, hgr, hz⟩
  replace ST := hidden (ST.out.call hgn hgr)
  replace KP := hidden (KP.out.step hgr (Or.inl rfl))
  clear hgn hgr hz
  cases cv
  · have AN := hidden (ST.out.ans (Nat.le_refl k))
    go_wp2
    go_ret
    exact ⟨AN.out, KP.out⟩
  · have hd1 : decide ((k : Int) < 1) = false := by simp; omega
    go_wp2_with fail
    with_reducible refine (Byt.l1Next_any s p nn c (a + 1) l 3 w0 _ ST.out.gen H0.out ST.out.bel ST.out.hs (by omega) (by omega) (by omega)).mono ?_
    rintro e w5 ⟨v, rfl, hv0, hv1, hgn, hgr, hz⟩
    replace ST := hidden (ST.out.call hgn hgr)
    replace KP := hidden (KP.out.step hgr (Or.inl rfl))
    clear hgn hgr hz
    by_cases h0 : v = 0
    · subst h0
      go_wp2_with fail
      with_reducible refine (Byt.l1Next_any s p nn c (a + 1 + 1) l k w0 _ ST.out.gen H0.out ST.out.bel ST.out.hs (by omega) (by omega) (by omega)).mono ?_
      rintro e w6 ⟨vi, rfl, hi0, hi1, hgn, hgr, hz⟩
      replace ST := hidden (ST.out.call hgn hgr)
      replace KP := hidden (KP.out.step hgr (Or.inl rfl))
      clear hgn hgr hz
      obtain ⟨i, rfl⟩ := Int.eq_ofNat_of_zero_le hi0
      have hi : i < k := by omega
      have NB := hidden (show w6.heap.size ≠ s from fun e => by have := ST.out.gen.blk; omega)
      have PC := hidden (Byt.l1Pick_any s p nn c (a + 1 + 1 + 1) l w6.heap.size 10 10 [0, 1, 2, 3, 4, 7, 32, 33, 43, 44] w0 _ (ST.out.gen.alloc (.cells #[.int .i64 0, .int .i64 1, .int .i64 2, .int .i64 3, .int .i64 4, .int .i64 7, .int .i64 32, .int .i64 33, .int .i64 43, .int .i64 44] 2)) H0.out (keepB ST.out.bel (alloc_below _ _)) ST.out.hs (by omega) (nums_ten w6) NB.out (by omega) (by omega))
      go_wp2_with fail
      refine PC.out.mono ?_
      rintro e w8 ⟨j, hj, rfl, hgn, hgr, hz⟩
      have SA := hidden (ST.out.alloc (.cells #[.int .i64 0, .int .i64 1, .int .i64 2, .int .i64 3, .int .i64 4, .int .i64 7, .int .i64 32, .int .i64 33, .int .i64 43, .int .i64 44] 2))
      have SE := hidden (SA.out.call hgn hgr)
      replace KP := hidden (KP.out.step (grownBy_trans (World.grownBy_alloc _ _ (some s)) hgr) (Or.inl rfl))
      clear hgn hgr hz PC NB ST SA
      obtain ⟨x, hx, hx0, hx1⟩ := ten_in j hj
      rw [hx]
      obtain ⟨⟨u0, p0⟩, f0, S2⟩ := SE.out.put hi x ⟨hx0, hx1⟩
      have AN := hidden (S2.ans (Nat.le_refl k))
      replace KP := hidden (KP.out.step (Byt.setCell_grown _ g i (.int .u8 x)) (Or.inr rfl))
      clear S2 hx
      go_wp2
      go_ret
      exact ⟨AN.out, KP.out⟩
    · have hv' : (v == 0) = false := by simpa using h0
      by_cases h1 : v = 1
      · subst h1
        go_wp2_with fail
        with_reducible refine (Byt.l1Next_any s p nn c (a + 1 + 1) l k w0 _ ST.out.gen H0.out ST.out.bel ST.out.hs (by omega) (by omega) (by omega)).mono ?_
        rintro e w6 ⟨vi, rfl, hi0, hi1, hgn, hgr, hz⟩
        replace ST := hidden (ST.out.call hgn hgr)
        replace KP := hidden (KP.out.step hgr (Or.inl rfl))
        clear hgn hgr hz
        obtain ⟨i, rfl⟩ := Int.eq_ofNat_of_zero_le hi0
        have hi : i < k := by omega
        have i2 : (i : Int) ≤ d := by omega
        have AN := hidden (ST.out.ans (Nat.le_of_lt hi))
        go_wp2
        go_ret
        exact ⟨AN.out, KP.out⟩
      · have hv1' : (v == 1) = false := by simpa using h1
        go_wp2_with fail
        with_reducible refine (Byt.l1Next_any s p nn c (a + 1 + 1) l 5 w0 _ ST.out.gen H0.out ST.out.bel ST.out.hs (by omega) (by omega) (by omega)).mono ?_
        rintro e w6 ⟨x, rfl, hx0, hx1, hgn, hgr, hz⟩
        replace ST := hidden (ST.out.call hgn hgr)
        replace KP := hidden (KP.out.step hgr (Or.inl rfl))
        clear hgn hgr hz
        obtain ⟨l0, h1, h2, ho⟩ := ST.out.own
        have O1 := hidden ho
        have hl0 : l0.length = k := h1
        clear ho
        have W1 := hidden ST.out.bel.size
        have G1 := ST.out.hg
        have hxx : 0 ≤ x ∧ x ≤ 255 := ⟨hx0, by omega⟩
        go_wp2_with (first | (at_builtin; refine wpList_append_own _ rfl _ _ 22 rfl w0.heap.size 5 _ (.int .u8 0) 1 1 Try.underlying22 rfl rfl rfl rfl rfl (by decide) _ _ _ rfl (O1.out.alloc _) ⟨w6.heap.size, 0, none⟩ 1 1 [.int .u8 x] rfl rfl (one_srcB _ _ _) (oneValB _) (by unfold maxLen; omega) (by omega) (by have := W1.out; simp; omega) ?_) | go_in)
        intro v' wA hown hgrow hnil
        obtain ⟨g6, d6, rfl, S6⟩ := Db.more ST.out hl0 h2 hxx hown hgrow (by simpa using hnil) (by omega)
        have AN := hidden (S6.ans (Nat.le_refl _))
        replace KP := hidden (KP.out.step (grownBy_trans (World.grownBy_alloc _ _ (some g)) hgrow) (Or.inr rfl))
        clear hown hgrow hnil S6 O1 W1 G1 hl0 h1 h2
        go_wp2
        go_ret
        exact ⟨AN.out, KP.out⟩

set_option maxRecDepth 20000 in
set_option maxHeartbeats 800000 in
theorem l5Spoil_nil (s : Nat) (p : Option Addr) (nn c a : Nat) (l : List Int) (w0 w : World) (hg : Byt.Gen w s p nn c a) (h0 : Byt.Src w0 p nn l) (hb : Below w0.heap.size w0 w) (hs : w0.heap.size ≤ s) (ha : a ≤ 2000) :
    Calls Try.prog 47 #[.pointer (some ⟨s, 0, none⟩), .slice none 0 0] w fun e w' => e = .returned (.slice none 0 0) ∧ w.grownBy w' (some s) := by
  go_enter Try.func47, Try.ntmps47
  go_wp2_with fail
  with_reducible refine (Byt.l1Chance_any s p nn c a l 4 w0 w hg h0 hb hs (by omega) (by omega) (by omega)).mono ?_
  rintro e w4 ⟨cv, rfl, -, hgr, -⟩
  cases cv <;>
  · go_wp2
    go_ret
    exact ⟨rfl, hgr⟩

end Go.Proofs.Ytjjpkhlbokfjpaa

/- Contracts: a signature and a term are drawn for a law. -/
namespace Go.Proofs.Ytjjpkhlbokfjpaa
open Go.RowKit

/-- What was drawn: a signature and a list of numbers. -/
structure TwoAns (w w' : World) (q : Option Addr) (n d0 g m d : Nat) : Prop where
  few : m ≤ 25
  cap : m ≤ d
  row : ∃ L, Ints w' g 0 m L
  sig : SigV w' (.slice q n d0)
  new : w.heap.size ≤ g
  old : ∀ b, q = some b → w.heap.size ≤ b.block
  below : Below w.heap.size w w'

theorem TwoAns.box {w w1 w' : World} {q : Option Addr} {n d0 g m d : Nat} {u : Value} {o : Obj} (hb : Below w1.heap.size w1 w') (hm : m ≤ 25) (hmd : m ≤ d) (hL : ∃ L, Ints w1 g 0 m L) (hS : SigV w1 (.slice q n d0)) (hg : (w.alloc o).heap.size ≤ g) (hq : ∀ b, q = some b → (w.alloc o).heap.size ≤ b.block) (h1 : Below (w.alloc o).heap.size (w.alloc o) w1) :
    TwoAns w (w'.setCell ⟨w.heap.size, 0, none⟩ u) q n d0 g m d := by
  rw [World.size_alloc] at hg hq
  obtain ⟨L, hL⟩ := hL
  have hL := hL.keep hb
  refine ⟨hm, hmd, ⟨L, ⟨fun h0 => by have := hL.blk h0; simp; omega, fun i hi => ?_⟩⟩, (hS.keep hb).grown (s := w.heap.size) (Byt.setCell_grown _ _ _ _) (fun g' m' d' e => by cases e; have := hq _ rfl; show g' ≠ w.heap.size; simp at this; omega), by omega, fun b e => by have := hq b e; omega, (keepB (keepB (alloc_below w _) h1) hb).setCell (by simp) _⟩
  rw [World.cell?_setCell_other _ _ _ _ (by simp; try omega)]
  exact hL.cell i hi

set_option maxRecDepth 20000 in
set_option maxHeartbeats 1600000 in
theorem drawTerm_any (p : Option Addr) (nn c : Nat) (l : List Int) (w : World) (h : Byt.Src w p nn l) :
    Calls Try.prog 45 #[.slice p nn c] w fun e w' => ∃ q n d0 g m d, e = .returned (.tuple #[.agg #[.slice q n d0], .slice (some ⟨g, 0, none⟩) m d]) ∧ TwoAns w w' q n d0 g m d := by
  have R := hidden (Cel.new w (.slice none 0 0) 26)
  have H := hidden (show Byt.Src (w.alloc (.cells #[.slice none 0 0] 26)) p nn l from by
    obtain ⟨h1, h2, h3, h4⟩ := h
    refine ⟨h1, h2, h3, h4.imp id ?_⟩
    rintro ⟨b, off, e, hlt, hc⟩
    exact ⟨b, off, e, by simp; omega, fun i hi => keepCell (hc i hi) _⟩)
  clear h
  go_enter Try.func45, Try.ntmps45
  go_wp2_with fail
  with_reducible refine (l3One_any p nn c l _ H.out).mono ?_
  rintro e w1 ⟨s, q, n, d0, g, m, d, a, rfl, hA⟩
  have RC := (R.out.keep hA.below).keep (alloc_below w1 (.cells #[.slice q n d0] 26))
  have r0 := RC.c0
  have r1 := RC.f0
  have t0 := (Cel.new w1 (.slice q n d0) 26).c0
  have F := hidden (fun u => TwoAns.box (u := u) (alloc_below w1 (.cells #[.slice q n d0] 26)) hA.few hA.cap hA.row hA.sig hA.new (fun b e => (hA.old b e).1) hA.below)
  clear RC R H hA
  go_wp2
  refine bodyPost_ret (v := .tuple #[.agg #[.slice q n d0], .slice (some ⟨g, 0, none⟩) m d]) (by simp [results, Try.results45, go_sem, r0]) rfl ?_
  exact ⟨q, n, d0, g, m, d, rfl, F.out _⟩

end Go.Proofs.Ytjjpkhlbokfjpaa

/- Contracts: whether bytes begin with others, as the model and as the program asks it. -/
namespace Go.Proofs.Ytjjpkhlbokfjpaa.Byt
open Go.RowKit

set_option maxRecDepth 20000 in
set_option maxHeartbeats 400000 in
theorem bytesEqual_any (b off n c b' off' m c' : Nat) (l r : List Int) (w : World) (h : Row w b off n l) (h' : Row w b' off' m r) :
    Calls Try.prog 80 #[.slice (some ⟨b, off, none⟩) n c, .slice (some ⟨b', off', none⟩) m c'] w fun e w' => e = .returned (.bool (decide (l = r))) ∧ w' = w := by
  have k1 := run_convert_bytes_arg (P := Try.prog) w 22 5 Try.underlying22 Try.underlying5 b off n c l h.len h.cell 9 Try.underlying9
  have k2 := run_convert_bytes_arg (P := Try.prog) w 22 5 Try.underlying22 Try.underlying5 b' off' m c' r h'.len h'.cell 9 Try.underlying9
  have e : ((strOfNums l).toList == (strOfNums r).toList) = decide (l = r) := by
    rw [Lib.strOfNums_toList, Lib.strOfNums_toList, Bool.eq_iff_iff]
    simp only [beq_iff_eq, decide_eq_true_eq]
    exact ⟨bytesOf_inj l r (byt_of l h.byt) (byt_of r h'.byt), fun e => by rw [e]⟩
  go_enter Try.func80, Try.ntmps80
  go_wp2
  go_ret
  exact ⟨rfl, rfl⟩

theorem Row.take {w : World} {b off n : Nat} {l : List Int} (h : Row w b off n l) (m : Nat) (hm : m ≤ n) : Row w b off m (l.take m) :=
  ⟨by have := h.len; simp; omega, by have := h.most; omega, fun i => by rw [getD_take]; have := h.byt i; split <;> omega, h.blk, fun i hi => by rw [getD_take, if_pos hi]; exact h.cell i (by omega)⟩

set_option maxRecDepth 20000 in
set_option maxHeartbeats 400000 in
theorem hasPrefix_any (b off n c b' off' m c' : Nat) (l r : List Int) (w : World) (h : Row w b off n l) (h' : Row w b' off' m r) (hc : n ≤ c) :
    Calls Try.prog 52 #[.slice (some ⟨b, off, none⟩) n c, .slice (some ⟨b', off', none⟩) m c'] w fun e w' => e = .returned (.bool (begB l r)) ∧ w' = w := by
  have hmx := h.most
  have hmx' := h'.most
  by_cases hnm : m ≤ n
  · have hB : begB l r = decide (l.take m = r) := by
      have := h.len
      have := h'.len
      simp [begB, h.len, h'.len, hnm]
    rw [hB]
    generalize hv : decide (l.take m = r) = v
    have HV : Hid _ := hv
    clear hv hB
    have hi : (m : Int) ≤ (n : Int) := by omega
    go_enter Try.func52, Try.ntmps52
    go_wp2_with fail
    refine (bytesEqual_any _ _ _ _ _ _ _ _ _ _ _ (h.take m hnm) h').mono ?_
    rw [HV.out]
    rintro e w' ⟨rfl, rfl⟩
    go_wp2
    go_ret
    exact ⟨rfl, rfl⟩
  · rw [begB_less l r (by rw [h.len, h'.len]; omega)]
    have hd : decide ((m : Int) ≤ (n : Int)) = false := by simp; omega
    go_enter Try.func52, Try.ntmps52
    go_wp2
    go_ret
    exact ⟨rfl, rfl⟩

set_option maxRecDepth 20000 in
set_option maxHeartbeats 400000 in
theorem implBegins_any (b off n c b' off' m c' : Nat) (l r : List Int) (w : World) (h : Row w b off n l) (h' : Row w b' off' m r) (hc : n ≤ c) :
    Calls Try.prog 22 #[.slice (some ⟨b, off, none⟩) n c, .slice (some ⟨b', off', none⟩) m c'] w fun e w' => e = .returned (.bool (begB l r)) ∧ w' = w := by
  generalize hB : begB l r = B
  have HB : Hid _ := hB
  clear hB
  go_enter Try.func22, Try.ntmps22
  go_wp2_with fail
  refine (hasPrefix_any _ _ _ _ _ _ _ _ l r _ h h' hc).mono ?_
  rw [HB.out]
  rintro e w' ⟨rfl, rfl⟩
  go_wp2
  go_ret
  exact ⟨rfl, rfl⟩

end Go.Proofs.Ytjjpkhlbokfjpaa.Byt

/- Laws on packed terms: what their walks know of what was drawn; plain facts on packing and reading back. -/
namespace Go.Proofs.Ytjjpkhlbokfjpaa
open Go.RowKit

theorem packT_getD (T : Nat → Int) : ∀ m i, i < m → (packT T m).getD i 0 = bytN (T i)
  | 0, i, hi => by omega
  | m + 1, i, hi => by
    have hl := packT_len T m
    simp only [packT]
    by_cases e : i < m
    · rw [List.getD_eq_getElem?_getD, List.getElem?_append_left (by omega), ← List.getD_eq_getElem?_getD]
      exact packT_getD T m i e
    · obtain rfl : i = m := by omega
      rw [List.getD_eq_getElem?_getD, List.getElem?_append_right (by omega), hl, Nat.sub_self]
      simp

theorem node_byte {x : Int} {n : Nat} (hn : n ≤ 6) (h : nodeB x n = true) : nodV (bytN x) = x ∧ okN (bytN x) n = true := by
  have hr := node_range hn h
  unfold nodeB at h
  unfold nodV okN bytN
  by_cases hx : x < 0
  · have h1 : ¬ (31 - x < 32) := by omega
    have h2 : inB x n = false := by simp [inB]; omega
    rw [if_pos hx, if_neg h1, if_neg h1]
    rw [h2, Bool.false_or] at h
    have e : 31 - (31 - x) = x := by omega
    rw [e]; exact ⟨rfl, h⟩
  · have h1 : x + 1 < 32 := by omega
    have h2 : varB x = false := by simp [varB]; omega
    rw [if_neg hx, if_pos h1, if_pos h1]
    rw [h2, Bool.or_false] at h
    have e : x + 1 - 1 = x := by omega
    rw [e]; exact ⟨rfl, h⟩

theorem byte_node {y : Int} {n : Nat} (h : okN y n = true) : bytN (nodV y) = y := by
  unfold okN at h
  unfold nodV bytN
  by_cases hy : y < 32
  · rw [if_pos hy] at h ⊢
    have : 0 ≤ y - 1 := by simp [inB] at h; omega
    rw [if_neg (by omega)]; omega
  · rw [if_neg hy] at h ⊢
    have : 31 - y < 0 := by simp [varB] at h; omega
    rw [if_pos this]; omega

/-- A packed term is read back. -/
theorem pack_reads {n m : Nat} {A L : Nat → Int} (h : Trm n A m L) : RdP n A m (fun i => (packT L m).getD i 0) m ∧ ∀ i, i < m → nodT (fun i => (packT L m).getD i 0) i = L i := by
  have hn : ∀ i, i < m → nodT (fun i => (packT L m).getD i 0) i = L i := fun i hi => by
    show nodV ((packT L m).getD i 0) = L i
    rw [packT_getD L m i hi]; exact (node_byte h.sig.most (h.nods.node i hi)).1
  refine ⟨⟨h.pos, Nat.le_refl _, h.nods.most, fun i hi => ?_, ?_⟩, hn⟩
  · rw [packT_getD L m i hi]; exact (node_byte h.sig.most (h.nods.node i hi)).2
  · have := skip_shift (aOf A L) (aOf A (nodT (fun i => (packT L m).getD i 0))) m m m 0 0 1 m (by omega) h.whole (fun i hi => aOf_eq (hn _ (by omega))) (by omega)
    simpa using this

/-- Bytes that were read are packed again. -/
theorem read_packs {n m : Nat} {A : Nat → Int} {l : List Int} (hl : l.length = m) (h : RdP n A m (fun i => l.getD i 0) m) : packT (nodT (fun i => l.getD i 0)) m = l := by
  apply List.ext_getElem?
  intro i
  have hp := packT_len (nodT (fun i => l.getD i 0)) m
  by_cases hi : i < m
  · have h1 := packT_getD (nodT (fun i => l.getD i 0)) m i hi
    have h2 := byte_node (h.ok i hi)
    have h3 : bytN (nodT (fun i => l.getD i 0) i) = l.getD i 0 := h2
    rw [h3] at h1
    rw [List.getD_eq_getElem?_getD, List.getD_eq_getElem?_getD, List.getElem?_eq_getElem (by omega), List.getElem?_eq_getElem (by omega)] at h1
    rw [List.getElem?_eq_getElem (by omega), List.getElem?_eq_getElem (by omega)]
    simpa using h1
  · rw [List.getElem?_eq_none (by omega), List.getElem?_eq_none (by omega)]

/-- No term's bytes begin with those of another one. -/
theorem pack_apart {n m k : Nat} {A L M : Nat → Int} (h : Trm n A m L) (h' : Trm n A k M) (hb : Byt.begB (packT L m) (packT M k) = true) : m = k ∧ ∀ i, i < m → M i = L i := by
  have hb' : (packT M k).length ≤ (packT L m).length ∧ (packT L m).take (packT M k).length = packT M k := by simpa [Byt.begB] using hb
  rw [packT_len, packT_len] at hb'
  obtain ⟨hkm, ht⟩ := hb'
  have he : ∀ i, i < k → M i = L i := fun i hi => by
    have h1 := packT_getD M k i hi
    rw [← ht, List.getD_eq_getElem?_getD, List.getElem?_take, if_pos hi, ← List.getD_eq_getElem?_getD, packT_getD L m i (by omega)] at h1
    have h2 := (node_byte h.sig.most (h.nods.node i (by omega))).1
    have h3 := (node_byte h'.sig.most (h'.nods.node i hi)).1
    rw [h1] at h2
    rw [← h3, h2]
  have hs := skip_shift (aOf A M) (aOf A L) k m k 0 0 1 k (by omega) h'.whole (fun i hi => aOf_eq (by rw [Nat.zero_add]; exact (he i (by omega)).symm)) (by omega)
  have hs' : skip (aOf A L) m 0 1 = some k := by simpa using hs
  rw [h.whole] at hs'
  obtain rfl : m = k := by injection hs'
  exact ⟨rfl, he⟩

/-- What the code 0 tells of a signature and a term. -/
structure TOk (w : World) (q : Option Addr) (n m : Nat) (L : Nat → Int) (b : Nat) (N : Nat → ByteArray) (A : Nat → Int) : Prop where
  sig : q = some ⟨b, 0, none⟩
  kept : Kept n N A
  syms : Syms w b 0 n N A
  fine : faultF n N A = 0
  term : Trm n A m L

theorem TOk.code {w : World} {q : Option Addr} {n m : Nat} {L : Nat → Int} {b : Nat} {N : Nat → ByteArray} {A : Nat → Int} (h : TOk w q n m L b N A) : termF n N A m L = 0 := by
  rw [term_l h.fine]
  exact lF_ok (by have := h.term.pos; have := h.term.nods.most; omega) h.term.nods.node h.term.whole

/-- What packing answers: a code and nothing, or bytes of its own. -/
def PkAns (w : World) (C : Int) (m : Nat) (L : Nat → Int) (e : Ending) (w' : World) : Prop :=
  ∃ q v d, e = .returned (.agg #[.int .i64 C, .slice q v d]) ∧ (C ≠ 0 → q = none ∧ v = 0 ∧ d = 0) ∧ (C = 0 → ∃ g, q = some ⟨g, 0, none⟩ ∧ v = m ∧ w.heap.size ≤ g ∧ OwnR w' w.heap.size g m d ((packT L m).map (Value.int .u8)))

theorem BytAns.pk {w w' : World} {C : Int} {m : Nat} {L : Nat → Int} {e : Ending} (h : BytAns w C (packT L m) e w') : PkAns w C m L e w' := by
  rcases h with ⟨h, rfl⟩ | ⟨h, g, d, rfl, hg, ho⟩
  · exact ⟨_, _, _, rfl, fun _ => ⟨rfl, rfl, rfl⟩, fun h0 => absurd h0 h⟩
  · rw [packT_len] at ho
    exact ⟨_, _, _, by rw [h], fun h0 => absurd h h0, fun _ => ⟨g, rfl, packT_len L m, hg, ho⟩⟩

theorem pack_key (q : Option Addr) (n d0 g m d : Nat) (L : Nat → Int) (w1 : World) (hS : SigV w1 (.slice q n d0)) (hL : Ints w1 g 0 m L) (hm : m ≤ 25) :
    ∃ C : Int, (∀ wc, Below w1.heap.size w1 wc → Calls Try.prog 19 #[.agg #[.slice q n d0], .slice (some ⟨g, 0, none⟩) m d] wc fun e w' => PkAns wc C m L e w' ∧ Below wc.heap.size wc w') ∧
      (∀ wc, Below w1.heap.size w1 wc → Calls Try.prog 16 #[.agg #[.slice q n d0], .slice (some ⟨g, 0, none⟩) m d] wc fun e w' => PkAns wc C m L e w' ∧ Below wc.heap.size wc w') ∧
      (C = 0 → ∃ b N A, TOk w1 q n m L b N A) := by
  rcases hS with h | ⟨b, n', d', N, A, h, hn7, hk, hS⟩
  · cases h
    refine ⟨2, fun wc _ => (specPackTerm_nil _ _ _ _).mono ?_, fun wc _ => (implPackTerm_nil _ _ _ _).mono ?_, fun h => absurd h (by decide)⟩
    all_goals
      rintro e w' ⟨rfl, hb⟩
      exact ⟨⟨_, _, _, rfl, fun _ => ⟨rfl, rfl, rfl⟩, fun h => absurd h (by decide)⟩, hb⟩
  · cases h
    refine ⟨termF n N A m L, fun wc hb => (specPack_any b 0 n d0 g 0 m d N A L wc (hS.keep hb) (hL.keep hb) hk (by omega)).mono fun e w' h => ⟨h.1.pk, h.2⟩,
      fun wc hb => (implPack_any b 0 n d0 g 0 m d N A L wc (hS.keep hb) (hL.keep hb) hk (by omega)).mono fun e w' h => ⟨h.1.pk, h.2⟩, fun hC => ⟨b, N, A, rfl, hk, hS, term_sig hC, term_right hC⟩⟩

/-- Bytes that were drawn, or none. -/
def DatV (W : World) (q : Option Addr) (v d : Nat) : Prop := (q = none ∧ v = 0 ∧ d = 0) ∨ ∃ g l, q = some ⟨g, 0, none⟩ ∧ v ≤ 42 ∧ v ≤ d ∧ Byt.Row W g 0 v l

theorem DatV.keep {w w' : World} {q : Option Addr} {v d : Nat} (h : DatV w q v d) (hb : Below w.heap.size w w') : DatV w' q v d :=
  h.imp id fun ⟨g, l, h1, h2, h3, h4⟩ => ⟨g, l, h1, h2, h3, h4.later hb h4.blk⟩

/-- What the code 0 tells of a signature and of bytes. -/
structure UOk (w : World) (q : Option Addr) (n : Nat) (q2 : Option Addr) (v d2 : Nat) (U : Nat → Int) (b : Nat) (N : Nat → ByteArray) (A : Nat → Int) (g : Nat) (l : List Int) : Prop where
  sig : q = some ⟨b, 0, none⟩
  kept : Kept n N A
  syms : Syms w b 0 n N A
  fine : faultF n N A = 0
  dat : q2 = some ⟨g, 0, none⟩
  row : Byt.Row w g 0 v l
  cap : v ≤ d2
  few : v ≤ 42
  red : RdP n A v (fun i => l.getD i 0) v
  ans : U = nodT (fun i => l.getD i 0)

theorem unpack_key (q : Option Addr) (n d0 : Nat) (q2 : Option Addr) (v d2 : Nat) (w1 : World) (hS : SigV w1 (.slice q n d0)) (hD : DatV w1 q2 v d2) :
    ∃ (C : Int) (U : Nat → Int), (∀ wc, Below w1.heap.size w1 wc → Calls Try.prog 20 #[.agg #[.slice q n d0], .slice q2 v d2] wc fun e w' => LstAns C v U e w' ∧ Below wc.heap.size wc w') ∧
      (∀ wc, Below w1.heap.size w1 wc → Calls Try.prog 18 #[.agg #[.slice q n d0], .slice q2 v d2] wc fun e w' => LstAns C v U e w' ∧ Below wc.heap.size wc w') ∧
      (C = 0 → ∃ b N A g l, UOk w1 q n q2 v d2 U b N A g l) := by
  rcases hS with h | ⟨b, n', d', N, A, h, hn7, hk, hS⟩
  · cases h
    refine ⟨2, fun _ => 0, fun wc _ => (specUnpackTerm_nil _ _ _ _).mono ?_, fun wc _ => (implUnpackTerm_nil _ _ _ _).mono ?_, fun h => absurd h (by decide)⟩
    all_goals
      rintro e w' ⟨rfl, hb⟩
      exact ⟨⟨_, _, _, rfl, fun h => absurd h (by decide)⟩, hb⟩
  · cases h
    rcases hD with ⟨rfl, rfl, rfl⟩ | ⟨g, l, rfl, hv, hvd, hrow⟩
    · refine ⟨upC n N A 0 (fun _ => 0), nodT (fun _ => 0), fun wc hb => (specUnpack_any b 0 n d0 none 0 0 N A (fun _ => 0) wc (hS.keep hb) ⟨Or.inl rfl, fun i hi => by omega⟩ hk (by omega)).mono fun e w' h => ⟨h.1.lst, h.2⟩,
        fun wc hb => (implUnpack_none b 0 n d0 N A (fun _ => 0) wc (hS.keep hb) hk).mono fun e w' h => ⟨h.1.lst, h.2⟩, fun hC => ?_⟩
      have := (up_right hC).2.pos
      omega
    · refine ⟨upC n N A v (fun i => l.getD i 0), nodT (fun i => l.getD i 0), fun wc hb => (specUnpack_any b 0 n d0 (some ⟨g, 0, none⟩) v d2 N A _ wc (hS.keep hb) (hrow.later hb hrow.blk).byts hk (by omega)).mono fun e w' h => ⟨h.1.lst, h.2⟩,
        fun wc hb => (implUnpack_any b 0 n d0 g 0 v d2 N A _ wc (hS.keep hb) (hrow.later hb hrow.blk).byts (Nat.lt_of_lt_of_le hrow.blk hb.size) hk (by omega) hvd).mono fun e w' h => ⟨h.1.lst, h.2⟩, fun hC => ?_⟩
      have hr := up_right hC
      exact ⟨b, N, A, g, l, rfl, hk, hS, hr.1, rfl, hrow, hvd, hv, hr.2, rfl⟩

end Go.Proofs.Ytjjpkhlbokfjpaa

/- Contracts: a signature and bytes are drawn for laws on packed terms. -/
namespace Go.Proofs.Ytjjpkhlbokfjpaa
open Go.RowKit

/-- What was drawn: a signature and bytes. -/
structure UDr (w w' : World) (q : Option Addr) (n d0 : Nat) (q2 : Option Addr) (v d2 : Nat) : Prop where
  sig : SigV w' (.slice q n d0)
  dat : DatV w' q2 v d2
  below : Below w.heap.size w w'

theorem Byt.Row.set {w : World} {b off n s : Nat} {l : List Int} {u : Value} (h : Byt.Row w b off n l) (hne : b ≠ s) : Byt.Row (w.setCell ⟨s, 0, none⟩ u) b off n l :=
  ⟨h.len, h.most, h.byt, by rw [World.size_setCell]; exact h.blk, fun i hi => by rw [World.cell?_setCell_other _ _ _ _ (fun e => hne (congrArg Addr.block e).symm)]; exact h.cell i hi⟩

theorem uDr_box {w w0 V : World} {t : TypeId} {q : Option Addr} {n d0 : Nat} {q2 : Option Addr} {v d2 : Nat} {u : Value} (hw0 : w0 = w.alloc (.cells #[.slice none 0 0] t)) (hb : Below w0.heap.size w0 V) (hS : SigV V (.slice q n d0)) (hq : ∀ b, q = some b → w0.heap.size ≤ b.block)
    (hD : DatV V q2 v d2) (hq2 : ∀ b, q2 = some b → w0.heap.size ≤ b.block) : UDr w (V.setCell ⟨w.heap.size, 0, none⟩ u) q n d0 q2 v d2 := by
  subst hw0
  rw [World.size_alloc] at hq hq2
  refine ⟨hS.grown (s := w.heap.size) (Byt.setCell_grown _ _ _ _) (fun g' m' d' e => by cases e; have := hq _ rfl; simp at this; omega), ?_, (keepB (alloc_below w _) hb).setCell (by simp) _⟩
  rcases hD with h | ⟨g, l, rfl, h2, h3, h4⟩
  · exact Or.inl h
  · exact Or.inr ⟨g, l, rfl, h2, h3, h4.set (by have := hq2 _ rfl; simp at this; omega)⟩

theorem OwnR.cap {w : World} {B g n d : Nat} {xs : List Value} (h : OwnR w B g n d xs) : n ≤ d := by
  have h' : w.ownsRow B 5 1 (.slice (some ⟨g, 0, none⟩) n d) n xs := h
  rcases h'.2 with ⟨e, _⟩ | ⟨g9, cap, cur, e, _, _, h3, h4, _⟩
  · cases e
  · simp at e; rw [e.2]; exact h3

theorem DatAns.dat {w w' : World} {e : Ending} (h : DatAns w e w') : ∃ g v d, e = .returned (.slice (some ⟨g, 0, none⟩) v d) ∧ DatV w' (some ⟨g, 0, none⟩) v d ∧ w.heap.size ≤ g ∧ Below w.heap.size w w' := by
  obtain ⟨g, v, d, l, rfl, h1, h2, h3, h4, h5, h6⟩ := h
  exact ⟨g, v, d, rfl, Or.inr ⟨g, l, rfl, h2, h3, h5⟩, h1, h6⟩

set_option maxRecDepth 20000 in
set_option maxHeartbeats 6400000 in
theorem drawUnpack_any (p : Option Addr) (nn c : Nat) (l : List Int) (w : World) (h : Byt.Src w p nn l) :
    Calls Try.prog 17 #[.slice p nn c] w fun e w' => ∃ q n d0 q2 v d2, e = .returned (.tuple #[.agg #[.slice q n d0], .slice q2 v d2]) ∧ UDr w w' q n d0 q2 v d2 := by
  have H := hidden (show Byt.Src (w.alloc (.cells #[.slice none 0 0] 26)) p nn l from by
    obtain ⟨h1, h2, h3, h4⟩ := h
    refine ⟨h1, h2, h3, h4.imp id ?_⟩
    rintro ⟨b, off, e, hlt, hc⟩
    exact ⟨b, off, e, by simp; omega, fun i hi => keepCell (hc i hi) _⟩)
  have R := hidden (Cel.new w (.slice none 0 0) 26)
  clear h
  go_enter Try.func17, Try.ntmps17
  go_wp2_with fail
  with_reducible refine (l3One_any p nn c l _ H.out).mono ?_
  rintro e w1 ⟨s, q, n, d0, g, m, d, a, rfl, hA⟩
  obtain ⟨w0, hw0⟩ : ∃ w0, w0 = w.alloc (.cells #[.slice none 0 0] 26) := ⟨_, rfl⟩
  have hz0 : w0.heap.size = w.heap.size + 1 := by rw [hw0]; simp
  rw [← hw0] at hA H R
  obtain ⟨L, hL⟩ := hA.row
  have hm25 := hA.few
  have hred := hA.reads
  obtain ⟨C, c1, -, hok⟩ := pack_key q n d0 g m d L w1 hA.sig hL hm25
  have HOK := hidden hok
  have C1 := hidden c1
  have HS := hidden hA.src
  have HQ := hidden (show ∀ b, q = some b → w0.heap.size ≤ b.block ∧ b.block ≠ s from hA.old)
  have hs1 := hA.gen.blk
  obtain ⟨W2, hW2⟩ : ∃ W2, W2 = w1.alloc (.cells #[.slice q n d0] 26) := ⟨_, rfl⟩
  have BX : Below w1.heap.size w1 W2 := by rw [hW2]; exact alloc_below _ _
  have hz2 : W2.heap.size = w1.heap.size + 1 := by rw [hW2]; simp
  have T := hidden (show One W2 w1.heap.size (.slice q n d0) by rw [hW2]; exact One.new w1 _ _)
  have RC := hidden (show Cel W2 w.heap.size (.slice none 0 0) from (R.out.keep hA.below).keep BX)
  have GN := hidden (show Byt.Gen W2 s p nn c a by rw [hW2]; exact hA.gen.alloc _)
  have SG := hidden (hA.sig.keep BX)
  have BW := hidden BX
  have BA := hidden (keepB hA.below BX)
  have hb1 := hA.below.size
  have hsigb : ∀ g' m' d', Value.slice q n d0 = .slice (some ⟨g', 0, none⟩) m' d' → 0 < m' → g' < W2.heap.size := fun g' m' d' e h0 => by
    rcases SG.out with h | ⟨g9, m9, d9, N9, A9, h, _, _, hS⟩
    · rw [h] at e; cases e
    · rw [h] at e; cases e; exact hS.blk h0
  have HSB := hidden hsigb
  have f42 := fldB1
  have KC := hidden (show ∀ wc, Below W2.heap.size W2 wc → wc.cell? ⟨w1.heap.size, 0, none⟩ = some (.slice q n d0) ∧ wc.cell? ⟨w.heap.size, 0, none⟩ = some (.slice none 0 0) ∧ wc.frozen? ⟨w.heap.size, 0, none⟩ = false from fun wc hc => ⟨(T.out.keep hc).c0, (RC.out.keep hc).c0, (RC.out.keep hc).f0⟩)
  have hw1s : w.heap.size < w1.heap.size := by omega
  have hnew : w.heap.size ≠ w1.heap.size := by omega
  clear hA hL hok c1 R BX hsigb
  go_wp2_with fail
  rw [← hW2]
  have HW0 := hidden hw0
  clear hW2 hw0
  go_cut [3] (fun t wc => ∃ q2 v d2, t = .slice q2 v d2 ∧ wc.cell? ⟨w.heap.size, 0, none⟩ = some (.slice q n d0) ∧ Hid (UDr w wc q n d0 q2 v d2))
  case first =>
    have e0 := T.out.c0
    by_cases hC : C = 0
    · obtain ⟨b, N, A, hT⟩ := HOK.out hC
      have hm1 := hT.term.pos
      have hm24 := hT.term.nods.most
      have hrng := hT.term.nods.rng
      have S19 := hidden (show ∀ wc, Below W2.heap.size W2 wc → Calls Try.prog 19 #[.agg #[.slice q n d0], .slice (some ⟨g, 0, none⟩) m d] wc fun e w' => ∃ g5 d5, e = .returned (.agg #[.int .i64 0, .slice (some ⟨g5, 0, none⟩) m d5]) ∧ Hid (Db w0 w' s p nn c a g5 m d5 ∧ W2.heap.size ≤ g5 ∧ Below W2.heap.size W2 w') ∧ w'.cell? ⟨w1.heap.size, 0, none⟩ = some (.slice q n d0) ∧ w'.cell? ⟨w.heap.size, 0, none⟩ = some (.slice none 0 0) ∧ w'.frozen? ⟨w.heap.size, 0, none⟩ = false from fun wc hc => by
        refine (C1.out wc (keepB BW.out hc)).mono ?_
        rintro e w' ⟨⟨q5, v5, d5, rfl, -, h5⟩, hb'⟩
        obtain ⟨g5, rfl, rfl, hg5, ho5⟩ := h5 hC
        have hcs := hc.size
        have hbb := keepB hc hb'
        refine ⟨g5, d5, by rw [hC], hidden ⟨⟨GN.out.keep hbb, ⟨packT L v5, packT_len L v5, packT_byt v5 hrng, ho5.base (by have := HS.out; omega)⟩, keepB BA.out hbb, HS.out, by have := HS.out; omega, by have := GN.out.blk; omega, hm1, by omega⟩, by omega, hbb⟩, KC.out _ hbb⟩)
      have S47 := hidden (show ∀ wc g5 d5, Db w0 wc s p nn c a g5 m d5 ∧ W2.heap.size ≤ g5 ∧ Below W2.heap.size W2 wc → Calls Try.prog 47 #[.pointer (some ⟨s, 0, none⟩), .slice (some ⟨g5, 0, none⟩) m d5] wc fun e w' => ∃ g6 v d6, e = .returned (.slice (some ⟨g6, 0, none⟩) v d6) ∧ Hid (w0.heap.size ≤ g6) ∧ Hid (SigV w' (.slice q n d0) ∧ DatV w' (some ⟨g6, 0, none⟩) v d6 ∧ Below w0.heap.size w0 w') ∧ w'.cell? ⟨w1.heap.size, 0, none⟩ = some (.slice q n d0) ∧ w'.cell? ⟨w.heap.size, 0, none⟩ = some (.slice none 0 0) ∧ w'.frozen? ⟨w.heap.size, 0, none⟩ = false from fun wc g5 d5 hd => by
        obtain ⟨hdb, hg5, hc⟩ := hd
        refine (l5Spoil_any s p nn c a l w0 wc g5 m d5 hdb H.out (by omega) (by omega)).mono ?_
        rintro e w' ⟨ha, hO⟩
        obtain ⟨g6, v, d6, rfl, h1, h2, h3⟩ := ha.dat
        have hcs := hc.size
        obtain ⟨x1, x2, x3⟩ := KC.out wc hc
        refine ⟨g6, v, d6, rfl, hidden h2, hidden ⟨hO.sig (SG.out.keep hc) (fun g' m' d' e h0 => ⟨?_, by have := HSB.out g' m' d' e h0; omega⟩), h1, h3⟩, (hO.cell (by omega) (by omega) (by omega)).trans x1, (hO.cell (by omega) (by have := HS.out; omega) (by omega)).trans x2, (hO.frozen (by omega) (by have := HS.out; omega) (by omega)).trans x3⟩
        cases e
        exact (HQ.out _ rfl).2)
      clear C1 HOK
      go_region_held3 (fun wz => wz.cell? ⟨w1.heap.size, 0, none⟩ = some (.slice q n d0)) (first | assumption | (rw [World.cell?_setCell_far _ _ _ _ hnew]; assumption) | go_keep) (first
        | (go_at_call 19; with_reducible refine (S19.out _ ?_).mono ?_; exact (Below.refl _ _).drew; rintro e v5 ⟨g5, d5, rfl, hd5, x51, x52, x53⟩)
        | (go_at_call 47; with_reducible refine (S47.out _ _ _ hd5.out).mono ?_; rintro e v6 ⟨g6, v, d6, rfl, hg6, hf6, x61, x62, x63⟩))
      all_goals (go_wp2_with fail; go_meet)
      all_goals exact ⟨_, _, _, rfl, World.cell?_setCell_same' _ _ _ (by rw [x62]; rfl), hidden (uDr_box HW0.out hf6.out.2.2 hf6.out.1 (fun b e => (HQ.out b e).1) hf6.out.2.1 (fun b e => by cases e; exact hg6.out))⟩
    · have S19 := hidden (show ∀ wc, Below W2.heap.size W2 wc → Calls Try.prog 19 #[.agg #[.slice q n d0], .slice (some ⟨g, 0, none⟩) m d] wc fun e w' => e = .returned (.agg #[.int .i64 C, .slice none 0 0]) ∧ Hid (Below W2.heap.size W2 w') ∧ w'.cell? ⟨w1.heap.size, 0, none⟩ = some (.slice q n d0) ∧ w'.cell? ⟨w.heap.size, 0, none⟩ = some (.slice none 0 0) ∧ w'.frozen? ⟨w.heap.size, 0, none⟩ = false from fun wc hc => by
        refine (C1.out wc (keepB BW.out hc)).mono ?_
        rintro e w' ⟨⟨q5, v5, d5, rfl, h5, -⟩, hb'⟩
        obtain ⟨rfl, rfl, rfl⟩ := h5 hC
        have hbb := keepB hc hb'
        exact ⟨rfl, hidden hbb, KC.out _ hbb⟩)
      have S47 := hidden (show ∀ wc, Below W2.heap.size W2 wc → Calls Try.prog 47 #[.pointer (some ⟨s, 0, none⟩), .slice none 0 0] wc fun e w' => e = .returned (.slice none 0 0) ∧ Hid (SigV w' (.slice q n d0) ∧ DatV w' none 0 0 ∧ Below w0.heap.size w0 w') ∧ w'.cell? ⟨w1.heap.size, 0, none⟩ = some (.slice q n d0) ∧ w'.cell? ⟨w.heap.size, 0, none⟩ = some (.slice none 0 0) ∧ w'.frozen? ⟨w.heap.size, 0, none⟩ = false from fun wc hc => by
        refine (l5Spoil_nil s p nn c a l w0 wc (GN.out.keep hc) H.out (keepB BA.out hc) HS.out (by omega)).mono ?_
        rintro e w' ⟨rfl, hgr⟩
        have hcs := hc.size
        obtain ⟨x1, x2, x3⟩ := KC.out wc hc
        have hO := (Oth.refl s s wc).step hgr (Or.inl rfl)
        have hbs := BA.out.size
        refine ⟨rfl, hidden ⟨hO.sig (SG.out.keep hc) (fun g' m' d' e h0 => ⟨?_, ?_⟩), Or.inl ⟨rfl, rfl, rfl⟩, (keepB BA.out hc).grown hgr (by omega) (fun k e => by cases e; exact HS.out)⟩, (hO.cell (by omega) (by omega) (by omega)).trans x1, (hO.cell (by omega) (by have := HS.out; omega) (by have := HS.out; omega)).trans x2, (hO.frozen (by omega) (by have := HS.out; omega) (by have := HS.out; omega)).trans x3⟩
        all_goals
          cases e
          exact (HQ.out _ rfl).2)
      clear C1 HOK
      go_region_held3 (fun wz => wz.cell? ⟨w1.heap.size, 0, none⟩ = some (.slice q n d0)) (first | assumption | (rw [World.cell?_setCell_far _ _ _ _ hnew]; assumption) | go_keep) (first
        | (go_at_call 19; with_reducible refine (S19.out _ ?_).mono ?_; exact (Below.refl _ _).drew; rintro e v5 ⟨rfl, hd5, x51, x52, x53⟩)
        | (go_at_call 47; with_reducible refine (S47.out _ hd5.out).mono ?_; rintro e v6 ⟨rfl, hf6, x61, x62, x63⟩))
      all_goals (go_wp2_with fail; go_meet)
      all_goals exact ⟨_, _, _, rfl, World.cell?_setCell_same' _ _ _ (by rw [x62]; rfl), hidden (uDr_box HW0.out hf6.out.2.2 hf6.out.1 (fun b e => (HQ.out b e).1) hf6.out.2.1 (fun b e => by cases e))⟩
  case rest =>
    rename World => w9
    obtain ⟨q2, v, d2, rfl, r0, hu⟩ := hcut
    clear HOK C1 KC T RC GN SG BW BA HQ HS HSB
    go_wp2
    refine bodyPost_ret (v := .tuple #[.agg #[.slice q n d0], .slice q2 v d2]) (by simp [results, Try.results17, go_sem, r0]) rfl ?_
    exact ⟨q, n, d0, q2, v, d2, rfl, hu.out⟩

end Go.Proofs.Ytjjpkhlbokfjpaa

/- Contracts for law FnPacks: a term is drawn; bytes with one byte ahead; bytes compared. -/
namespace Go.Proofs.Ytjjpkhlbokfjpaa
open Go.RowKit

set_option maxRecDepth 20000 in
set_option maxHeartbeats 1600000 in
theorem drawPack_any (p : Option Addr) (nn c : Nat) (l : List Int) (w : World) (h : Byt.Src w p nn l) :
    Calls Try.prog 15 #[.slice p nn c] w fun e w' => ∃ q n d0 g m d, e = .returned (.tuple #[.agg #[.slice q n d0], .slice (some ⟨g, 0, none⟩) m d]) ∧ TwoAns w w' q n d0 g m d := by
  have R := hidden (Cel.new w (.slice none 0 0) 26)
  have H := hidden (show Byt.Src (w.alloc (.cells #[.slice none 0 0] 26)) p nn l from by
    obtain ⟨h1, h2, h3, h4⟩ := h
    refine ⟨h1, h2, h3, h4.imp id ?_⟩
    rintro ⟨b, off, e, hlt, hc⟩
    exact ⟨b, off, e, by simp; omega, fun i hi => keepCell (hc i hi) _⟩)
  clear h
  go_enter Try.func15, Try.ntmps15
  go_wp2_with fail
  with_reducible refine (drawTerm_any p nn c l _ H.out).mono ?_
  rintro e w1 ⟨q, n, d0, g, m, d, rfl, hA⟩
  have RC := R.out.keep hA.below
  have r0 := RC.c0
  have r1 := RC.f0
  have F := hidden (fun u => TwoAns.box (u := u) (Below.refl w1.heap.size w1) hA.few hA.cap hA.row hA.sig hA.new hA.old hA.below)
  clear RC R H hA
  go_wp2
  refine bodyPost_ret (v := .tuple #[.agg #[.slice q n d0], .slice (some ⟨g, 0, none⟩) m d]) (by simp [results, Try.results15, go_sem, r0]) rfl ?_
  exact ⟨q, n, d0, g, m, d, rfl, F.out _⟩

theorem byt_cons {x : Int} {l : List Int} (hx : 0 ≤ x ∧ x ≤ 255) (h : ∀ i, 0 ≤ l.getD i 0 ∧ l.getD i 0 ≤ 255) : ∀ i, 0 ≤ (x :: l).getD i 0 ∧ (x :: l).getD i 0 ≤ 255
  | 0 => by simpa using hx
  | i + 1 => by simpa using h i

/-- Bytes with one byte ahead. -/
theorem src_cons {w : World} {B g n d : Nat} {x : Int} {l : List Int} (h : w.ownsRow B 5 1 (.slice (some ⟨g, 0, none⟩) (n + 1) d) (n + 1) ((x :: l).map (Value.int .u8))) (hx : 0 ≤ x ∧ x ≤ 255) (hl : ∀ i, 0 ≤ l.getD i 0 ∧ l.getD i 0 ≤ 255) (hn : n ≤ 1048576) (hlen : l.length = n) :
    Byt.Src w (some ⟨g, 0, none⟩) (n + 1) (x :: l) := by
  refine ⟨by simp [hlen], by omega, byt_cons hx hl, Or.inr ⟨g, 0, rfl, (h.lt g rfl).2, fun i hi => ?_⟩⟩
  rw [Nat.zero_add, h.cellAt _ (by omega)]
  have hi' : i < (x :: l).length := by simp [hlen]; omega
  rw [List.getElem?_map, List.getElem?_eq_getElem hi', List.getD_eq_getElem?_getD, List.getElem?_eq_getElem hi']
  rfl

theorem srcCells {w : World} {a : Addr} {n : Nat} {l : List Int} (h : Byt.Src w (some a) n l) : ∀ j u, (l.map (Value.int .u8))[j]? = some u → w.cell? (a.add j) = some u := by
  intro j u hj
  obtain ⟨hl, _, _, hz⟩ := h
  have hjl : j < l.length := by have := (List.getElem?_eq_some_iff.1 hj).1; rwa [List.length_map] at this
  rcases hz with h0 | ⟨b, off, e, _, hc⟩
  · omega
  · cases e
    have e : (⟨b, off, none⟩ : Addr).add j = ⟨b, off + j, none⟩ := by unfold Addr.add; split <;> simp_all
    rw [e, hc j (by omega), ← hj]
    simp [List.getD_eq_getElem?_getD, List.getElem?_eq_getElem hjl]

theorem lwBytes_same (b off n c b' off' c' : Nat) (l : List Int) (w : World) (h : Byt.Row w b off n l) (h' : Byt.Row w b' off' n l) :
    Calls Try.prog 21 #[.slice (some ⟨b, off, none⟩) n c, .slice (some ⟨b', off', none⟩) n c'] w fun e w' => e = .returned (.bool true) ∧ Below w.heap.size w w' := by
  have k1 := run_convert_bytes_arg (P := Try.prog) w 22 5 Try.underlying22 Try.underlying5 b off n c l h.len h.cell 9 Try.underlying9
  have k2 := run_convert_bytes_arg (P := Try.prog) w 22 5 Try.underlying22 Try.underlying5 b' off' n c' l h'.len h'.cell 9 Try.underlying9
  go_enter Try.func21, Try.ntmps21
  go_wp2
  go_ret
  exact ⟨by simp, Below.refl _ _⟩

/-- Bytes that a term was packed into. -/
def PkOk (W : World) (q : Option Addr) (v d m : Nat) (L : Nat → Int) : Prop := ∃ g, q = some ⟨g, 0, none⟩ ∧ v = m ∧ m ≤ d ∧ Byt.Row W g 0 m (packT L m)

theorem PkOk.keep {w w' : World} {q : Option Addr} {v d m : Nat} {L : Nat → Int} (h : PkOk w q v d m L) (hb : Below w.heap.size w w') : PkOk w' q v d m L := by
  obtain ⟨g, h1, h2, h3, h4⟩ := h
  exact ⟨g, h1, h2, h3, h4.later hb h4.blk⟩

theorem PkAns.ok {w w' : World} {C : Int} {m : Nat} {L : Nat → Int} {e : Ending} (h : PkAns w C m L e w') (hr : C = 0 → m ≤ 24 ∧ ∀ i, i < m → -12 ≤ L i ∧ L i ≤ 5) :
    ∃ q v d, e = .returned (.agg #[.int .i64 C, .slice q v d]) ∧ (C = 0 → PkOk w' q v d m L) := by
  obtain ⟨q, v, d, h1, -, h3⟩ := h
  refine ⟨q, v, d, h1, fun h0 => ?_⟩
  obtain ⟨g, h4, h5, h6, h7⟩ := h3 h0
  exact ⟨g, h4, h5, h7.cap, h7.row (by have := (hr h0).1; omega) (packT_byt m (hr h0).2)⟩

theorem TOk.range {w : World} {q : Option Addr} {n m : Nat} {L : Nat → Int} {b : Nat} {N : Nat → ByteArray} {A : Nat → Int} (h : TOk w q n m L b N A) : m ≤ 24 ∧ ∀ i, i < m → -12 ≤ L i ∧ L i ≤ 5 := ⟨h.term.nods.most, h.term.nods.rng⟩

theorem pack_key2 (q : Option Addr) (n d0 g m d g2 m2 d2 : Nat) (L L2 : Nat → Int) (w1 : World) (hS : SigV w1 (.slice q n d0)) (hL : Ints w1 g 0 m L) (hL2 : Ints w1 g2 0 m2 L2) (hm : m ≤ 25) (hm2 : m2 ≤ 25) :
    ∃ C C2 : Int, (∀ wc, Below w1.heap.size w1 wc → Calls Try.prog 19 #[.agg #[.slice q n d0], .slice (some ⟨g, 0, none⟩) m d] wc fun e w' => PkAns wc C m L e w' ∧ Below wc.heap.size wc w') ∧
      (∀ wc, Below w1.heap.size w1 wc → Calls Try.prog 16 #[.agg #[.slice q n d0], .slice (some ⟨g, 0, none⟩) m d] wc fun e w' => PkAns wc C m L e w' ∧ Below wc.heap.size wc w') ∧
      (∀ wc, Below w1.heap.size w1 wc → Calls Try.prog 19 #[.agg #[.slice q n d0], .slice (some ⟨g2, 0, none⟩) m2 d2] wc fun e w' => PkAns wc C2 m2 L2 e w' ∧ Below wc.heap.size wc w') ∧
      (∀ wc, Below w1.heap.size w1 wc → Calls Try.prog 16 #[.agg #[.slice q n d0], .slice (some ⟨g2, 0, none⟩) m2 d2] wc fun e w' => PkAns wc C2 m2 L2 e w' ∧ Below wc.heap.size wc w') ∧
      (C = 0 → ∃ b N A, TOk w1 q n m L b N A ∧ (C2 = 0 → Trm n A m2 L2)) ∧ (C2 = 0 → m2 ≤ 24 ∧ ∀ i, i < m2 → -12 ≤ L2 i ∧ L2 i ≤ 5) := by
  rcases hS with h | ⟨b, n', d', N, A, h, hn7, hk, hS⟩
  · cases h
    refine ⟨2, 2, fun wc _ => (specPackTerm_nil _ _ _ _).mono ?_, fun wc _ => (implPackTerm_nil _ _ _ _).mono ?_, fun wc _ => (specPackTerm_nil _ _ _ _).mono ?_, fun wc _ => (implPackTerm_nil _ _ _ _).mono ?_, fun h => absurd h (by decide), fun h => absurd h (by decide)⟩
    all_goals
      rintro e w' ⟨rfl, hb⟩
      exact ⟨⟨_, _, _, rfl, fun _ => ⟨rfl, rfl, rfl⟩, fun h => absurd h (by decide)⟩, hb⟩
  · cases h
    exact ⟨termF n N A m L, termF n N A m2 L2, fun wc hb => (specPack_any b 0 n d0 g 0 m d N A L wc (hS.keep hb) (hL.keep hb) hk (by omega)).mono fun e w' h => ⟨h.1.pk, h.2⟩,
      fun wc hb => (implPack_any b 0 n d0 g 0 m d N A L wc (hS.keep hb) (hL.keep hb) hk (by omega)).mono fun e w' h => ⟨h.1.pk, h.2⟩,
      fun wc hb => (specPack_any b 0 n d0 g2 0 m2 d2 N A L2 wc (hS.keep hb) (hL2.keep hb) hk (by omega)).mono fun e w' h => ⟨h.1.pk, h.2⟩,
      fun wc hb => (implPack_any b 0 n d0 g2 0 m2 d2 N A L2 wc (hS.keep hb) (hL2.keep hb) hk (by omega)).mono fun e w' h => ⟨h.1.pk, h.2⟩, fun hC => ⟨b, N, A, ⟨rfl, hk, hS, term_sig hC, term_right hC⟩, fun h2 => term_right h2⟩, fun h2 => ⟨(term_right h2).nods.most, (term_right h2).nods.rng⟩⟩

/-- A term that was read has no fault. -/
theorem UOk.term {w : World} {q : Option Addr} {n : Nat} {q2 : Option Addr} {v d2 : Nat} {U : Nat → Int} {b : Nat} {N : Nat → ByteArray} {A : Nat → Int} {g : Nat} {l : List Int} (h : UOk w q n q2 v d2 U b N A g l) : termF n N A v U = 0 := by
  rw [term_l h.fine, h.ans]
  exact lF_ok (by have := h.red.pos; have := h.red.most; omega) (fun i hi => okN_node (h.red.ok i hi)) h.red.whole

end Go.Proofs.Ytjjpkhlbokfjpaa
