/- Contracts: a term with another one at a place: ReplaceAt, as the model and as the program makes it. -/
import Derived.Test.YtjahldlcbgdllaaRepl
namespace Go.Proofs.Ytjahldlcbgdllaa
open Go.RowKit

/-- The code of ReplaceAt: the fault of the term or the place, that of the other term, or too many nodes. -/
noncomputable def reC (n : Nat) (N : Nat → ByteArray) (A : Nat → Int) (m : Nat) (T : Nat → Int) (x : Int) (k : Nat) (M : Nat → Int) : Int :=
  if szC n N A m T x = 0 then (if lF n A k M = 0 then (if 24 < x.toNat + k + (m - (x.toNat + manyN (aOf A T) m x.toNat)) then 2 else 0) else lF n A k M) else szC n N A m T x

section
variable {n : Nat} {N : Nat → ByteArray} {A : Nat → Int} {m : Nat} {T : Nat → Int} {x : Int} {k : Nat} {M : Nat → Int}
theorem re_fault (h : szC n N A m T x ≠ 0) : reC n N A m T x k M = szC n N A m T x := by rw [reC, if_neg h]
theorem re_by (h : szC n N A m T x = 0) (hl : lF n A k M ≠ 0) : reC n N A m T x k M = lF n A k M := by rw [reC, if_pos h, if_neg hl]
theorem re_many (h : szC n N A m T x = 0) (hl : lF n A k M = 0) (ht : 24 < x.toNat + k + (m - (x.toNat + manyN (aOf A T) m x.toNat))) : reC n N A m T x k M = 2 := by rw [reC, if_pos h, if_pos hl, if_pos ht]
theorem re_ok (h : szC n N A m T x = 0) (hl : lF n A k M = 0) (ht : ¬ 24 < x.toNat + k + (m - (x.toNat + manyN (aOf A T) m x.toNat))) : reC n N A m T x k M = 0 := by rw [reC, if_pos h, if_pos hl, if_neg ht]

theorem term_sig (h : termF n N A m T = 0) : faultF n N A = 0 := by
  refine Classical.byContradiction fun hf => ?_
  rw [term_fault hf] at h; exact hf h
end

set_option maxRecDepth 20000 in
set_option maxHeartbeats 3200000 in
theorem specReplace_any (b off n c b' off' m c' b3 off3 k c3 : Nat) (N : Nat → ByteArray) (A T M : Nat → Int) (x : Int) (w : World) (h : Syms w b off n N A) (h' : Ints w b' off' m T) (h3 : Ints w b3 off3 k M) (hk : Kept n N A) (hm : m ≤ 1048576) (hm3 : k ≤ 1048576) (hc : m ≤ c') :
    Calls Try.prog 33 #[.agg #[.slice (some ⟨b, off, none⟩) n c], .slice (some ⟨b', off', none⟩) m c', .int .i64 x, .slice (some ⟨b3, off3, none⟩) k c3] w fun e w' => ListAns w (reC n N A m T x k M) (x.toNat + k + (m - (x.toNat + manyN (aOf A T) m x.toNat))) (catU x.toNat k (x.toNat + manyN (aOf A T) m x.toNat) T M) e w' ∧ Below w.heap.size w w' := by
  have D := hidden ((One.new w (.slice (some ⟨b, off, none⟩) n c) 30).keep (alloc_below _ (.cells #[.int .i64 0, .slice none 0 0] 44)))
  have R := hidden (Res.new (w.alloc (.cells #[.slice (some ⟨b, off, none⟩) n c] 30)) (.int .i64 0) (.slice none 0 0) 44)
  have B := hidden (keepB (alloc_below w (.cells #[.slice (some ⟨b, off, none⟩) n c] 30)) (alloc_below _ (.cells #[.int .i64 0, .slice none 0 0] 44)))
  have Q := hidden (h.keep B.out)
  have I := hidden (h'.keep B.out)
  have I3 := hidden (h3.keep B.out)
  have HK := hidden hk
  rw [World.size_alloc] at R
  clear h h' h3 hk
  go_enter Try.func33, Try.ntmps33
  go_wp2_with fail
  with_reducible refine (specTerm_any _ _ _ _ _ _ _ _ N A T _ Q.out I.out HK.out hm).mono ?_
  rintro e w1 ⟨rfl, hb⟩
  replace D := hidden (D.out.keep hb)
  replace R := hidden (R.out.keep hb)
  replace B := hidden (keepB B.out hb)
  replace I := hidden (I.out.keep hb)
  replace I3 := hidden (I3.out.keep hb)
  replace Q := hidden (Q.out.keep hb)
  clear hb
  by_cases hf : termF n N A m T = 0
  · have HF := hidden hf
    rw [hf]
    clear hf
    go_wp2_with fail
    with_reducible refine (l3Place_any _ _ _ _ _ hm).mono ?_
    rintro e w2 ⟨rfl, hb⟩
    replace D := hidden (D.out.keep hb)
    replace R := hidden (R.out.keep hb)
    replace B := hidden (keepB B.out hb)
    replace I := hidden (I.out.keep hb)
    replace I3 := hidden (I3.out.keep hb)
    replace Q := hidden (Q.out.keep hb)
    clear hb
    generalize hx : inB x m = ib
    cases ib
    · have HN := hidden (sub_range HF.out hx)
      have HA := hidden ((re_fault (k := k) (M := M) HN.out).trans (sz_range HF.out hx).1)
      clear hx
      obtain ⟨_, q0, q1, f0, f1⟩ := id R.out
      go_wp2
      exact bodyPost_ret (v := .agg #[.int .i64 3, .slice none 0 0]) (by simp [results, Try.results33, go_sem, q0, q1]) rfl ⟨Or.inl ⟨by rw [HA.out]; decide, by rw [HA.out]⟩, (B.out.setCell (by simp) _).setCell (by simp) _⟩
    · have HZ := hidden (sz_ok HF.out hx).1
      have HX := hidden hx
      clear hx
      go_wp2_with fail
      with_reducible refine (l3Fault_all _ _ _ _ _ _ _ _ _ N A M _ D.out Q.out I3.out (term_right HF.out).sig hm3).mono ?_
      rintro e w3 ⟨rfl, hb⟩
      replace D := hidden (D.out.keep hb)
      replace R := hidden (R.out.keep hb)
      replace B := hidden (keepB B.out hb)
      replace I := hidden (I.out.keep hb)
      replace I3 := hidden (I3.out.keep hb)
      replace Q := hidden (Q.out.keep hb)
      clear hb
      by_cases hl : lF n A k M = 0
      · have HL := hidden hl
        obtain ⟨q, e, rfl, hq, hs, hqe, hem, hE⟩ := place_ok HF.out HX.out
        have hk24 := (lF_right (term_right HF.out).sig hl).nods.most
        have hk1 := (lF_right (term_right HF.out).sig hl).pos
        have HS := hidden hs
        have HE := hidden hE
        rw [hl]
        clear hl hs hE
        go_wp2_with fail
        with_reducible refine (l3Replace_any _ _ _ _ _ _ _ _ _ _ _ _ _ _ _ N A T M _ D.out Q.out I.out I3.out (term_right HF.out).nods hq hc ⟨by omega, hk24⟩ HS.out).mono ?_
        rintro r w4 ⟨g, d, rfl, hgg, ho, hb⟩
        have O := hidden ho
        have hR := R.out.blk
        have hBs := B.out.size
        replace R := hidden (R.out.keep hb)
        replace B := hidden (keepB B.out hb)
        clear hb D I I3 Q ho
        obtain ⟨_, q0, q1, f0, f1⟩ := id R.out
        by_cases ht : 24 < q + k + (m - e)
        · have HA := hidden (re_many HZ.out HL.out (by rw [Int.toNat_natCast, ← HE.out]; exact ht))
          generalize q + k + (m - e) = tot at *
          have ht' : (24 : Int) < tot := by omega
          go_wp2
          exact bodyPost_ret (v := .agg #[.int .i64 2, .slice none 0 0]) (by simp [results, Try.results33, go_sem, q0, q1]) rfl ⟨Or.inl ⟨by rw [HA.out]; decide, by rw [HA.out]⟩, (B.out.setCell (by simp) _).setCell (by simp) _⟩
        · have HA := hidden (re_ok HZ.out HL.out (by rw [Int.toNat_natCast, ← HE.out]; exact ht))
          generalize hto : q + k + (m - e) = tot at *
          have HTO := hidden hto
          have ht' : ¬ (24 : Int) < tot := by omega
          clear hto
          go_wp2
          exact bodyPost_ret (v := .agg #[.int .i64 0, .slice (some ⟨g, 0, none⟩) tot d]) (by simp [results, Try.results33, go_sem, q0, q1]) rfl ⟨Or.inr ⟨HA.out, g, d, by rw [Int.toNat_natCast, ← HE.out, HTO.out], by omega, by
            rw [Int.toNat_natCast, ← HE.out, HTO.out]; exact ((O.out.other _ _ (by simp; omega)).other _ _ (by simp; omega)).base (by omega)⟩, (B.out.setCell (by simp) _).setCell (by simp) _⟩
      · have HA := hidden (re_by HZ.out hl)
        have HN := hidden hl
        have hl' : (lF n A k M != 0) = true := by simpa using hl
        generalize lF n A k M = z at *
        clear hl
        obtain ⟨_, q0, q1, f0, f1⟩ := id R.out
        go_wp2
        exact bodyPost_ret (v := .agg #[.int .i64 z, .slice none 0 0]) (by simp [results, Try.results33, go_sem, q0, q1]) rfl ⟨Or.inl ⟨by rw [HA.out]; exact HN.out, by rw [HA.out]⟩, (B.out.setCell (by simp) _).setCell (by simp) _⟩
  · have HN := hidden (sub_fault (x := x) hf)
    have HA := hidden ((re_fault (k := k) (M := M) HN.out).trans (sz_fault hf).1)
    have HF := hidden hf
    have hf' : (termF n N A m T != 0) = true := by simpa using hf
    generalize termF n N A m T = z at *
    clear hf
    obtain ⟨_, q0, q1, f0, f1⟩ := id R.out
    go_wp2
    exact bodyPost_ret (v := .agg #[.int .i64 z, .slice none 0 0]) (by simp [results, Try.results33, go_sem, q0, q1]) rfl ⟨Or.inl ⟨by rw [HA.out]; exact HF.out, by rw [HA.out]⟩, (B.out.setCell (by simp) _).setCell (by simp) _⟩

end Go.Proofs.Ytjahldlcbgdllaa
