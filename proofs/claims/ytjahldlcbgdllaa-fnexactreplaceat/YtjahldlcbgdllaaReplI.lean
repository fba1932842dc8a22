/- Contract: a term with another one at a place: ReplaceAt, as the program makes it. -/
import Derived.Test.YtjahldlcbgdllaaReplS
namespace Go.Proofs.Ytjahldlcbgdllaa
open Go.RowKit

set_option maxRecDepth 20000 in
set_option maxHeartbeats 6400000 in
theorem implReplace_any (b off n c b' off' m c' b3 off3 k c3 : Nat) (N : Nat → ByteArray) (A T M : Nat → Int) (x : Int) (w : World) (h : Syms w b off n N A) (h' : Ints w b' off' m T) (h3 : Ints w b3 off3 k M) (hk : Kept n N A) (hm : m ≤ 1048576) (hm3 : k ≤ 1048576) (hc : m ≤ c') :
    Calls Try.prog 34 #[.agg #[.slice (some ⟨b, off, none⟩) n c], .slice (some ⟨b', off', none⟩) m c', .int .i64 x, .slice (some ⟨b3, off3, none⟩) k c3] w fun e w' => ListAns w (reC n N A m T x k M) (x.toNat + k + (m - (x.toNat + manyN (aOf A T) m x.toNat))) (catU x.toNat k (x.toNat + manyN (aOf A T) m x.toNat) T M) e w' ∧ Below w.heap.size w w' := by
  have D := hidden ((One.new w (.slice (some ⟨b, off, none⟩) n c) 30).keep (alloc_below _ (.cells #[.int .i64 0, .slice none 0 0] 44)))
  have R := hidden (Res.new (w.alloc (.cells #[.slice (some ⟨b, off, none⟩) n c] 30)) (.int .i64 0) (.slice none 0 0) 44)
  have B := hidden (keepB (alloc_below w (.cells #[.slice (some ⟨b, off, none⟩) n c] 30)) (alloc_below _ (.cells #[.int .i64 0, .slice none 0 0] 44)))
  have Q := hidden (h.keep B.out)
  have I := hidden (h'.keep B.out)
  have I3 := hidden (h3.keep B.out)
  have HK := hidden hk
  rw [World.size_alloc] at R
  clear h h' h3 hk
  go_enter Try.func34, Try.ntmps34
  go_wp2_with fail
  with_reducible refine (placeFault_any _ _ _ _ _ _ _ _ N A T x _ Q.out I.out HK.out hm).mono ?_
  rintro e w1 ⟨rfl, hb⟩
  replace D := hidden (D.out.keep hb)
  replace R := hidden (R.out.keep hb)
  replace B := hidden (keepB B.out hb)
  replace I := hidden (I.out.keep hb)
  replace I3 := hidden (I3.out.keep hb)
  replace Q := hidden (Q.out.keep hb)
  clear hb
  by_cases hz : szC n N A m T x = 0
  · have HZ := hidden hz
    have HF := hidden (show termF n N A m T = 0 from Classical.byContradiction fun hf => sub_fault hf hz)
    have HX := hidden (show inB x m = true from by
      cases hb : inB x m
      · exact absurd hz (sub_range HF.out hb)
      · rfl)
    have d0 := D.out.c0
    rw [hz]
    clear hz
    go_wp2_with fail
    with_reducible refine (implTerm_any _ _ _ _ _ _ _ _ N A M _ Q.out I3.out HK.out hm3).mono ?_
    rw [term_l (term_sig HF.out)]
    rintro e w2 ⟨rfl, hb⟩
    clear d0
    replace D := hidden (D.out.keep hb)
    replace R := hidden (R.out.keep hb)
    replace B := hidden (keepB B.out hb)
    replace I := hidden (I.out.keep hb)
    replace I3 := hidden (I3.out.keep hb)
    replace Q := hidden (Q.out.keep hb)
    clear hb
    by_cases hl : lF n A k M = 0
    · have HL := hidden hl
      obtain ⟨q, e, rfl, hq, hs, hqe, hem, hE⟩ := place_ok HF.out HX.out
      have hk24 := (lF_right (term_right HF.out).sig hl).nods.most
      have hk1 := (lF_right (term_right HF.out).sig hl).pos
      have hm24 := (term_right HF.out).nods.most
      have HE := hidden hE
      have d0 := D.out.c0
      have SC := hidden (sizeThere_any b off n c b' off' m c' q N A T w2.drew (Q.out.keep (Below.refl _ _).drew) (I.out.keep (Below.refl _ _).drew) (term_right HF.out).nods (term_right HF.out).sig.least hq hc)
      rw [hl]
      rw [show manyN (aOf A T) m q = e - q by omega] at SC
      obtain ⟨s, hs2⟩ : ∃ s, s = e - q := ⟨_, rfl⟩
      rw [← hs2] at SC
      have g1 : q ≤ c' := by omega
      have g3 : ¬ c' = 0 := by omega
      clear hl hs hE
      go_wp2_with fail
      go_cut [11, 12] (fun a z wc => a = .slice (some ⟨b', off', none⟩) q c' ∧ (∃ o cr, z = .slice (some ⟨b', o, none⟩) (m - e) cr ∧ (m - e = 0 ∨ o = off' + e)) ∧ Hid (Below w2.heap.size w2 wc))
      case first =>
        obtain rfl : e = q + s := by omega
        by_cases hce : c' = q + s
        · subst hce
          obtain rfl : m = q + s := by omega
          clear hs2
          have hsl : ∀ v : World, (Instr.slice 25 (.slice (some ⟨b', off', none⟩) (q + s) (q + s)) (some (.int .i64 ((q : Int) + (s : Int)))) none none).run Try.prog v = .ok (.slice (some ⟨b', off', none⟩) 0 0) v := fun v => by
            rw [run_slice_l (P := Try.prog) v 25 _ (q + s) (q + s) (by rfl) .i64 _ (by omega) (by omega), show ((q : Int) + (s : Int)).toNat = q + s by omega]
            simp [sliced, go_sem]
          have hw : wrap64 ((q : Int) + (s : Int)) = (q : Int) + (s : Int) := by unfold wrap64; omega
          have hw2 : IntKind.i64.wrap ((q : Int) + (s : Int)) = (q : Int) + (s : Int) := by rw [IntKind.wrap_i64]; omega
          have i1 : (0 : Int) ≤ (q : Int) + s := by omega
          have i3 : ((q : Int) + (s : Int)).toNat = q + s := by omega
          have i4 : (q : Int) + s ≤ ((q + s : Nat) : Int) := by omega
          have i5 : 0 ≤ wrap64 ((q : Int) + (s : Int)) ∧ wrap64 ((q : Int) + (s : Int)) ≤ ((q + s : Nat) : Int) := by rw [hw]; exact ⟨i1, i4⟩
          have i6 : 0 ≤ wrap64 ((q : Int) + (s : Int)) := i5.1
          have i7 : wrap64 ((q : Int) + (s : Int)) ≤ ((q + s : Nat) : Int) := i5.2
          go_region_with (first | (go_at_call 60; with_reducible refine SC.out.mono ?_; rintro e w5 ⟨rfl, hb5⟩))
          all_goals (go_wp2_with fail; go_meet)
          all_goals exact ⟨rfl, ⟨off', 0, by simp, Or.inl (Nat.sub_self _)⟩, hidden ((Below.refl _ _).drew.trans hb5)⟩
        · have g5 : q + s ≤ m := by omega
          clear hs2
          have hsl : ∀ v : World, (Instr.slice 25 (.slice (some ⟨b', off', none⟩) m c') (some (.int .i64 ((q : Int) + (s : Int)))) none none).run Try.prog v = .ok (.slice (some ⟨b', off' + (q + s), none⟩) (m - (q + s)) (c' - (q + s))) v := fun v => by
            rw [run_slice_l (P := Try.prog) v 25 _ m c' (by rfl) .i64 _ (by omega) (by omega), show ((q : Int) + (s : Int)).toNat = q + s by omega]
            simp [sliced, go_sem, hce]
          have hw : wrap64 ((q : Int) + (s : Int)) = (q : Int) + (s : Int) := by unfold wrap64; omega
          have hw2 : IntKind.i64.wrap ((q : Int) + (s : Int)) = (q : Int) + (s : Int) := by rw [IntKind.wrap_i64]; omega
          have i1 : (0 : Int) ≤ (q : Int) + s := by omega
          have i3 : ((q : Int) + (s : Int)).toNat = q + s := by omega
          have i4 : (q : Int) + s ≤ (m : Int) := by omega
          have i5 : 0 ≤ wrap64 ((q : Int) + (s : Int)) ∧ wrap64 ((q : Int) + (s : Int)) ≤ (m : Int) := by rw [hw]; exact ⟨i1, i4⟩
          have i6 : 0 ≤ wrap64 ((q : Int) + (s : Int)) := i5.1
          have i7 : wrap64 ((q : Int) + (s : Int)) ≤ (m : Int) := i5.2
          go_region_with (first | (go_at_call 60; with_reducible refine SC.out.mono ?_; rintro e w5 ⟨rfl, hb5⟩))
          all_goals (go_wp2_with fail; go_meet)
          all_goals exact ⟨rfl, ⟨_, _, rfl, Or.inr rfl⟩, hidden ((Below.refl _ _).drew.trans hb5)⟩
      case rest =>
        rename World => w3
        obtain ⟨rfl, ⟨o, cr, rfl, ho⟩, HB⟩ := hcut
        have hb := HB.out
        replace R := hidden (R.out.keep hb)
        replace B := hidden (keepB B.out hb)
        replace I := hidden (I.out.keep hb)
        replace I3 := hidden (I3.out.keep hb)
        clear hb d0 SC D Q HB hs2
        obtain ⟨_, q0, q1, f0, f1⟩ := id R.out
        by_cases ht : 24 < q + k + (m - e)
        · have HA := hidden (re_many HZ.out HL.out (by rw [Int.toNat_natCast, ← HE.out]; exact ht))
          have ht' : (24 : Int) < (q : Int) + k + ((m - e : Nat) : Int) := by omega
          have hrb : m - e ≤ 24 := by omega
          generalize m - e = r at *
          go_wp2
          exact bodyPost_ret (v := .agg #[.int .i64 2, .slice none 0 0]) (by simp [results, Try.results34, go_sem, q0, q1]) rfl ⟨Or.inl ⟨by rw [HA.out]; decide, by rw [HA.out]⟩, (B.out.setCell (by simp) _).setCell (by simp) _⟩
        · have HA := hidden (re_ok HZ.out HL.out (by rw [Int.toNat_natCast, ← HE.out]; exact ht))
          have ht' : ¬ (24 : Int) < (q : Int) + k + ((m - e : Nat) : Int) := by omega
          have IQ := hidden (show Ints w3 b' off' q T from ⟨fun _ => I.out.blk (by omega), fun i hi => I.out.cell i (by omega)⟩)
          have IR := hidden (show Ints w3 b' o (m - e) (fun i => T (e + i)) from by
            rcases ho with h0 | rfl
            · exact ⟨fun h => by omega, fun i hi => by omega⟩
            · exact I.out.part (by omega))
          have CC := hidden (concat_any w3.heap.size b' off' q c' b3 off3 k c3 b' o (m - e) cr T M (fun i => T (e + i)) (w3.alloc (.cells #[.slice (some ⟨b', off', none⟩) q c', .slice (some ⟨b3, off3, none⟩) k c3, .slice (some ⟨b', o, none⟩) (m - e) cr] 25)) (Three.new w3 _ _ _ 25) (IQ.out.keep (alloc_below _ _)) (I3.out.keep (alloc_below _ _)) (IR.out.keep (alloc_below _ _)) (by omega) ⟨by omega, hk24⟩ (by omega))
          rw [cat_vals] at CC
          clear IQ IR ho q0 q1 f0 f1
          have hrb : m - e ≤ 24 := by omega
          generalize hr : m - e = r at *
          have HR := hidden hr
          clear hr
          go_wp2_with fail
          with_reducible refine CC.out.mono ?_
          rintro r2 w4 ⟨g, d, rfl, hgg, hoo, hb⟩
          have hR := R.out.blk
          have hBs := B.out.size
          rw [World.size_alloc] at hgg
          have O := hidden (row_own hoo)
          replace hb := keepB (alloc_below w3 _) hb
          replace R := hidden (R.out.keep hb)
          replace B := hidden (keepB B.out hb)
          clear hb hoo CC I I3
          obtain ⟨_, q0, q1, f0, f1⟩ := id R.out
          generalize hto : q + k + r = tot at *
          have HTO := hidden hto
          clear hto
          go_wp2
          exact bodyPost_ret (v := .agg #[.int .i64 0, .slice (some ⟨g, 0, none⟩) tot d]) (by simp [results, Try.results34, go_sem, q0, q1]) rfl ⟨Or.inr ⟨HA.out, g, d, by rw [Int.toNat_natCast, ← HE.out, HR.out, HTO.out], by omega, by
            rw [Int.toNat_natCast, ← HE.out, HR.out, HTO.out]; exact ((O.out.other _ _ (by simp; omega)).other _ _ (by simp; omega)).base (by omega)⟩, (B.out.setCell (by simp) _).setCell (by simp) _⟩
    · have HA := hidden (re_by HZ.out hl)
      have HN := hidden hl
      have hl' : (lF n A k M != 0) = true := by simpa using hl
      generalize lF n A k M = z at *
      clear hl
      obtain ⟨_, q0, q1, f0, f1⟩ := id R.out
      go_wp2
      exact bodyPost_ret (v := .agg #[.int .i64 z, .slice none 0 0]) (by simp [results, Try.results34, go_sem, q0, q1]) rfl ⟨Or.inl ⟨by rw [HA.out]; exact HN.out, by rw [HA.out]⟩, (B.out.setCell (by simp) _).setCell (by simp) _⟩
  · have HA := hidden (re_fault (k := k) (M := M) hz)
    have HF := hidden hz
    have hf' : (szC n N A m T x != 0) = true := by simpa using hz
    generalize szC n N A m T x = z at *
    clear hz
    obtain ⟨_, q0, q1, f0, f1⟩ := id R.out
    go_wp2
    exact bodyPost_ret (v := .agg #[.int .i64 z, .slice none 0 0]) (by simp [results, Try.results34, go_sem, q0, q1]) rfl ⟨Or.inl ⟨by rw [HA.out]; exact HF.out, by rw [HA.out]⟩, (B.out.setCell (by simp) _).setCell (by simp) _⟩

end Go.Proofs.Ytjahldlcbgdllaa
