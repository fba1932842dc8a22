/- Several texts as one: ReplS, ReplI, App8, SubM, RwS, RwP, RwI, RwA. -/
import Derived.Test.YtbdgnpjbmlcchaaRepl
import Derived.Test.YtbdgnpjbmlcchaaMF
import Derived.Test.YtbdgnpjbmlcchaaMch
import Derived.Laws.CopyOwn
import Derived.Deep.WholeRow
/- Contracts: a term with another one at a place: ReplaceAt, as the model and as the program makes it. -/
namespace Go.Proofs.Ytbdgnpjbmlcchaa
open Go.RowKit

/-- The code of ReplaceAt: the fault of the term or the place, that of the other term, or too many nodes. -/
noncomputable def reC (n : Nat) (N : Nat → ByteArray) (A : Nat → Int) (m : Nat) (T : Nat → Int) (x : Int) (k : Nat) (M : Nat → Int) : Int :=
  if szC n N A m T x = 0 then (if lF n A k M = 0 then (if 24 < x.toNat + k + (m - (x.toNat + manyN (aOf A T) m x.toNat)) then 2 else 0) else lF n A k M) else szC n N A m T x

section
variable {n : Nat} {N : Nat → ByteArray} {A : Nat → Int} {m : Nat} {T : Nat → Int} {x : Int} {k : Nat} {M : Nat → Int}
theorem re_fault (h : szC n N A m T x ≠ 0) : reC n N A m T x k M = szC n N A m T x := by rw [reC, if_neg h]
theorem re_by (h : szC n N A m T x = 0) (hl : lF n A k M ≠ 0) : reC n N A m T x k M = lF n A k M := by rw [reC, if_pos h, if_neg hl]
theorem re_many (h : szC n N A m T x = 0) (hl : lF n A k M = 0) (ht : 24 < x.toNat + k + (m - (x.toNat + manyN (aOf A T) m x.toNat))) : reC n N A m T x k M = 2 := by rw [reC, if_pos h, if_pos hl, if_pos ht]
theorem re_ok (h : szC n N A m T x = 0) (hl : lF n A k M = 0) (ht : ¬ 24 < x.toNat + k + (m - (x.toNat + manyN (aOf A T) m x.toNat))) : reC n N A m T x k M = 0 := by rw [reC, if_pos h, if_pos hl, if_neg ht]

theorem term_sig (h : termF n N A m T = 0) : faultF n N A = 0 := by
  refine Classical.byContradiction fun hf => ?_
  rw [term_fault hf] at h; exact hf h
end

end Go.Proofs.Ytbdgnpjbmlcchaa

/- Contract: a term with another one at a place: ReplaceAt, as the program makes it. -/
namespace Go.Proofs.Ytbdgnpjbmlcchaa
open Go.RowKit

set_option maxRecDepth 20000 in
set_option maxHeartbeats 6400000 in
theorem implReplace_any (b off n c b' off' m c' b3 off3 k c3 : Nat) (N : Nat → ByteArray) (A T M : Nat → Int) (x : Int) (w : World) (h : Syms w b off n N A) (h' : Ints w b' off' m T) (h3 : Ints w b3 off3 k M) (hk : Kept n N A) (hm : m ≤ 1048576) (hm3 : k ≤ 1048576) (hc : m ≤ c') :
    Calls Try.prog 67 #[.agg #[.slice (some ⟨b, off, none⟩) n c], .slice (some ⟨b', off', none⟩) m c', .int .i64 x, .slice (some ⟨b3, off3, none⟩) k c3] w fun e w' => ListAns w (reC n N A m T x k M) (x.toNat + k + (m - (x.toNat + manyN (aOf A T) m x.toNat))) (catU x.toNat k (x.toNat + manyN (aOf A T) m x.toNat) T M) e w' ∧ Below w.heap.size w w' := by
  have D := hidden ((One.new w (.slice (some ⟨b, off, none⟩) n c) 34).keep (alloc_below _ (.cells #[.int .i64 0, .slice none 0 0] 85)))
  have R := hidden (Res.new (w.alloc (.cells #[.slice (some ⟨b, off, none⟩) n c] 34)) (.int .i64 0) (.slice none 0 0) 85)
  have B := hidden (keepB (alloc_below w (.cells #[.slice (some ⟨b, off, none⟩) n c] 34)) (alloc_below _ (.cells #[.int .i64 0, .slice none 0 0] 85)))
  have Q := hidden (h.keep B.out)
  have I := hidden (h'.keep B.out)
  have I3 := hidden (h3.keep B.out)
  have HK := hidden hk
  rw [World.size_alloc] at R
  clear h h' h3 hk
  go_enter Try.func67, Try.ntmps67
  go_wp2_with fail
  with_reducible refine (placeFault_any _ _ _ _ _ _ _ _ N A T x _ Q.out I.out HK.out hm).mono ?_
  rintro e w1 ⟨rfl, hb⟩
  replace D := hidden (D.out.keep hb)
  replace R := hidden (R.out.keep hb)
  replace B := hidden (keepB B.out hb)
  replace I := hidden (I.out.keep hb)
  replace I3 := hidden (I3.out.keep hb)
  replace Q := hidden (Q.out.keep hb)
  clear hb
  by_cases hz : szC n N A m T x = 0
  · have HZ := hidden hz
    have HF := hidden (show termF n N A m T = 0 from Classical.byContradiction fun hf => sub_fault hf hz)
    have HX := hidden (show inB x m = true from by
      cases hb : inB x m
      · exact absurd hz (sub_range HF.out hb)
      · rfl)
    have d0 := D.out.c0
    rw [hz]
    clear hz
    go_wp2_with fail
    with_reducible refine (implTerm_any _ _ _ _ _ _ _ _ N A M _ Q.out I3.out HK.out hm3).mono ?_
    rw [term_l (term_sig HF.out)]
    rintro e w2 ⟨rfl, hb⟩
    clear d0
    replace D := hidden (D.out.keep hb)
    replace R := hidden (R.out.keep hb)
    replace B := hidden (keepB B.out hb)
    replace I := hidden (I.out.keep hb)
    replace I3 := hidden (I3.out.keep hb)
    replace Q := hidden (Q.out.keep hb)
    clear hb
    by_cases hl : lF n A k M = 0
    · have HL := hidden hl
      obtain ⟨q, e, rfl, hq, hs, hqe, hem, hE⟩ := place_ok HF.out HX.out
      have hk24 := (lF_right (term_right HF.out).sig hl).nods.most
      have hk1 := (lF_right (term_right HF.out).sig hl).pos
      have hm24 := (term_right HF.out).nods.most
      have HE := hidden hE
      have d0 := D.out.c0
      have SC := hidden (sizeThere_any b off n c b' off' m c' q N A T w2.drew (Q.out.keep (Below.refl _ _).drew) (I.out.keep (Below.refl _ _).drew) (term_right HF.out).nods (term_right HF.out).sig.least hq hc)
      rw [hl]
      rw [show manyN (aOf A T) m q = e - q by omega] at SC
      obtain ⟨s, hs2⟩ : ∃ s, s = e - q := ⟨_, rfl⟩
      rw [← hs2] at SC
      have g1 : q ≤ c' := by omega
      have g3 : ¬ c' = 0 := by omega
      clear hl hs hE
      go_wp2_with fail
      go_cut [11, 12] (fun a z wc => a = .slice (some ⟨b', off', none⟩) q c' ∧ (∃ o cr, z = .slice (some ⟨b', o, none⟩) (m - e) cr ∧ (m - e = 0 ∨ o = off' + e)) ∧ Hid (Below w2.heap.size w2 wc))
      case first =>
        obtain rfl : e = q + s := by omega
        by_cases hce : c' = q + s
        · subst hce
          obtain rfl : m = q + s := by omega
          clear hs2
          have hsl : ∀ v : World, (Instr.slice 26 (.slice (some ⟨b', off', none⟩) (q + s) (q + s)) (some (.int .i64 ((q : Int) + (s : Int)))) none none).run Try.prog v = .ok (.slice (some ⟨b', off', none⟩) 0 0) v := fun v => by
            rw [run_slice_l (P := Try.prog) v 26 _ (q + s) (q + s) (by rfl) .i64 _ (by omega) (by omega), show ((q : Int) + (s : Int)).toNat = q + s by omega]
            simp [sliced, go_sem]
          have hw : wrap64 ((q : Int) + (s : Int)) = (q : Int) + (s : Int) := by unfold wrap64; omega
          have hw2 : IntKind.i64.wrap ((q : Int) + (s : Int)) = (q : Int) + (s : Int) := by rw [IntKind.wrap_i64]; omega
          have i1 : (0 : Int) ≤ (q : Int) + s := by omega
          have i3 : ((q : Int) + (s : Int)).toNat = q + s := by omega
          have i4 : (q : Int) + s ≤ ((q + s : Nat) : Int) := by omega
          have i5 : 0 ≤ wrap64 ((q : Int) + (s : Int)) ∧ wrap64 ((q : Int) + (s : Int)) ≤ ((q + s : Nat) : Int) := by rw [hw]; exact ⟨i1, i4⟩
          have i6 : 0 ≤ wrap64 ((q : Int) + (s : Int)) := i5.1
          have i7 : wrap64 ((q : Int) + (s : Int)) ≤ ((q + s : Nat) : Int) := i5.2
          go_region_with (first | (go_at_call 86; with_reducible refine SC.out.mono ?_; rintro e w5 ⟨rfl, hb5⟩))
          all_goals (go_wp2_with fail; go_meet)
          all_goals exact ⟨rfl, ⟨off', 0, by simp, Or.inl (Nat.sub_self _)⟩, hidden ((Below.refl _ _).drew.trans hb5)⟩
        · have g5 : q + s ≤ m := by omega
          clear hs2
          have hsl : ∀ v : World, (Instr.slice 26 (.slice (some ⟨b', off', none⟩) m c') (some (.int .i64 ((q : Int) + (s : Int)))) none none).run Try.prog v = .ok (.slice (some ⟨b', off' + (q + s), none⟩) (m - (q + s)) (c' - (q + s))) v := fun v => by
            rw [run_slice_l (P := Try.prog) v 26 _ m c' (by rfl) .i64 _ (by omega) (by omega), show ((q : Int) + (s : Int)).toNat = q + s by omega]
            simp [sliced, go_sem, hce]
          have hw : wrap64 ((q : Int) + (s : Int)) = (q : Int) + (s : Int) := by unfold wrap64; omega
          have hw2 : IntKind.i64.wrap ((q : Int) + (s : Int)) = (q : Int) + (s : Int) := by rw [IntKind.wrap_i64]; omega
          have i1 : (0 : Int) ≤ (q : Int) + s := by omega
          have i3 : ((q : Int) + (s : Int)).toNat = q + s := by omega
          have i4 : (q : Int) + s ≤ (m : Int) := by omega
          have i5 : 0 ≤ wrap64 ((q : Int) + (s : Int)) ∧ wrap64 ((q : Int) + (s : Int)) ≤ (m : Int) := by rw [hw]; exact ⟨i1, i4⟩
          have i6 : 0 ≤ wrap64 ((q : Int) + (s : Int)) := i5.1
          have i7 : wrap64 ((q : Int) + (s : Int)) ≤ (m : Int) := i5.2
          go_region_with (first | (go_at_call 86; with_reducible refine SC.out.mono ?_; rintro e w5 ⟨rfl, hb5⟩))
          all_goals (go_wp2_with fail; go_meet)
          all_goals exact ⟨rfl, ⟨_, _, rfl, Or.inr rfl⟩, hidden ((Below.refl _ _).drew.trans hb5)⟩
      case rest =>
        rename World => w3
        obtain ⟨rfl, ⟨o, cr, rfl, ho⟩, HB⟩ := hcut
        have hb := HB.out
        replace R := hidden (R.out.keep hb)
        replace B := hidden (keepB B.out hb)
        replace I := hidden (I.out.keep hb)
        replace I3 := hidden (I3.out.keep hb)
        clear hb d0 SC D Q HB hs2
        obtain ⟨_, q0, q1, f0, f1⟩ := id R.out
        by_cases ht : 24 < q + k + (m - e)
        · have HA := hidden (re_many HZ.out HL.out (by rw [Int.toNat_natCast, ← HE.out]; exact ht))
          have ht' : (24 : Int) < (q : Int) + k + ((m - e : Nat) : Int) := by omega
          have hrb : m - e ≤ 24 := by omega
          generalize m - e = r at *
          go_wp2
          exact bodyPost_ret (v := .agg #[.int .i64 2, .slice none 0 0]) (by simp [results, Try.results67, go_sem, q0, q1]) rfl ⟨Or.inl ⟨by rw [HA.out]; decide, by rw [HA.out]⟩, (B.out.setCell (by simp) _).setCell (by simp) _⟩
        · have HA := hidden (re_ok HZ.out HL.out (by rw [Int.toNat_natCast, ← HE.out]; exact ht))
          have ht' : ¬ (24 : Int) < (q : Int) + k + ((m - e : Nat) : Int) := by omega
          have IQ := hidden (show Ints w3 b' off' q T from ⟨fun _ => I.out.blk (by omega), fun i hi => I.out.cell i (by omega)⟩)
          have IR := hidden (show Ints w3 b' o (m - e) (fun i => T (e + i)) from by
            rcases ho with h0 | rfl
            · exact ⟨fun h => by omega, fun i hi => by omega⟩
            · exact I.out.part (by omega))
          have CC := hidden (concat_any w3.heap.size b' off' q c' b3 off3 k c3 b' o (m - e) cr T M (fun i => T (e + i)) (w3.alloc (.cells #[.slice (some ⟨b', off', none⟩) q c', .slice (some ⟨b3, off3, none⟩) k c3, .slice (some ⟨b', o, none⟩) (m - e) cr] 26)) (Three.new w3 _ _ _ 26) (IQ.out.keep (alloc_below _ _)) (I3.out.keep (alloc_below _ _)) (IR.out.keep (alloc_below _ _)) (by omega) ⟨by omega, hk24⟩ (by omega))
          rw [cat_vals] at CC
          clear IQ IR ho q0 q1 f0 f1
          have hrb : m - e ≤ 24 := by omega
          generalize hr : m - e = r at *
          have HR := hidden hr
          clear hr
          go_wp2_with fail
          with_reducible refine CC.out.mono ?_
          rintro r2 w4 ⟨g, d, rfl, hgg, hoo, hb⟩
          have hR := R.out.blk
          have hBs := B.out.size
          rw [World.size_alloc] at hgg
          have O := hidden (row_own hoo)
          replace hb := keepB (alloc_below w3 _) hb
          replace R := hidden (R.out.keep hb)
          replace B := hidden (keepB B.out hb)
          clear hb hoo CC I I3
          obtain ⟨_, q0, q1, f0, f1⟩ := id R.out
          generalize hto : q + k + r = tot at *
          have HTO := hidden hto
          clear hto
          go_wp2
          exact bodyPost_ret (v := .agg #[.int .i64 0, .slice (some ⟨g, 0, none⟩) tot d]) (by simp [results, Try.results67, go_sem, q0, q1]) rfl ⟨Or.inr ⟨HA.out, g, d, by rw [Int.toNat_natCast, ← HE.out, HR.out, HTO.out], by omega, by
            rw [Int.toNat_natCast, ← HE.out, HR.out, HTO.out]; exact ((O.out.other _ _ (by simp; omega)).other _ _ (by simp; omega)).base (by omega)⟩, (B.out.setCell (by simp) _).setCell (by simp) _⟩
    · have HA := hidden (re_by HZ.out hl)
      have HN := hidden hl
      have hl' : (lF n A k M != 0) = true := by simpa using hl
      generalize lF n A k M = z at *
      clear hl
      obtain ⟨_, q0, q1, f0, f1⟩ := id R.out
      go_wp2
      exact bodyPost_ret (v := .agg #[.int .i64 z, .slice none 0 0]) (by simp [results, Try.results67, go_sem, q0, q1]) rfl ⟨Or.inl ⟨by rw [HA.out]; exact HN.out, by rw [HA.out]⟩, (B.out.setCell (by simp) _).setCell (by simp) _⟩
  · have HA := hidden (re_fault (k := k) (M := M) hz)
    have HF := hidden hz
    have hf' : (szC n N A m T x != 0) = true := by simpa using hz
    generalize szC n N A m T x = z at *
    clear hz
    obtain ⟨_, q0, q1, f0, f1⟩ := id R.out
    go_wp2
    exact bodyPost_ret (v := .agg #[.int .i64 z, .slice none 0 0]) (by simp [results, Try.results67, go_sem, q0, q1]) rfl ⟨Or.inl ⟨by rw [HA.out]; exact HF.out, by rw [HA.out]⟩, (B.out.setCell (by simp) _).setCell (by simp) _⟩

end Go.Proofs.Ytbdgnpjbmlcchaa

/- Contracts: a term with what a binding tells, and a term with a long one at a place, as the model makes them. -/
namespace Go.Proofs.Ytbdgnpjbmlcchaa
open Go.RowKit

set_option maxRecDepth 20000 in
set_option maxHeartbeats 3200000 in
theorem l6Apply_bd (E lo b off k c : Nat) (M : Nat → List Int) (va ta : Value) (T : Nat → Int) (w : World) (he : Two w E va ta) (hbd : Bd w lo M va ta) (hhi : ∀ v, 12 ≤ v → M v = []) (h : Ints w b off k T) (h24 : k ≤ 24) (hx : ∀ i, i < k → -12 ≤ T i) (hl : ∀ v, (M v).length ≤ 24) :
    Calls Try.prog 56 #[.pointer (some ⟨E, 0, none⟩), .slice (some ⟨b, off, none⟩) k c] w fun e w' => ∃ g d, e = .returned (.slice (some ⟨g, 0, none⟩) (putL M T k).length d) ∧ OwnL w' w.heap.size g d (putL M T k) ∧ Below w.heap.size w w' := by
  have HO := hidden (show OwnL (w.alloc (.cells #[] 2)) w.heap.size w.heap.size 0 [] from ⟨Nat.le_refl _, World.ownsRow_made w #[] 0 (Nat.le_refl _) (Nat.zero_le _) rfl⟩)
  have X := hidden he
  have BDH := hidden hbd
  have HHI := hidden hhi
  have H := hidden h
  have HX := hidden hx
  have HL := hidden hl
  clear he hbd hhi h hx hl
  go_enter Try.func56, Try.ntmps56
  go_wp2
  go_loopw [5, 6] (fun o i wr => ∃ (j g d n : Nat), j ≤ k ∧ i = .int .i64 j ∧ o = .slice (some ⟨g, 0, none⟩) n d ∧ n ≤ 1048576 ∧ Hid (n = (putL M T j).length ∧ OwnL wr w.heap.size g d (putL M T j) ∧ Below w.heap.size w wr)) (fun _ i _ => k - (intOf i).toNat)
  case atStart => exact ⟨0, _, _, _, Nat.zero_le _, rfl, rfl, Nat.zero_le _, hidden ⟨rfl, HO.out, alloc_below _ _⟩⟩
  case round =>
    clear HO
    obtain ⟨j, g, d, n, hj, rfl, rfl, hn, HI⟩ := hrel
    by_cases hlt : j < k
    · have hlen := (putL_len HL.out T j).2
      have hn24 : n ≤ 24 * 24 := by have := HI.out.1; omega
      have hlen1 := (putL_len HL.out T (j + 1)).2
      have HN1 := hidden (show (putL M T (j + 1)).length ≤ 1048576 by omega)
      clear hlen hlen1
      have O1 := hidden (show wr.ownsRow w.heap.size 2 1 (.slice (some ⟨g, 0, none⟩) n d) n ((putL M T j).map (fun x => Value.int .i64 x)) by have h1 := HI.out.2.1.own; rw [← HI.out.1] at h1; exact h1)
      have B1 := hidden HI.out.2.2
      have HNL := hidden HI.out.1
      clear HI
      have ab := alloc_below wr (.cells #[] 2)
      have O2 := hidden (O1.out.alloc (.cells #[] 2))
      have B2 := hidden (keepB B1.out ab)
      have z1 := (H.out.keep B2.out).cell j hlt
      clear ab
      by_cases hv : T j < 0
      · obtain ⟨v, hv'⟩ : ∃ v : Nat, T j = -1 - (v : Int) := ⟨(-1 - T j).toNat, by omega⟩
        have h12 := HX.out j hlt
        have HE := hidden (nodL_var (M := M) (v := v))
        have HTJ := hidden hv'
        rw [hv'] at z1 h12
        rw [← HTJ.out] at HE
        clear hv hv'
        have S := hidden (l6Term_bd E lo M va ta v _ (X.out.keep B2.out) (BDH.out.keep B2.out) HHI.out)
        rw [show (v : Int) = -1 - (-1 - (v : Int)) by omega] at S
        go_wp2_with fail
        with_reducible refine S.out.mono ?_
        rintro e w3 ⟨⟨p, cc, rfl, hp⟩, hb⟩
        have O3 := hidden (ownsRow_upon O2.out hb)
        have B3 := hidden (keepB B2.out hb)
        have z2 := (H.out.keep B3.out).cell j hlt
        rw [HTJ.out] at z2
        have hl24 := HL.out v
        clear hb z1 S
        by_cases h0 : M v = []
        · replace HE := hidden (HE.out.trans (if_neg (fun x => x h0)))
          have hz : (M v).length = 0 := by rw [h0]; rfl
          rw [hz]
          clear hp hz h0 hl24
          go_wp2_with (at_builtin; refine wpList_append_own _ rfl _ _ 26 rfl w.heap.size 2 _ (.int .i64 0) 1 8 Try.underlying26 rfl rfl rfl rfl rfl (by decide) _ _ _ rfl (O3.out.alloc _) ⟨_, 0, none⟩ 1 1 [.int .i64 (-1 - (v : Int))] rfl (by simp) (one_srcI _ _ _) (oneValI _) (by unfold maxLen; omega) (by omega) (by have := B3.out.size; simp; omega) ?_)
          intro v2 w4 hown hgrow hnil
          obtain ⟨g2, d2, rfl, ho, hb⟩ := ownL_open (l := putL M T (j + 1)) hown (by rw [putL, HE.out, List.length_append, ← HNL.out]; rfl) (by rw [putL, HE.out, HTJ.out]; simp) (by simpa using hnil) ((B3.out.alloc B3.out.size _).grown hgrow (by have := B3.out.size; simp; omega) (ownsRow_le O3.out))
          obtain ⟨n2, hn2⟩ : ∃ n2, n2 = (putL M T (j + 1)).length := ⟨_, rfl⟩
          have HF := hidden (And.intro hn2 (And.intro ho hb))
          rw [← hn2]
          clear hown hgrow hnil ho hb z2 hn2
          go_wp2
          go_roundw
          case rel => exact ⟨j + 1, g2, d2, n2, by omega, by go_num, rfl, by have := HN1.out; have := HF.out.1; omega, HF⟩
          case measure => simp [intOf]; omega
        · replace HE := hidden (HE.out.trans (if_pos h0))
          have hz : 0 < (M v).length := List.length_pos_iff.2 h0
          rcases hp with hp | ⟨b3, o3, rfl, hi⟩
          · omega
          have HI := hidden hi
          obtain ⟨q, hq⟩ : ∃ q, q = (M v).length := ⟨_, rfl⟩
          have HK := hidden hq
          rw [← hq] at hz hl24 ⊢
          have hz' : ((q : Int) == 0) = false := by simp; omega
          clear h0 hi hq
          go_wp2_with (at_builtin; refine wpList_append_own _ rfl _ _ 26 rfl w.heap.size 2 _ (.int .i64 0) 1 8 Try.underlying26 rfl rfl rfl rfl rfl (by decide) _ _ _ rfl O3.out ⟨b3, o3, none⟩ q cc ((M v).map (fun x => Value.int .i64 x)) rfl (by simp [HK.out]) (by rw [← vals_list]; exact HI.out.src0) (by intro u hu; simp at hu; obtain ⟨a, _, rfl⟩ := hu; rfl) (by unfold maxLen; omega) (by omega) B3.out.size ?_)
          intro v2 w4 hown hgrow hnil
          obtain ⟨g2, d2, rfl, ho, hb⟩ := ownL_open (l := putL M T (j + 1)) hown (by rw [putL, HE.out, List.length_append, ← HNL.out, HK.out]) (by rw [putL, HE.out]; simp) (by first | exact hnil | simpa using hnil) (B3.out.grown hgrow B3.out.size (ownsRow_le O3.out))
          obtain ⟨n2, hn2⟩ : ∃ n2, n2 = (putL M T (j + 1)).length := ⟨_, rfl⟩
          have HF := hidden (And.intro hn2 (And.intro ho hb))
          rw [← hn2]
          clear hown hgrow hnil ho hb z2 hn2
          go_wp2
          go_roundw
          case rel => exact ⟨j + 1, g2, d2, n2, by omega, by go_num, rfl, by have := HN1.out; have := HF.out.1; omega, HF⟩
          case measure => simp [intOf]; omega
      · have HE := hidden (nodL_sym (M := M) (x := T j) (by omega))
        go_wp2_with (at_builtin; refine wpList_append_own _ rfl _ _ 26 rfl w.heap.size 2 _ (.int .i64 0) 1 8 Try.underlying26 rfl rfl rfl rfl rfl (by decide) _ _ _ rfl (O2.out.alloc _) ⟨_, 0, none⟩ 1 1 [.int .i64 (T j)] rfl (by simp) (by intro j' u hu; have := one_srcI (wr.alloc (.cells #[] 2)) (.int .i64 (T j)) 2 j' u hu; rw [World.size_alloc] at this; exact this) (oneValI _) (by unfold maxLen; omega) (by omega) (by have := B1.out.size; simp; omega) ?_)
        intro v2 w4 hown hgrow hnil
        obtain ⟨g2, d2, rfl, ho, hb⟩ := ownL_open (l := putL M T (j + 1)) hown (by rw [putL, HE.out, List.length_append, ← HNL.out]; rfl) (by rw [putL, HE.out]; simp) (by simpa using hnil) ((B2.out.alloc B2.out.size _).grown hgrow (by have := B1.out.size; simp; omega) (ownsRow_le O2.out))
        obtain ⟨n2, hn2⟩ : ∃ n2, n2 = (putL M T (j + 1)).length := ⟨_, rfl⟩
        have HF := hidden (And.intro hn2 (And.intro ho hb))
        rw [← hn2]
        clear hown hgrow hnil ho hb z1 hn2
        go_wp2
        go_roundw
        case rel => exact ⟨j + 1, g2, d2, n2, by omega, by go_num, rfl, by have := HN1.out; have := HF.out.1; omega, HF⟩
        case measure => simp [intOf]; omega
    · obtain rfl : k = j := by omega
      go_wp2
      go_ret
      exact ⟨g, d, by rw [← HI.out.1]; rfl, HI.out.2.1, HI.out.2.2⟩

set_option maxRecDepth 20000 in
set_option maxHeartbeats 3200000 in
theorem l3Replace8_any (B b off n c b' off' m c' b3 off3 k c3 q e : Nat) (N : Nat → ByteArray) (A T M : Nat → Int) (w : World) (hd : One w B (.slice (some ⟨b, off, none⟩) n c)) (h : Syms w b off n N A) (h' : Ints w b' off' m T) (h3 : Ints w b3 off3 k M) (hg : Nods n A m T) (hq : q < m) (hc : m ≤ c') (hk : 1 ≤ k ∧ k ≤ 1000) (he : skip (aOf A T) m q 1 = some e) :
    Calls Try.prog 55 #[.pointer (some ⟨B, 0, none⟩), .slice (some ⟨b', off', none⟩) m c', .int .i64 q, .slice (some ⟨b3, off3, none⟩) k c3] w fun r w' => ∃ g d, r = .returned (.slice (some ⟨g, 0, none⟩) (q + k + (m - e)) d) ∧ w.heap.size ≤ g ∧ OwnI w' w.heap.size g (q + k + (m - e)) d (catU q k e T M) (q + k + (m - e)) ∧ Below w.heap.size w w' := by
  have hqe := (skip_le he).2 (by omega)
  have D := hidden hd
  have H := hidden h
  have H' := hidden h'
  have H3 := hidden h3
  have HG := hidden hg
  have HE := hidden (endV_some he)
  have hm24 := hg.most
  have g1 : q ≤ c' := by omega
  have g2 : e ≤ m := by omega
  have g3 : ¬ c' = 0 := by omega
  have IQ := hidden (show Ints w b' off' q T from ⟨fun _ => h'.blk (by omega), fun i hi => h'.cell i (by omega)⟩)
  clear hd h h' h3 hg he
  go_enter Try.func55, Try.ntmps55
  go_wp2_with fail
  with_reducible refine (l1Ints_any _ _ _ _ T _ IQ.out (by omega)).mono ?_
  rintro r w1 ⟨g4, d1, rfl, hg1, ho1, hb⟩
  have O1 := hidden ho1.vals
  have B1 := hidden hb
  have I3 := hidden (H3.out.keep hb)
  clear hb ho1 IQ
  go_wp2_with (first | (at_builtin; refine wpList_append_own _ rfl _ _ 26 rfl w.heap.size 2 _ (.int .i64 0) 1 8 Try.underlying26 rfl rfl rfl rfl rfl (by decide) _ _ _ rfl O1.out ⟨b3, off3, none⟩ k c3 (valsI M k) rfl (by simp [valsI]) I3.out.src0 (intNews _ _) (by unfold maxLen; omega) (by omega) (by have := B1.out.size; omega) ?_) | fail)
  intro v' w2 hown hgrow hnil
  obtain ⟨g5, d2, rfl, hg2, ho, hb⟩ := row_open hown (by simpa using hnil) (B1.out.grown hgrow B1.out.size (by intro x hx; simp [Value.ownBlock] at hx; omega))
  have O2 := hidden ho
  have B2 := hidden hb
  clear hown hgrow hnil ho hb O1 B1 I3
  go_wp2_with fail
  with_reducible refine (l3End_any _ _ _ _ _ _ _ _ _ N A T HG.out m q (by omega) (by omega) _ (D.out.keep B2.out) (H.out.keep B2.out) (H'.out.keep B2.out)).mono ?_
  rintro r w3 ⟨rfl, hb⟩
  rw [HE.out]
  have hl := (O2.out.lt g5 rfl).2
  have O3 := hidden (ownsRow_later O2.out hb hl)
  have B3 := hidden (keepB B2.out hb)
  have I4 := hidden ((H'.out.keep B3.out).part (q := e) (k := m - e) (by omega))
  clear hb O2 B2 hl
  by_cases hce : c' = e
  · subst hce
    obtain rfl : m = c' := by omega
    have hmm : m - m = 0 := Nat.sub_self m
    go_wp2_with (at_builtin; refine wpList_append_own _ rfl _ _ 26 rfl w.heap.size 2 _ (.int .i64 0) 1 8 Try.underlying26 rfl rfl rfl rfl rfl (by decide) _ _ _ rfl O3.out ⟨b', off', none⟩ 0 0 [] rfl rfl (fun j u hj => by simp at hj) (fun u hu => by simp at hu) (by unfold maxLen; omega) (by omega) (by have := B3.out.size; omega) ?_)
    intro v' w4 hown hgrow hnil
    obtain ⟨g6, d4, rfl, hg4, ho, hb⟩ := row_open hown (by simpa using hnil) (B3.out.grown hgrow B3.out.size (by intro x hx; simp [Value.ownBlock] at hx; omega))
    have O4 := hidden ho
    have B4 := hidden hb
    clear hown hgrow hnil ho hb O3 B3 I4
    go_wp2
    go_ret
    have O5 := O4.out
    have e2 : valsI T q ++ valsI M k ++ [] = valsI (catU q k m T M) (q + k + (m - m)) := by
      rw [← cat_vals, hmm]; rfl
    rw [List.append_nil] at e2
    simp only [e2] at O5
    rw [hmm] at O5 ⊢
    exact ⟨g6, d4, rfl, hg4, row_own O5, B4.out⟩
  · go_wp2_with (at_builtin; refine wpList_append_own _ rfl _ _ 26 rfl w.heap.size 2 _ (.int .i64 0) 1 8 Try.underlying26 rfl rfl rfl rfl rfl (by decide) _ _ _ rfl O3.out ⟨b', off' + e, none⟩ (m - e) (c' - e) (valsI (fun i => T (e + i)) (m - e)) rfl (by simp [valsI]) I4.out.src0 (intNews _ _) (by unfold maxLen; omega) (by omega) (by have := B3.out.size; omega) ?_)
    intro v' w4 hown hgrow hnil
    obtain ⟨g6, d4, rfl, hg4, ho, hb⟩ := row_open hown (by simpa using hnil) (B3.out.grown hgrow B3.out.size (by intro x hx; simp [Value.ownBlock] at hx; omega))
    have O4 := hidden ho
    have B4 := hidden hb
    clear hown hgrow hnil ho hb O3 B3 I4
    go_wp2
    go_ret
    have O5 := O4.out
    rw [← List.append_assoc, cat_vals] at O5
    exact ⟨g6, d4, rfl, hg4, row_own O5, B4.out⟩

end Go.Proofs.Ytbdgnpjbmlcchaa

/- Plain facts: a term in which terms stand for variables is a term. -/
namespace Go.Proofs.Ytbdgnpjbmlcchaa
open Go.RowKit

/-- How many arguments a node has. -/
def arX (A : Nat → Int) (x : Int) : Nat := if x < 0 then 0 else (A x.toNat).toNat
theorem aOf_arX (A T : Nat → Int) (p : Nat) : aOf A T p = arX A (T p) := rfl

/-- How many terms are awaited behind a list, of k ahead of it. -/
def eat (A : Nat → Int) : List Int → Nat → Option Nat
  | [], k => some k
  | _ :: _, 0 => none
  | x :: l, k + 1 => eat A l (k + arX A x)

theorem eat_append (A : Nat → Int) : ∀ (l l' : List Int) (k : Nat), eat A (l ++ l') k = (eat A l k).bind (eat A l')
  | [], l', k => rfl
  | x :: l, l', 0 => rfl
  | x :: l, l', k + 1 => by simp only [List.cons_append, eat]; exact eat_append A l l' _

theorem eat_more (A : Nat → Int) : ∀ (l : List Int) (k j i : Nat), eat A l k = some j → eat A l (k + i) = some (j + i)
  | [], k, j, i, h => by simp only [eat, Option.some.injEq] at h ⊢; omega
  | x :: l, 0, j, i, h => by simp [eat] at h
  | x :: l, k + 1, j, i, h => by
    simp only [eat] at h
    rw [show k + 1 + i = (k + i) + 1 by omega]
    simp only [eat]
    rw [show k + i + arX A x = k + arX A x + i by omega]
    exact eat_more A l _ j i h

theorem ptL_cons {T : Nat → Int} {p e : Nat} (h : p < e) : ptL T p e = T p :: ptL T (p + 1) e := by
  unfold ptL
  rw [show e - p = (e - (p + 1)) + 1 by omega, List.range_succ_eq_map, List.map_cons, List.map_map]
  rw [Nat.add_zero]
  congr 1
  refine List.map_congr_left fun i _ => ?_
  show T (p + (i + 1)) = T (p + 1 + i)
  congr 1; omega

theorem ptL_none {T : Nat → Int} {p e : Nat} (h : e ≤ p) : ptL T p e = [] := by
  unfold ptL; rw [show e - p = 0 by omega]; rfl

theorem eat_skip {A T : Nat → Int} {m : Nat} : ∀ (d p k e : Nat), e - p ≤ d → skip (aOf A T) m p k = some e → eat A (ptL T p e) k = some 0 := by
  intro d
  induction d with
  | zero =>
    intro p k e hd h
    cases k with
    | zero => rw [skip_zero] at h; cases h; rw [ptL_none (Nat.le_refl _)]; rfl
    | succ k => have := (skip_le h).2 (by omega); omega
  | succ d ih =>
    intro p k e hd h
    cases k with
    | zero => rw [skip_zero] at h; cases h; rw [ptL_none (Nat.le_refl _)]; rfl
    | succ k =>
      have hl := (skip_le h).2 (by omega)
      have h2 := h
      rw [skip_step _ k (by omega)] at h2
      rw [ptL_cons hl.1]
      simp only [eat]
      have := ih (p + 1) (k + aOf A T p) e (by omega) h2
      rwa [aOf_arX] at this

theorem skip_eat {A U : Nat → Int} {K : Nat} : ∀ (d p k : Nat), K - p ≤ d → p ≤ K → eat A (ptL U p K) k = some 0 → skip (aOf A U) K p k = some K := by
  intro d
  induction d with
  | zero =>
    intro p k hd hp h
    obtain rfl : p = K := by omega
    rw [ptL_none (Nat.le_refl _)] at h
    simp only [eat, Option.some.injEq] at h
    subst h
    exact skip_zero _ _ _
  | succ d ih =>
    intro p k hd hp h
    by_cases e : p = K
    · subst e
      rw [ptL_none (Nat.le_refl _)] at h
      simp only [eat, Option.some.injEq] at h
      subst h
      exact skip_zero _ _ _
    · rw [ptL_cons (by omega)] at h
      cases k with
      | zero => simp [eat] at h
      | succ k =>
        simp only [eat] at h
        rw [skip_step _ k (by omega)]
        exact ih (p + 1) _ (by omega) (by omega) (by rw [aOf_arX]; exact h)

/-- What may stand for variables: terms. -/
def TmM (n : Nat) (A : Nat → Int) (M : Nat → List Int) : Prop := ∀ v, M v = [] ∨ (eat A (M v) 1 = some 0 ∧ ∀ x ∈ M v, nodeB x n = true)

section
variable {n : Nat} {A T R : Nat → Int} {m mR : Nat} {M : Nat → List Int}

theorem sub_eat (hr : Trm n A mR R) (hM : TmM n A M) : ∀ k, k ≤ mR → eat A (putL M R k) 1 = some (awt (aOf A R) 0 k).toNat
  | 0, _ => rfl
  | k + 1, hk => by
    have h0 := pat_pos hr (show k < mR by omega)
    simp only [putL]
    rw [eat_append, sub_eat hr hM k (by omega)]
    simp only [Option.bind]
    obtain ⟨j, hj⟩ : ∃ j, (awt (aOf A R) 0 k).toNat = j + 1 := ⟨(awt (aOf A R) 0 k).toNat - 1, by omega⟩
    have ha : (awt (aOf A R) 0 (k + 1)).toNat = j + aOf A R k := by simp only [awt, Nat.zero_add]; omega
    rw [hj, ha]
    rcases nodeB_cases (hr.nods.node k (by omega)) with ⟨i, ei, hi⟩ | hv
    · rw [nodL_sym (by omega)]
      simp only [eat]
      rfl
    · obtain ⟨v, ev⟩ : ∃ v : Nat, R k = -1 - (v : Int) := ⟨(-1 - R k).toNat, by omega⟩
      have hz : aOf A R k = 0 := aOf_var (by omega)
      rw [hz]
      by_cases hm : M v = []
      · rw [ev, nodL_var, if_neg (fun h => h hm), ← ev]
        simp only [eat]
        rw [← aOf_arX, hz]
      · rw [ev, nodL_var, if_pos hm]
        rcases hM v with h1 | ⟨h1, _⟩
        · exact absurd h1 hm
        · have := eat_more A (M v) 1 0 j h1
          rw [Nat.zero_add, Nat.add_comm] at this
          rw [this]; rfl

theorem sub_node (hr : Trm n A mR R) (hM : TmM n A M) : ∀ k, k ≤ mR → ∀ x ∈ putL M R k, nodeB x n = true
  | 0, _, x, hx => by simp [putL] at hx
  | k + 1, hk, x, hx => by
    simp only [putL, List.mem_append] at hx
    rcases hx with hx | hx
    · exact sub_node hr hM k (by omega) x hx
    · have hn := hr.nods.node k (by omega)
      unfold nodL at hx
      split at hx
      · rename_i h
        rcases hM (-1 - R k).toNat with h1 | ⟨_, h1⟩
        · exact absurd h1 h.2
        · exact h1 x hx
      · simp only [List.mem_singleton] at hx
        rw [hx]; exact hn

theorem ptL_list (l : List Int) : ptL (fun i => l.getD i 0) 0 l.length = l := by
  apply List.ext_getElem?
  intro i
  by_cases hi : i < l.length
  · simp [ptL, hi]
  · rw [List.getElem?_eq_none (by rw [ptL_len]; omega), List.getElem?_eq_none (by omega)]

/-- A term in which terms stand for variables. -/
theorem sub_trm (hr : Trm n A mR R) (hM : TmM n A M) (h24 : (putL M R mR).length ≤ 24) (hl : mR ≤ (putL M R mR).length) : Trm n A (putL M R mR).length (fun i => (putL M R mR).getD i 0) := by
  refine ⟨hr.sig, by have := hr.pos; omega, ⟨hr.sig.most, hr.sig.arity, h24, fun i hi => ?_⟩, ?_⟩
  · refine sub_node hr hM mR (Nat.le_refl _) _ ?_
    rw [List.getD_eq_getElem?_getD, List.getElem?_eq_getElem hi]; exact List.getElem_mem hi
  · refine skip_eat _ 0 1 (Nat.le_refl _) (Nat.zero_le _) ?_
    rw [ptL_list, sub_eat hr hM mR (Nat.le_refl _), pat_end hr]; rfl

/-- The parts of a right term are terms. -/
theorem MtI.terms {P : Nat → Int} {q e0 k p : Nat} (h : MtI A T P m q e0 k p M) (hg : Trm n A m T) : TmM n A M := fun v => by
  refine (h.parts v).imp id ?_
  rintro ⟨p', e', a1, a2, a3, a4, a5⟩
  have h1 := (skip_le a4).2 (by omega)
  rw [a5]
  refine ⟨eat_skip _ p' 1 e' (Nat.le_refl _) a4, fun x hx => ?_⟩
  obtain ⟨i, hi, rfl⟩ := List.mem_map.1 (show x ∈ (List.range (e' - p')).map (fun i => T (p' + i)) from hx)
  exact hg.nods.node _ (by have := List.mem_range.1 hi; omega)

/-- A term with another one at a place. -/
theorem cat_trm {U : Nat → Int} {K q e : Nat} (hg : Trm n A m T) (hu : Trm n A K U) (hq : q < m) (he : skip (aOf A T) m q 1 = some e) (h24 : q + K + (m - e) ≤ 24) : Trm n A (q + K + (m - e)) (catU q K e T U) := by
  have hem := (skip_le he).2 (by omega)
  refine ⟨hg.sig, by have := hu.pos; omega, ⟨hg.nods.few, hg.nods.ar, h24, fun i hi => ?_⟩, cat_whole hg.whole hu.whole hq he⟩
  by_cases h1 : i < q
  · rw [catU_low h1]; exact hg.nods.node i (by omega)
  · by_cases h2 : i < q + K
    · rw [show i = q + (i - q) by omega, catU_mid (by omega)]; exact hu.nods.node _ (by omega)
    · rw [show i = q + K + (i - (q + K)) by omega, catU_high]; exact hg.nods.node _ (by omega)
end

end Go.Proofs.Ytbdgnpjbmlcchaa

/- Contracts: a term rewritten by a rule at a place, as the model does it. -/
namespace Go.Proofs.Ytbdgnpjbmlcchaa
open Go.RowKit

theorem mtB_get {A T P : Nat → Int} {m mP q : Nat} {M : Nat → List Int} (h : mtB A T P m mP q = some M) : ∃ p, mtS (aOf A T) m T P q mP = some (p, M) := by
  unfold mtB at h
  cases hs : mtS (aOf A T) m T P q mP with
  | none => rw [hs] at h; cases h
  | some s => rw [hs] at h; obtain ⟨p, M'⟩ := s; simp at h; subst h; exact ⟨p, rfl⟩

theorem mtB_inv {n : Nat} {A T P : Nat → Int} {m mP q e : Nat} {M : Nat → List Int} (hp : Trm n A mP P) (hq : skip (aOf A T) m q 1 = some e) (h : mtB A T P m mP q = some M) : ∃ p, MtI A T P m q e mP p M := by
  obtain ⟨p, hs⟩ := mtB_get h
  exact ⟨p, mt_inv hp hq mP p M (Nat.le_refl _) hs⟩

/-- The code, the number of nodes and the nodes of a term that is rewritten by the rule P to R at q, where the term there ends at e. -/
def rwC (A T : Nat → Int) (m : Nat) (P : Nat → Int) (mP : Nat) (R : Nat → Int) (mR q e : Nat) : Int := match mtB A T P m mP q with | none => 4 | some M => if 24 < q + (putL M R mR).length + (m - e) then 2 else 0
def rwK (A T : Nat → Int) (m : Nat) (P : Nat → Int) (mP : Nat) (R : Nat → Int) (mR q e : Nat) : Nat := match mtB A T P m mP q with | none => 0 | some M => q + (putL M R mR).length + (m - e)
def rwU (A T : Nat → Int) (m : Nat) (P : Nat → Int) (mP : Nat) (R : Nat → Int) (mR q e : Nat) : Nat → Int := match mtB A T P m mP q with | none => fun _ => 0 | some M => catU q (putL M R mR).length e T (fun i => (putL M R mR).getD i 0)

section
variable {n : Nat} {A T P R : Nat → Int} {m mP mR q e : Nat} {M : Nat → List Int}
theorem rw_none (h : mtB A T P m mP q = none) : rwC A T m P mP R mR q e = 4 := by simp [rwC, h]
theorem rw_some (h : mtB A T P m mP q = some M) : rwC A T m P mP R mR q e = (if 24 < q + (putL M R mR).length + (m - e) then 2 else 0) ∧ rwK A T m P mP R mR q e = q + (putL M R mR).length + (m - e) ∧ rwU A T m P mP R mR q e = catU q (putL M R mR).length e T (fun i => (putL M R mR).getD i 0) := by simp [rwC, rwK, rwU, h]

/-- What rewriting leaves is a term. -/
theorem rw_trm (hg : Trm n A m T) (hp : Trm n A mP P) (hr : Trm n A mR R) (hq : q < m) (he : skip (aOf A T) m q 1 = some e) (h : rwC A T m P mP R mR q e = 0) : Trm n A (rwK A T m P mP R mR q e) (rwU A T m P mP R mR q e) := by
  cases hm : mtB A T P m mP q with
  | none => rw [rw_none hm] at h; omega
  | some M =>
    obtain ⟨p, I⟩ := mtB_inv hp he hm
    have hem := (skip_le he).2 (by omega)
    obtain ⟨h1, h2, h3⟩ := rw_some (R := R) (mR := mR) (e := e) hm
    rw [h1] at h
    have h24 : ¬ 24 < q + (putL M R mR).length + (m - e) := by
      intro hh; rw [if_pos hh] at h; omega
    have hl := putL_len (I.len hg.nods.most hem.2) R mR
    rw [h2, h3]
    exact cat_trm hg (sub_trm hr (I.terms hg) (by omega) hl.1) hq he (by omega)
end

/-- The model's answer. -/
def RwS (w : World) (C : Int) (K : Nat) (U : Nat → Int) (e : Ending) (w' : World) : Prop :=
  (C ≠ 0 ∧ e = .returned (.tuple #[.slice none 0 0, .int .i64 C])) ∨ (C = 0 ∧ ∃ g d, e = .returned (.tuple #[.slice (some ⟨g, 0, none⟩) K d, .int .i64 0]) ∧ w.heap.size ≤ g ∧ OwnI w' w.heap.size g K d U K)

set_option maxRecDepth 20000 in
set_option maxHeartbeats 6400000 in
theorem l8Rewrite_any (Bs b off n c Er o g1 p1 mP d1 g2 p2 mR d2 b' off' m c' q e : Nat) (N : Nat → ByteArray) (A P R T : Nat → Int) (w : World) (hs : One w Bs (.slice (some ⟨b, off, none⟩) n c)) (h : Syms w b off n N A) (hr : TwoAt w Er o (.slice (some ⟨g1, p1, none⟩) mP d1) (.slice (some ⟨g2, p2, none⟩) mR d2)) (hP : Ints w g1 p1 mP P) (hR : Ints w g2 p2 mR R) (h' : Ints w b' off' m T) (hg : Trm n A m T) (hp : Trm n A mP P) (hrr : Trm n A mR R) (hq : skip (aOf A T) m q 1 = some e) (hqm : q < m) (hc : m ≤ c') :
    Calls Try.prog 44 #[.pointer (some ⟨Bs, 0, none⟩), .pointer (some ⟨Er, o, none⟩), .int .i64 (q : Int), .slice (some ⟨b', off', none⟩) m c'] w fun e' w' => RwS w (rwC A T m P mP R mR q e) (rwK A T m P mP R mR q e) (rwU A T m P mP R mR q e) e' w' ∧ Below w.heap.size w w' := by
  have hqe := (skip_le hq).2 (by omega)
  have hm24 := hg.nods.most
  have hr24 := hrr.nods.most
  have hr0 := hrr.pos
  have HS := hidden hs
  have HY := hidden h
  have HX := hidden hr
  have HR := hidden hR
  have HT := hidden h'
  have HG := hidden hg
  have HP := hidden hp
  have HRR := hidden hrr
  have HQ := hidden hq
  have S := hidden (l6Match_any Bs b off n c g1 p1 mP d1 b' off' m c' q e N A P T w hs h hP h' hg hp hq hc)
  have x0 := hr.c0
  clear hs h hr hP hR h' hg hp hrr hq
  go_enter Try.func44, Try.ntmps44
  go_wp2_with fail
  with_reducible refine S.out.mono ?_
  rintro e1 w1 ⟨ha, hb⟩
  have B1 := hidden hb
  clear hb S x0
  rcases ha with ⟨hm, rfl⟩ | ⟨M, hm, hhi, va, ta, rfl, hbd⟩
  · have HC := hidden (rw_none (R := R) (mR := mR) (e := e) hm)
    clear hm
    go_wp2
    exact bodyPost_ret (v := .tuple #[.slice none 0 0, .int .i64 4]) (by simp [results, Try.results44, go_sem]) rfl ⟨Or.inl ⟨by rw [HC.out]; decide, by rw [HC.out]⟩, keepB B1.out (alloc_below _ _)⟩
  · obtain ⟨pp, II⟩ := mtB_inv HP.out HQ.out hm
    have HC := hidden (rw_some (R := R) (mR := mR) (e := e) hm)
    have HL := hidden (II.len hm24 hqe.2)
    have HHI := hidden hhi
    obtain ⟨pa, ca, pb, cb, rfl, rfl⟩ := hbd.slices
    obtain ⟨r2, hr2⟩ : ∃ r2, r2 = cR M := ⟨_, rfl⟩
    rw [← hr2] at hbd ⊢
    have TB := hidden (Two.new w1 (.slice pa r2 ca) (.slice pb r2 cb) 92)
    have B2 := hidden (keepB B1.out (alloc_below w1 (.cells #[.slice pa r2 ca, .slice pb r2 cb] 92)))
    have BD := hidden (hbd.keep (alloc_below w1 (.cells #[.slice pa r2 ca, .slice pb r2 cb] 92)))
    have x1 := (HX.out.keep B1.out).c1
    have hlt1 := (HX.out.keep B1.out).blk
    have x2 := (HX.out.keep B2.out).c1
    have hlen := putL_len HL.out R mR
    obtain ⟨K, hK⟩ : ∃ K, K = (putL M R mR).length := ⟨_, rfl⟩
    have HK := hidden hK
    have hx : ∀ i, i < mR → -12 ≤ R i := fun i hi => by rcases nodeB_cases (HRR.out.nods.node i hi) with ⟨j, e, hj⟩ | hv <;> omega
    have S := hidden (l6Apply_bd w1.heap.size _ g2 p2 mR d2 M _ _ R _ TB.out BD.out HHI.out (HR.out.keep B2.out) hr24 hx HL.out)
    rw [← hK] at S hlen
    clear hm hbd hr2 hhi hK hx
    go_wp2_with fail
    with_reducible refine S.out.mono ?_
    rintro e1 w3 ⟨gp, dp, rfl, hop, hb⟩
    have B3 := hidden (keepB B2.out hb)
    have IP := hidden (show Ints w3 gp 0 K (fun i => (putL M R mR).getD i 0) by have := hop.ownI.ints; rw [← HK.out] at this; exact this)
    clear hb hop S TB BD x1 x2 hlt1
    go_wp2_with fail
    with_reducible refine (l3Replace8_any Bs b off n c b' off' m c' gp 0 K dp q e N A T (fun i => (putL M R mR).getD i 0) w3 (HS.out.keep B3.out) (HY.out.keep B3.out) (HT.out.keep B3.out) IP.out HG.out.nods hqm hc (by omega) HQ.out).mono ?_
    rintro e1 w4 ⟨gr, dr, rfl, hgr, hor, hb⟩
    have B4 := hidden (keepB B3.out hb)
    have OR := hidden (hor.base (B' := w.heap.size) (Nat.le_trans B3.out.size hgr))
    have GR := hidden (Nat.le_trans B3.out.size hgr)
    rw [← HK.out] at HC
    obtain ⟨KK, hKK⟩ : ∃ KK, KK = q + K + (m - e) := ⟨_, rfl⟩
    rw [← hKK] at OR HC ⊢
    clear hb hor hgr
    have hKb : KK ≤ 1000 := by omega
    have HKK := hidden hKK
    clear hKK
    by_cases h24 : 24 < KK
    · have h24' : (24 : Int) < KK := by omega
      have HC2 := hidden (HC.out.1.trans (if_pos h24))
      go_wp2
      exact bodyPost_ret (v := .tuple #[.slice none 0 0, .int .i64 2]) (by simp [results, Try.results44, go_sem]) rfl ⟨Or.inl ⟨by rw [HC2.out]; decide, by rw [HC2.out]⟩, B4.out⟩
    · have h24' : ¬ (24 : Int) < KK := by omega
      have HC2 := hidden (HC.out.1.trans (if_neg h24))
      go_wp2
      exact bodyPost_ret (v := .tuple #[.slice (some ⟨gr, 0, none⟩) KK dr, .int .i64 0]) (by simp [results, Try.results44, go_sem]) rfl ⟨Or.inr ⟨HC2.out, gr, dr, by rw [HC.out.2.1], GR.out, by rw [HC.out.2.1, HC.out.2.2]; exact OR.out⟩, B4.out⟩

end Go.Proofs.Ytbdgnpjbmlcchaa

/- Contract: a term rewritten by a rule at a place, as the program does it. -/
namespace Go.Proofs.Ytbdgnpjbmlcchaa
open Go.RowKit

/-- Twelve values by their numbers. -/
def twelve (x0 x1 x2 x3 x4 x5 x6 x7 x8 x9 x10 x11 : Value) : Nat → Value := fun i => match i with | 0 => x0 | 1 => x1 | 2 => x2 | 3 => x3 | 4 => x4 | 5 => x5 | 6 => x6 | 7 => x7 | 8 => x8 | 9 => x9 | 10 => x10 | _ => x11

theorem lF_of {n : Nat} {A : Nat → Int} {m : Nat} {T : Nat → Int} (h : Trm n A m T) : lF n A m T = 0 := lF_ok (by have := h.pos; have := h.nods.most; omega) h.nods.node h.whole

theorem twelve_eq {V : Nat → Value} {x0 x1 x2 x3 x4 x5 x6 x7 x8 x9 x10 x11 : Value} (h : V 0 = x0 ∧ V 1 = x1 ∧ V 2 = x2 ∧ V 3 = x3 ∧ V 4 = x4 ∧ V 5 = x5 ∧ V 6 = x6 ∧ V 7 = x7 ∧ V 8 = x8 ∧ V 9 = x9 ∧ V 10 = x10 ∧ V 11 = x11) : ∀ v, v < 12 → twelve x0 x1 x2 x3 x4 x5 x6 x7 x8 x9 x10 x11 v = V v := by
  obtain ⟨h0, h1, h2, h3, h4, h5, h6, h7, h8, h9, h10, h11⟩ := h
  intro v hv
  match v, hv with
  | 0, _ => exact h0.symm
  | 1, _ => exact h1.symm
  | 2, _ => exact h2.symm
  | 3, _ => exact h3.symm
  | 4, _ => exact h4.symm
  | 5, _ => exact h5.symm
  | 6, _ => exact h6.symm
  | 7, _ => exact h7.symm
  | 8, _ => exact h8.symm
  | 9, _ => exact h9.symm
  | 10, _ => exact h10.symm
  | 11, _ => exact h11.symm
  | j + 12, hj => omega

theorem Pts.congr {w : World} {X : Nat} {V V' : Nat → Value} (h : Pts w X V) (he : ∀ v, v < 12 → V v = V' v) : Pts w X V' :=
  ⟨h.blk, fun v hv => by rw [← he v hv]; exact h.cell v hv, h.frz⟩

theorem Pts.all {w : World} {X : Nat} {V : Nat → Value} (h : Pts w X V) (x0 x1 x2 x3 x4 x5 x6 x7 x8 x9 x10 x11 : Value) : Pts ((((((((((((w.setCell ⟨X, 0, none⟩ x0).setCell ⟨X, 1, none⟩ x1).setCell ⟨X, 2, none⟩ x2).setCell ⟨X, 3, none⟩ x3).setCell ⟨X, 4, none⟩ x4).setCell ⟨X, 5, none⟩ x5).setCell ⟨X, 6, none⟩ x6).setCell ⟨X, 7, none⟩ x7).setCell ⟨X, 8, none⟩ x8).setCell ⟨X, 9, none⟩ x9).setCell ⟨X, 10, none⟩ x10).setCell ⟨X, 11, none⟩ x11) X (twelve x0 x1 x2 x3 x4 x5 x6 x7 x8 x9 x10 x11) := by
  refine ((((((((((((h.set (v := 0) (by omega) x0).set (v := 1) (by omega) x1).set (v := 2) (by omega) x2).set (v := 3) (by omega) x3).set (v := 4) (by omega) x4).set (v := 5) (by omega) x5).set (v := 6) (by omega) x6).set (v := 7) (by omega) x7).set (v := 8) (by omega) x8).set (v := 9) (by omega) x9).set (v := 10) (by omega) x10).set (v := 11) (by omega) x11).congr (fun v hv => ?_)
  match v, hv with
  | 0, _ => rfl
  | 1, _ => rfl
  | 2, _ => rfl
  | 3, _ => rfl
  | 4, _ => rfl
  | 5, _ => rfl
  | 6, _ => rfl
  | 7, _ => rfl
  | 8, _ => rfl
  | 9, _ => rfl
  | 10, _ => rfl
  | 11, _ => rfl
  | j + 12, hj => omega

/-- A block that holds twelve values. -/
theorem Pts.ofHeap {w : World} {X : Nat} {cs : Array Value} {t : TypeId} {V : Nat → Value} (h : w.heap[X]? = some (.cells cs t (0, 0))) (hV : ∀ v, v < 12 → cs[v]? = some (V v)) : Pts w X V := by
  refine ⟨(Array.getElem?_eq_some_iff.1 h).1, fun v hv => ?_, fun v hv => ?_⟩
  · have := hV v hv
    simp [World.cell?, h, this]
  · simp [World.frozen?, h]

theorem setAll_below {w0 w : World} {X : Nat} (hb : Below w0.heap.size w0 w) (hX : w0.heap.size ≤ X) (x0 x1 x2 x3 x4 x5 x6 x7 x8 x9 x10 x11 : Value) : Below w0.heap.size w0 ((((((((((((w.setCell ⟨X, 0, none⟩ x0).setCell ⟨X, 1, none⟩ x1).setCell ⟨X, 2, none⟩ x2).setCell ⟨X, 3, none⟩ x3).setCell ⟨X, 4, none⟩ x4).setCell ⟨X, 5, none⟩ x5).setCell ⟨X, 6, none⟩ x6).setCell ⟨X, 7, none⟩ x7).setCell ⟨X, 8, none⟩ x8).setCell ⟨X, 9, none⟩ x9).setCell ⟨X, 10, none⟩ x10).setCell ⟨X, 11, none⟩ x11) :=
  (((((((((((hb.setCell hX _).setCell hX _).setCell hX _).setCell hX _).setCell hX _).setCell hX _).setCell hX _).setCell hX _).setCell hX _).setCell hX _).setCell hX _).setCell hX _

theorem PtV.back {w w' : World} {b' : Nat} {M : Nat → List Int} {V : Nat → Value} (h : PtV w' b' M V) (hb : Below w.heap.size w w') (hl : b' < w.heap.size) : PtV w b' M V := fun v hv => by
  obtain ⟨p, c, e, hp⟩ := h v hv
  exact ⟨p, c, e, hp.imp id fun ⟨o, h1, h2⟩ => ⟨o, h1, fun _ => hl, fun i hi => by rw [← (bcell hb).1 _ _ hl]; exact h2.cell i hi⟩⟩

set_option maxRecDepth 20000 in
theorem enters_rw : Enters 66 := fun _ _ => rfl

set_option maxRecDepth 20000 in
set_option maxHeartbeats 400000 in
theorem there1_any (X b' : Nat) (M : Nat → List Int) (V : Nat → Value) (v : Nat) (w : World) (h : Pts w X V) (hp : PtV w b' M V) (hv : v < 12) :
    Calls Try.prog 66 #[.int .i64 (v : Int), .pointer (some ⟨X, 0, none⟩)] w fun e w' => (∃ p c, e = .returned (.slice p (M v).length c) ∧ ((M v).length = 0 ∨ ∃ b off, p = some ⟨b, off, none⟩ ∧ Ints w' b off (M v).length (fun i => (M v).getD i 0))) ∧ Below w.heap.size w w' := by
  obtain ⟨p, c, e, hq⟩ := hp v hv
  have c0 := h.cell v hv
  rw [e] at c0
  have HQ := hidden hq
  obtain ⟨l, hl⟩ : ∃ l, l = (M v).length := ⟨_, rfl⟩
  have HL := hidden hl
  rw [← hl] at c0
  clear h hp e hq hl
  go_enter Try.func66, Try.ntmps66
  go_wp2
  go_ret
  refine ⟨⟨p, c, by rw [← HL.out]; rfl, ?_⟩, Below.refl _ _⟩
  rcases HQ.out with h0 | ⟨o, rfl, hi⟩
  · exact Or.inl (by rw [h0]; rfl)
  · exact Or.inr ⟨b', o, rfl, hi⟩

theorem there1_mean (X b' : Nat) (M : Nat → List Int) (V : Nat → Value) (w : World) (h : Pts w X V) (hp : PtV w b' M V) : Mean 66 #[.pointer (some ⟨X, 0, none⟩)] M w :=
  ⟨enters_rw, fun v w1 hv hb => there1_any X b' M V v w1 (h.keep hb) (hp.keep hb) hv⟩

end Go.Proofs.Ytbdgnpjbmlcchaa

/- Contract: a term rewritten by a rule at a place, as the program does it. -/
namespace Go.Proofs.Ytbdgnpjbmlcchaa
open Go.RowKit

set_option maxRecDepth 20000 in
set_option maxHeartbeats 12800000 in
theorem rewriteThere_any (b off n c g1 p1 mP d1 g2 p2 mR d2 b' off' m c' q e : Nat) (N : Nat → ByteArray) (A P R T : Nat → Int) (w : World) (h : Syms w b off n N A) (hP : Ints w g1 p1 mP P) (hR : Ints w g2 p2 mR R) (h' : Ints w b' off' m T) (hk : Kept n N A) (hf : faultF n N A = 0) (hg : Trm n A m T) (hp : Trm n A mP P) (hrr : Trm n A mR R) (hq : skip (aOf A T) m q 1 = some e) (hqm : q < m) (hc : m ≤ c') :
    Calls Try.prog 50 #[.agg #[.slice (some ⟨b, off, none⟩) n c], .agg #[.slice (some ⟨g1, p1, none⟩) mP d1, .slice (some ⟨g2, p2, none⟩) mR d2], .slice (some ⟨b', off', none⟩) m c', .int .i64 (q : Int)] w fun e' w' => ListAns w (rwC A T m P mP R mR q e) (rwK A T m P mP R mR q e) (rwU A T m P mP R mR q e) e' w' ∧ Below w.heap.size w w' := by
  have hqe := (skip_le hq).2 (by omega)
  have hm24 := hg.nods.most
  have hr24 := hrr.nods.most
  have hr0 := hrr.pos
  have z0 := One.new w (.slice (some ⟨b, off, none⟩) n c) 34
  have b0 := alloc_below w (.cells #[.slice (some ⟨b, off, none⟩) n c] 34)
  obtain ⟨wa, hwa⟩ : ∃ wa, wa = w.alloc (.cells #[.slice (some ⟨b, off, none⟩) n c] 34) := ⟨_, rfl⟩
  have sa : wa.heap.size = w.heap.size + 1 := by rw [hwa]; simp
  rw [← hwa] at z0 b0
  have z1 := Two.new wa (.slice (some ⟨g1, p1, none⟩) mP d1) (.slice (some ⟨g2, p2, none⟩) mR d2) 56
  have b1 := alloc_below wa (.cells #[.slice (some ⟨g1, p1, none⟩) mP d1, .slice (some ⟨g2, p2, none⟩) mR d2] 56)
  obtain ⟨wb, hwb⟩ : ∃ wb, wb = wa.alloc (.cells #[.slice (some ⟨g1, p1, none⟩) mP d1, .slice (some ⟨g2, p2, none⟩) mR d2] 56) := ⟨_, rfl⟩
  have sb : wb.heap.size = w.heap.size + 1 + 1 := by rw [hwb]; simp [sa]
  rw [← hwb] at z1 b1
  rw [sa] at z1
  have z2 := Own2.new wb (.int .i64 0) (.slice none 0 0) 85
  have b2 := alloc_below wb (.cells #[.int .i64 0, .slice none 0 0] 85)
  obtain ⟨w0, hw0⟩ : ∃ w0, w0 = wb.alloc (.cells #[.int .i64 0, .slice none 0 0] 85) := ⟨_, rfl⟩
  have s0 : w0.heap.size = w.heap.size + 1 + 1 + 1 := by rw [hw0]; simp [sb]
  rw [← hw0] at z2 b2
  rw [sb] at z2
  have SG := hidden ((z0.keep b1).keep b2)
  have RL := hidden (z1.keep b2)
  have RS := hidden z2
  have B := hidden (keepB (keepB b0 b1) b2)
  have SZ := hidden s0
  have HS := hidden (h.keep B.out)
  have HR := hidden (hR.keep B.out)
  have HT := hidden (h'.keep B.out)
  have HPI := hidden (hP.keep B.out)
  have HK := hidden hk
  have HF := hidden hf
  have HG := hidden hg
  have HPT := hidden hp
  have HRR := hidden hrr
  have HQ := hidden hq
  have hbl : b' < w0.heap.size := HT.out.blk (by omega)
  have HMN := hidden (manyN_some hq)
  have CK := hidden (show ∀ w', Below w0.heap.size w0 w' → (w'.cell? ⟨w.heap.size, 0, none⟩ = some (.slice (some ⟨b, off, none⟩) n c) ∧ w'.cell? ⟨w.heap.size + 1, 0, none⟩ = some (.slice (some ⟨g1, p1, none⟩) mP d1)) from fun w' hb => ⟨(SG.out.keep hb).c0, (RL.out.keep hb).c0⟩)
  have SC1 := hidden (show ∀ wd, Below w0.heap.size w0 wd → Calls Try.prog 63 #[.agg #[.slice (some ⟨b, off, none⟩) n c], .slice (some ⟨b', off', none⟩) m c', .int .i64 (q : Int)] wd fun e' w' => e' = .returned (.slice (some ⟨b', off' + q, none⟩) (e - q) (c' - q)) ∧ Below w0.heap.size w0 w' ∧ Below wd.heap.size wd w' from fun wd hd => by
    refine (termThere_any b off n c b' off' m c' q N A T wd (HS.out.keep hd) (HT.out.keep hd) HG.out hqm hc).mono ?_
    rintro e' w' ⟨rfl, hb⟩
    exact ⟨by rw [HMN.out], keepB hd hb, hb⟩)
  have SC2 := hidden (show ∀ wd, Below w0.heap.size w0 wd → Calls Try.prog 64 #[.agg #[.slice (some ⟨b, off, none⟩) n c], .slice (some ⟨g1, p1, none⟩) mP d1, .slice (some ⟨b', off' + q, none⟩) (e - q) (c' - q)] wd fun e' w' => ∃ V r, e' = .returned (.tuple #[arr12 V, .bool r]) ∧ SlV V ∧ Hid ((r = false ∧ mtB A T P m mP q = none) ∨ (r = true ∧ ∃ M, mtB A T P m mP q = some M ∧ PtV w0 b' M V)) ∧ Below w0.heap.size w0 w' ∧ Below wd.heap.size wd w' from fun wd hd => by
    refine (matchedParts_any b off n c g1 p1 mP d1 b' off' m (c' - q) q e N A P T wd (HS.out.keep hd) (HPI.out.keep hd) (HT.out.keep hd) HG.out HPT.out HQ.out (by omega)).mono ?_
    rintro e' w' ⟨ha, hb⟩
    rcases ha with ⟨hm, V, rfl, hsl⟩ | ⟨M, hm, V, rfl, hpt⟩
    · exact ⟨V, false, rfl, hsl, hidden (Or.inl ⟨rfl, hm⟩), keepB hd hb, hb⟩
    · exact ⟨V, true, rfl, fun v hv => (by obtain ⟨p, c, e, _⟩ := hpt v hv; exact ⟨p, _, c, e⟩), hidden (Or.inr ⟨rfl, M, hm, hpt.back (keepB hd hb) hbl⟩), keepB hd hb, hb⟩)
  have hmf : ∀ (fn : Fn) (first cap : Array Value) (w : World), (Instr.makeFunc fn first cap).run Try.prog w = .ok (.func fn first cap) w := fun _ _ _ _ => rfl
  have hw2 : w0 = ((w.alloc (.cells #[.slice (some ⟨b, off, none⟩) n c] 34)).alloc (.cells #[.slice (some ⟨g1, p1, none⟩) mP d1, .slice (some ⟨g2, p2, none⟩) mR d2] 56)).alloc (.cells #[.int .i64 0, .slice none 0 0] 85) := by rw [hw0, hwb, hwa]
  clear h hP hR h' hk hf hg hp hrr hq z0 z1 z2 b0 b1 b2 sa sb s0 hwa hwb hw0
  go_enter Try.func50, Try.ntmps50
  go_wp2
  rw [← hw2]
  clear hw2 wa wb
  go_cut [9, 10] (fun t9 t10 wc => ∃ (X : Nat) (V : Nat → Value) (rr : Bool), t9 = .pointer (some ⟨X, 0, none⟩) ∧ t10 = .bool rr ∧ Hid (w0.heap.size ≤ X ∧ Pts wc X V ∧ Below w0.heap.size w0 wc ∧ ((rr = false ∧ mtB A T P m mP q = none) ∨ (rr = true ∧ ∃ M, mtB A T P m mP q = some M ∧ PtV w0 b' M V))))
  case first =>
    refine wp_region_held_drew (S := fun wz => wz.cell? ⟨w.heap.size, 0, none⟩ = some (.slice (some ⟨b, off, none⟩) n c) ∧ wz.cell? ⟨w.heap.size + 1, 0, none⟩ = some (.slice (some ⟨g1, p1, none⟩) mP d1)) (by kernel_rfl) (CK.out _ (Below.refl _ _).drew) (fun hHeld => ?_)
    have bb := (Below.refl w0.heap.size w0).drew
    refine wpAnyH_take (i := 0) (oi := { dst := some 13, op := Op.load 34 (Operand.tmp 4), type := 34, pos := "l08_rewrite.go:87", after := #[], guard := none }) (v := ?_) rfl (by kernel_rfl) (by kernel_rfl) (by kernel_rfl) (fun _ _ _ h => h) (Or.inl ⟨by rfl, ?_⟩) (by assumption) ?_
    rotate_left
    · (intro wv hSw; (try dsimp only at hSw); go_simp; try with_reducible rfl)
    try simp only [Act.put, List.setIfInBounds_toArray, List.set_cons_zero, List.set_cons_succ]
    refine wpAnyH_take (i := 1) (oi := { dst := some 14, op := Op.fieldAddr 56 (Operand.tmp 5) 0, type := 0, pos := "l08_rewrite.go:87", after := #[], guard := none }) (v := ?_) rfl (by kernel_rfl) (by kernel_rfl) (by kernel_rfl) (fun _ _ _ h => h) (Or.inl ⟨by rfl, ?_⟩) (by assumption) ?_
    rotate_left
    · (intro wv hSw; (try dsimp only at hSw); go_simp; try with_reducible rfl)
    try simp only [Act.put, List.setIfInBounds_toArray, List.set_cons_zero, List.set_cons_succ]
    refine wpAnyH_take (i := 2) (oi := { dst := some 15, op := Op.load 26 (Operand.tmp 14), type := 26, pos := "l08_rewrite.go:87", after := #[{ on := 1, ground := Ground.data }], guard := none }) (v := ?_) rfl (by kernel_rfl) (by kernel_rfl) (by kernel_rfl) (fun _ _ _ h => h) (Or.inl ⟨by rfl, ?_⟩) (by assumption) ?_
    rotate_left
    · (intro wv hSw; (try dsimp only at hSw); go_simp; try with_reducible rfl)
    try simp only [Act.put, List.setIfInBounds_toArray, List.set_cons_zero, List.set_cons_succ]
    refine wpAnyH_take (i := 3) (oi := { dst := some 16, op := Op.load 34 (Operand.tmp 4), type := 34, pos := "l08_rewrite.go:87", after := #[], guard := none }) (v := ?_) rfl (by kernel_rfl) (by kernel_rfl) (by kernel_rfl) (fun _ _ _ h => h) (Or.inl ⟨by rfl, ?_⟩) (by assumption) ?_
    rotate_left
    · (intro wv hSw; (try dsimp only at hSw); go_simp; try with_reducible rfl)
    try simp only [Act.put, List.setIfInBounds_toArray, List.set_cons_zero, List.set_cons_succ]
    refine wpAnyH_take (i := 4) (oi := { dst := some 17, op := Op.move (Operand.tmp 2), type := 26, pos := "l08_rewrite.go:87", after := #[], guard := none }) (v := ?_) rfl (by kernel_rfl) (by kernel_rfl) (by kernel_rfl) (fun _ _ _ h => h) (Or.inl ⟨by rfl, ?_⟩) (by assumption) ?_
    rotate_left
    · (intro wv hSw; (try dsimp only at hSw); go_simp; try with_reducible rfl)
    try simp only [Act.put, List.setIfInBounds_toArray, List.set_cons_zero, List.set_cons_succ]
    refine wpAnyH_take (i := 5) (oi := { dst := some 18, op := Op.move (Operand.tmp 3), type := 2, pos := "l08_rewrite.go:87", after := #[], guard := none }) (v := ?_) rfl (by kernel_rfl) (by kernel_rfl) (by kernel_rfl) (fun _ _ _ h => h) (Or.inl ⟨by rfl, ?_⟩) (by assumption) ?_
    rotate_left
    · (intro wv hSw; (try dsimp only at hSw); go_simp; try with_reducible rfl)
    try simp only [Act.put, List.setIfInBounds_toArray, List.set_cons_zero, List.set_cons_succ]
    refine wpAnyH_ready (rs := [6, 11]) (by kernel_rfl) (by simp) ?_
    refine AllReadyH.cons (o := { dst := some 19, op := Op.call { callee := Callee.value (Operand.func 63), args := #[Operand.tmp 16, Operand.tmp 17, Operand.tmp 18], argTypes := #[34, 26, 2] }, type := 26, pos := "l08_rewrite.go:87", after := #[{ on := 3, ground := Ground.data }, { on := 4, ground := Ground.data }, { on := 5, ground := Ground.data }], guard := none }) rfl (fun K hK => ?_) (AllReadyH.cons (o := { dst := some 9, op := Op.alloc 102, type := 0, pos := "l08_rewrite.go:87", after := #[], guard := none }) rfl (fun K hK => ?_) AllReadyH.nil)
    · go_simp
      go_at_call 63; with_reducible refine (SC1.out _ bb).mono ?_; rintro e v1 ⟨rfl, bb', hb5⟩
      try go_wp2_with fail
      refine hK.out _ _ (CK.out _ bb') (fun hHeld => ?_)
      clear hK K
      clear bb hb5
      have bb := bb'
      clear bb'
      try simp only [Act.put, List.setIfInBounds_toArray, List.set_cons_zero, List.set_cons_succ]
      refine wpAnyH_ready (rs := [7, 11]) (by kernel_rfl) (by simp) ?_
      refine AllReadyH.cons (o := { dst := some 20, op := Op.call { callee := Callee.value (Operand.func 64), args := #[Operand.tmp 13, Operand.tmp 15, Operand.tmp 19], argTypes := #[34, 26, 26] }, type := 103, pos := "l08_rewrite.go:87", after := #[{ on := 0, ground := Ground.data }, { on := 2, ground := Ground.data }, { on := 6, ground := Ground.data }, { on := 6, ground := Ground.chain }], guard := none }) rfl (fun K hK => ?_) (AllReadyH.cons (o := { dst := some 9, op := Op.alloc 102, type := 0, pos := "l08_rewrite.go:87", after := #[], guard := none }) rfl (fun K hK => ?_) AllReadyH.nil)
      · go_simp
        go_at_call 64; with_reducible refine (SC2.out _ bb).mono ?_; rintro e v2 ⟨V, rr, rfl, hsl, HM, bb', hb5⟩
        try go_wp2_with fail
        unfold arr12
        obtain ⟨vp0, vl0, vc0, ve0⟩ := hsl 0 (by omega)
        obtain ⟨vp1, vl1, vc1, ve1⟩ := hsl 1 (by omega)
        obtain ⟨vp2, vl2, vc2, ve2⟩ := hsl 2 (by omega)
        obtain ⟨vp3, vl3, vc3, ve3⟩ := hsl 3 (by omega)
        obtain ⟨vp4, vl4, vc4, ve4⟩ := hsl 4 (by omega)
        obtain ⟨vp5, vl5, vc5, ve5⟩ := hsl 5 (by omega)
        obtain ⟨vp6, vl6, vc6, ve6⟩ := hsl 6 (by omega)
        obtain ⟨vp7, vl7, vc7, ve7⟩ := hsl 7 (by omega)
        obtain ⟨vp8, vl8, vc8, ve8⟩ := hsl 8 (by omega)
        obtain ⟨vp9, vl9, vc9, ve9⟩ := hsl 9 (by omega)
        obtain ⟨vp10, vl10, vc10, ve10⟩ := hsl 10 (by omega)
        obtain ⟨vp11, vl11, vc11, ve11⟩ := hsl 11 (by omega)
        rw [ve0, ve1, ve2, ve3, ve4, ve5, ve6, ve7, ve8, ve9, ve10, ve11]
        have VE := hidden (And.intro ve0 (And.intro ve1 (And.intro ve2 (And.intro ve3 (And.intro ve4 (And.intro ve5 (And.intro ve6 (And.intro ve7 (And.intro ve8 (And.intro ve9 (And.intro ve10 ve11)))))))))))
        clear ve0 ve1 ve2 ve3 ve4 ve5 ve6 ve7 ve8 ve9 ve10 ve11
        refine hK.out _ _ (CK.out _ bb') (fun hHeld => ?_)
        clear hK K
        clear bb hb5
        have bb := bb'
        clear bb'
        try simp only [Act.put, List.setIfInBounds_toArray, List.set_cons_zero, List.set_cons_succ]
        refine wpAnyH_take (i := 8) (oi := { dst := some 12, op := Op.move (Operand.tmp 20), type := 103, pos := "l08_rewrite.go:87", after := #[{ on := 7, ground := Ground.data }], guard := none }) (v := ?_) rfl (by kernel_rfl) (by kernel_rfl) (by kernel_rfl) (fun _ _ _ h => h) (Or.inl ⟨by rfl, ?_⟩) (by assumption) ?_
        rotate_left
        · (intro wv hSw; (try dsimp only at hSw); go_simp; try with_reducible rfl)
        try simp only [Act.put, List.setIfInBounds_toArray, List.set_cons_zero, List.set_cons_succ]
        refine wpAnyH_take (i := 9) (oi := { dst := some 21, op := Op.extract (Operand.tmp 12) 0, type := 102, pos := "l08_rewrite.go:87", after := #[{ on := 8, ground := Ground.data }], guard := none }) (v := ?_) rfl (by kernel_rfl) (by kernel_rfl) (by kernel_rfl) (fun _ _ _ h => h) (Or.inl ⟨by rfl, ?_⟩) (by assumption) ?_
        rotate_left
        · (intro wv hSw; (try dsimp only at hSw); go_simp; try with_reducible rfl)
        try simp only [Act.put, List.setIfInBounds_toArray, List.set_cons_zero, List.set_cons_succ]
        refine wpAnyH_take (i := 10) (oi := { dst := some 22, op := Op.extract (Operand.tmp 12) 1, type := 4, pos := "l08_rewrite.go:87", after := #[{ on := 8, ground := Ground.data }, { on := 12, ground := Ground.gcOnly Departure.lateStores }], guard := none }) (v := ?_) rfl (by kernel_rfl) (by kernel_rfl) (by kernel_rfl) (fun _ _ _ h => h) (Or.inl ⟨by rfl, ?_⟩) (by assumption) ?_
        rotate_left
        · (intro wv hSw; (try dsimp only at hSw); go_simp; try with_reducible rfl)
        try simp only [Act.put, List.setIfInBounds_toArray, List.set_cons_zero, List.set_cons_succ]
        refine wpAnyH_ready (rs := [11]) (by kernel_rfl) (by simp) ?_
        refine AllReadyH.cons (o := { dst := some 9, op := Op.alloc 102, type := 0, pos := "l08_rewrite.go:87", after := #[], guard := none }) rfl (fun K hK => ?_) AllReadyH.nil
        go_simp
        have RR := hidden (heap_alloc_last v2 (.cells #[.slice none 0 0, .slice none 0 0, .slice none 0 0, .slice none 0 0, .slice none 0 0, .slice none 0 0, .slice none 0 0, .slice none 0 0, .slice none 0 0, .slice none 0 0, .slice none 0 0, .slice none 0 0] 102))
        have hX0 := bb.size
        refine hK.out _ _ (CK.out _ (keepB bb (alloc_below _ _))) (fun hHeld => ?_)
        clear hK K
        have bbn := keepB bb (alloc_below _ (.cells #[.slice none 0 0, .slice none 0 0, .slice none 0 0, .slice none 0 0, .slice none 0 0, .slice none 0 0, .slice none 0 0, .slice none 0 0, .slice none 0 0, .slice none 0 0, .slice none 0 0, .slice none 0 0] 102))
        clear bb
        have bb := bbn
        clear bbn
        try simp only [Act.put, List.setIfInBounds_toArray, List.set_cons_zero, List.set_cons_succ]
        refine wpAnyH_ready (rs := [12]) (by kernel_rfl) (by simp) ?_
        refine AllReadyH.cons (o := { dst := none, op := Op.store 102 (Operand.tmp 9) (Operand.tmp 21), type := 0, pos := "l08_rewrite.go:87", after := #[{ on := 11, ground := Ground.data }, { on := 9, ground := Ground.data }, { on := 7, ground := Ground.chain }, { on := 0, ground := Ground.phase }, { on := 1, ground := Ground.phase }, { on := 2, ground := Ground.phase }, { on := 3, ground := Ground.phase }, { on := 4, ground := Ground.phase }, { on := 5, ground := Ground.phase }, { on := 6, ground := Ground.phase }, { on := 7, ground := Ground.phase }, { on := 8, ground := Ground.phase }, { on := 9, ground := Ground.phase }, { on := 10, ground := Ground.textOnly Departure.lateStores }, { on := 11, ground := Ground.phase }], guard := none }) rfl (fun K hK => ?_) AllReadyH.nil
        rw [if_pos (by rfl)]
        refine wp_store_row 102 _ _ rfl _ #[.slice vp0 vl0 vc0, .slice vp1 vl1 vc1, .slice vp2 vl2 vc2, .slice vp3 vl3 vc3, .slice vp4 vl4 vc4, .slice vp5 vl5 vc5, .slice vp6 vl6 vc6, .slice vp7 vl7 vc7, .slice vp8 vl8 vc8, .slice vp9 vl9 vc9, .slice vp10 vl10 vc10, .slice vp11 vl11 vc11] rfl rfl 102 _ RR.out (by kernel_rfl) rfl (by kernel_rfl) ?_
        have RF := hidden (Pts.ofHeap (V := twelve (.slice vp0 vl0 vc0) (.slice vp1 vl1 vc1) (.slice vp2 vl2 vc2) (.slice vp3 vl3 vc3) (.slice vp4 vl4 vc4) (.slice vp5 vl5 vc5) (.slice vp6 vl6 vc6) (.slice vp7 vl7 vc7) (.slice vp8 vl8 vc8) (.slice vp9 vl9 vc9) (.slice vp10 vl10 vc10) (.slice vp11 vl11 vc11)) (setRow_heap _ _ _ #[.slice vp0 vl0 vc0, .slice vp1 vl1 vc1, .slice vp2 vl2 vc2, .slice vp3 vl3 vc3, .slice vp4 vl4 vc4, .slice vp5 vl5 vc5, .slice vp6 vl6 vc6, .slice vp7 vl7 vc7, .slice vp8 vl8 vc8, .slice vp9 vl9 vc9, .slice vp10 vl10 vc10, .slice vp11 vl11 vc11] _ _ RR.out) (fun v hv => by match v, hv with | 0, _ => rfl | 1, _ => rfl | 2, _ => rfl | 3, _ => rfl | 4, _ => rfl | 5, _ => rfl | 6, _ => rfl | 7, _ => rfl | 8, _ => rfl | 9, _ => rfl | 10, _ => rfl | 11, _ => rfl | j + 12, hj => omega))
        have BF := hidden (below_setRow bb hX0 #[.slice vp0 vl0 vc0, .slice vp1 vl1 vc1, .slice vp2 vl2 vc2, .slice vp3 vl3 vc3, .slice vp4 vl4 vc4, .slice vp5 vl5 vc5, .slice vp6 vl6 vc6, .slice vp7 vl7 vc7, .slice vp8 vl8 vc8, .slice vp9 vl9 vc9, .slice vp10 vl10 vc10, .slice vp11 vl11 vc11])
        clear RR
        refine hK.out _ _ (CK.out _ BF.out) (fun hHeld => ?_)
        clear hK K
        try simp only [Act.put]
        refine wpAnyH_ready (rs := [13]) (by kernel_rfl) (by simp) ?_
        refine AllReadyH.cons (o := { dst := some 10, op := Op.assign (Operand.tmp 22), type := 4, pos := "l08_rewrite.go:87", after := #[{ on := 10, ground := Ground.data }, { on := 12, ground := Ground.chain }, { on := 0, ground := Ground.phase }, { on := 1, ground := Ground.phase }, { on := 2, ground := Ground.phase }, { on := 3, ground := Ground.phase }, { on := 4, ground := Ground.phase }, { on := 5, ground := Ground.phase }, { on := 6, ground := Ground.phase }, { on := 7, ground := Ground.phase }, { on := 8, ground := Ground.phase }, { on := 9, ground := Ground.phase }, { on := 10, ground := Ground.phase }, { on := 11, ground := Ground.phase }, { on := 12, ground := Ground.phase }], guard := none }) rfl (fun K hK => ?_) AllReadyH.nil
        go_simp
        refine hK.out _ _ (CK.out _ BF.out) (fun hHeld => ?_)
        clear hK K
        try simp only [Act.put, List.setIfInBounds_toArray, List.set_cons_zero, List.set_cons_succ]
        refine wpAnyH_done (by kernel_rfl) ?_ _
        go_wp2_with fail
        go_meet
        exact ⟨_, V, rr, rfl, rfl, hidden ⟨hX0, RF.out.congr (twelve_eq VE.out), BF.out, HM.out⟩⟩
      · go_simp
        have RR := hidden (heap_alloc_last v1 (.cells #[.slice none 0 0, .slice none 0 0, .slice none 0 0, .slice none 0 0, .slice none 0 0, .slice none 0 0, .slice none 0 0, .slice none 0 0, .slice none 0 0, .slice none 0 0, .slice none 0 0, .slice none 0 0] 102))
        have hX0 := bb.size
        refine hK.out _ _ (CK.out _ (keepB bb (alloc_below _ _))) (fun hHeld => ?_)
        clear hK K
        have bbn := keepB bb (alloc_below _ (.cells #[.slice none 0 0, .slice none 0 0, .slice none 0 0, .slice none 0 0, .slice none 0 0, .slice none 0 0, .slice none 0 0, .slice none 0 0, .slice none 0 0, .slice none 0 0, .slice none 0 0, .slice none 0 0] 102))
        clear bb
        have bb := bbn
        clear bbn
        try simp only [Act.put, List.setIfInBounds_toArray, List.set_cons_zero, List.set_cons_succ]
        refine wpAnyH_ready (rs := [7]) (by kernel_rfl) (by simp) ?_
        refine AllReadyH.cons (o := { dst := some 20, op := Op.call { callee := Callee.value (Operand.func 64), args := #[Operand.tmp 13, Operand.tmp 15, Operand.tmp 19], argTypes := #[34, 26, 26] }, type := 103, pos := "l08_rewrite.go:87", after := #[{ on := 0, ground := Ground.data }, { on := 2, ground := Ground.data }, { on := 6, ground := Ground.data }, { on := 6, ground := Ground.chain }], guard := none }) rfl (fun K hK => ?_) AllReadyH.nil
        go_simp
        go_at_call 64; with_reducible refine (SC2.out _ bb).mono ?_; rintro e v2 ⟨V, rr, rfl, hsl, HM, bb', hb5⟩
        try go_wp2_with fail
        unfold arr12
        obtain ⟨vp0, vl0, vc0, ve0⟩ := hsl 0 (by omega)
        obtain ⟨vp1, vl1, vc1, ve1⟩ := hsl 1 (by omega)
        obtain ⟨vp2, vl2, vc2, ve2⟩ := hsl 2 (by omega)
        obtain ⟨vp3, vl3, vc3, ve3⟩ := hsl 3 (by omega)
        obtain ⟨vp4, vl4, vc4, ve4⟩ := hsl 4 (by omega)
        obtain ⟨vp5, vl5, vc5, ve5⟩ := hsl 5 (by omega)
        obtain ⟨vp6, vl6, vc6, ve6⟩ := hsl 6 (by omega)
        obtain ⟨vp7, vl7, vc7, ve7⟩ := hsl 7 (by omega)
        obtain ⟨vp8, vl8, vc8, ve8⟩ := hsl 8 (by omega)
        obtain ⟨vp9, vl9, vc9, ve9⟩ := hsl 9 (by omega)
        obtain ⟨vp10, vl10, vc10, ve10⟩ := hsl 10 (by omega)
        obtain ⟨vp11, vl11, vc11, ve11⟩ := hsl 11 (by omega)
        rw [ve0, ve1, ve2, ve3, ve4, ve5, ve6, ve7, ve8, ve9, ve10, ve11]
        have VE := hidden (And.intro ve0 (And.intro ve1 (And.intro ve2 (And.intro ve3 (And.intro ve4 (And.intro ve5 (And.intro ve6 (And.intro ve7 (And.intro ve8 (And.intro ve9 (And.intro ve10 ve11)))))))))))
        clear ve0 ve1 ve2 ve3 ve4 ve5 ve6 ve7 ve8 ve9 ve10 ve11
        refine hK.out _ _ (CK.out _ bb') (fun hHeld => ?_)
        clear hK K
        replace RR := hidden ((hb5.block _ (Array.getElem?_eq_some_iff.1 RR.out).1).trans RR.out)
        clear bb hb5
        have bb := bb'
        clear bb'
        try simp only [Act.put, List.setIfInBounds_toArray, List.set_cons_zero, List.set_cons_succ]
        refine wpAnyH_take (i := 8) (oi := { dst := some 12, op := Op.move (Operand.tmp 20), type := 103, pos := "l08_rewrite.go:87", after := #[{ on := 7, ground := Ground.data }], guard := none }) (v := ?_) rfl (by kernel_rfl) (by kernel_rfl) (by kernel_rfl) (fun _ _ _ h => h) (Or.inl ⟨by rfl, ?_⟩) (by assumption) ?_
        rotate_left
        · (intro wv hSw; (try dsimp only at hSw); go_simp; try with_reducible rfl)
        try simp only [Act.put, List.setIfInBounds_toArray, List.set_cons_zero, List.set_cons_succ]
        refine wpAnyH_take (i := 9) (oi := { dst := some 21, op := Op.extract (Operand.tmp 12) 0, type := 102, pos := "l08_rewrite.go:87", after := #[{ on := 8, ground := Ground.data }], guard := none }) (v := ?_) rfl (by kernel_rfl) (by kernel_rfl) (by kernel_rfl) (fun _ _ _ h => h) (Or.inl ⟨by rfl, ?_⟩) (by assumption) ?_
        rotate_left
        · (intro wv hSw; (try dsimp only at hSw); go_simp; try with_reducible rfl)
        try simp only [Act.put, List.setIfInBounds_toArray, List.set_cons_zero, List.set_cons_succ]
        refine wpAnyH_take (i := 10) (oi := { dst := some 22, op := Op.extract (Operand.tmp 12) 1, type := 4, pos := "l08_rewrite.go:87", after := #[{ on := 8, ground := Ground.data }, { on := 12, ground := Ground.gcOnly Departure.lateStores }], guard := none }) (v := ?_) rfl (by kernel_rfl) (by kernel_rfl) (by kernel_rfl) (fun _ _ _ h => h) (Or.inl ⟨by rfl, ?_⟩) (by assumption) ?_
        rotate_left
        · (intro wv hSw; (try dsimp only at hSw); go_simp; try with_reducible rfl)
        try simp only [Act.put, List.setIfInBounds_toArray, List.set_cons_zero, List.set_cons_succ]
        refine wpAnyH_ready (rs := [12]) (by kernel_rfl) (by simp) ?_
        refine AllReadyH.cons (o := { dst := none, op := Op.store 102 (Operand.tmp 9) (Operand.tmp 21), type := 0, pos := "l08_rewrite.go:87", after := #[{ on := 11, ground := Ground.data }, { on := 9, ground := Ground.data }, { on := 7, ground := Ground.chain }, { on := 0, ground := Ground.phase }, { on := 1, ground := Ground.phase }, { on := 2, ground := Ground.phase }, { on := 3, ground := Ground.phase }, { on := 4, ground := Ground.phase }, { on := 5, ground := Ground.phase }, { on := 6, ground := Ground.phase }, { on := 7, ground := Ground.phase }, { on := 8, ground := Ground.phase }, { on := 9, ground := Ground.phase }, { on := 10, ground := Ground.textOnly Departure.lateStores }, { on := 11, ground := Ground.phase }], guard := none }) rfl (fun K hK => ?_) AllReadyH.nil
        rw [if_pos (by rfl)]
        refine wp_store_row 102 _ _ rfl _ #[.slice vp0 vl0 vc0, .slice vp1 vl1 vc1, .slice vp2 vl2 vc2, .slice vp3 vl3 vc3, .slice vp4 vl4 vc4, .slice vp5 vl5 vc5, .slice vp6 vl6 vc6, .slice vp7 vl7 vc7, .slice vp8 vl8 vc8, .slice vp9 vl9 vc9, .slice vp10 vl10 vc10, .slice vp11 vl11 vc11] rfl rfl 102 _ RR.out (by kernel_rfl) rfl (by kernel_rfl) ?_
        have RF := hidden (Pts.ofHeap (V := twelve (.slice vp0 vl0 vc0) (.slice vp1 vl1 vc1) (.slice vp2 vl2 vc2) (.slice vp3 vl3 vc3) (.slice vp4 vl4 vc4) (.slice vp5 vl5 vc5) (.slice vp6 vl6 vc6) (.slice vp7 vl7 vc7) (.slice vp8 vl8 vc8) (.slice vp9 vl9 vc9) (.slice vp10 vl10 vc10) (.slice vp11 vl11 vc11)) (setRow_heap _ _ _ #[.slice vp0 vl0 vc0, .slice vp1 vl1 vc1, .slice vp2 vl2 vc2, .slice vp3 vl3 vc3, .slice vp4 vl4 vc4, .slice vp5 vl5 vc5, .slice vp6 vl6 vc6, .slice vp7 vl7 vc7, .slice vp8 vl8 vc8, .slice vp9 vl9 vc9, .slice vp10 vl10 vc10, .slice vp11 vl11 vc11] _ _ RR.out) (fun v hv => by match v, hv with | 0, _ => rfl | 1, _ => rfl | 2, _ => rfl | 3, _ => rfl | 4, _ => rfl | 5, _ => rfl | 6, _ => rfl | 7, _ => rfl | 8, _ => rfl | 9, _ => rfl | 10, _ => rfl | 11, _ => rfl | j + 12, hj => omega))
        have BF := hidden (below_setRow bb hX0 #[.slice vp0 vl0 vc0, .slice vp1 vl1 vc1, .slice vp2 vl2 vc2, .slice vp3 vl3 vc3, .slice vp4 vl4 vc4, .slice vp5 vl5 vc5, .slice vp6 vl6 vc6, .slice vp7 vl7 vc7, .slice vp8 vl8 vc8, .slice vp9 vl9 vc9, .slice vp10 vl10 vc10, .slice vp11 vl11 vc11])
        clear RR
        refine hK.out _ _ (CK.out _ BF.out) (fun hHeld => ?_)
        clear hK K
        try simp only [Act.put]
        refine wpAnyH_ready (rs := [13]) (by kernel_rfl) (by simp) ?_
        refine AllReadyH.cons (o := { dst := some 10, op := Op.assign (Operand.tmp 22), type := 4, pos := "l08_rewrite.go:87", after := #[{ on := 10, ground := Ground.data }, { on := 12, ground := Ground.chain }, { on := 0, ground := Ground.phase }, { on := 1, ground := Ground.phase }, { on := 2, ground := Ground.phase }, { on := 3, ground := Ground.phase }, { on := 4, ground := Ground.phase }, { on := 5, ground := Ground.phase }, { on := 6, ground := Ground.phase }, { on := 7, ground := Ground.phase }, { on := 8, ground := Ground.phase }, { on := 9, ground := Ground.phase }, { on := 10, ground := Ground.phase }, { on := 11, ground := Ground.phase }, { on := 12, ground := Ground.phase }], guard := none }) rfl (fun K hK => ?_) AllReadyH.nil
        go_simp
        refine hK.out _ _ (CK.out _ BF.out) (fun hHeld => ?_)
        clear hK K
        try simp only [Act.put, List.setIfInBounds_toArray, List.set_cons_zero, List.set_cons_succ]
        refine wpAnyH_done (by kernel_rfl) ?_ _
        go_wp2_with fail
        go_meet
        exact ⟨_, V, rr, rfl, rfl, hidden ⟨hX0, RF.out.congr (twelve_eq VE.out), BF.out, HM.out⟩⟩
    · go_simp
      have RR := hidden (heap_alloc_last w0 (.cells #[.slice none 0 0, .slice none 0 0, .slice none 0 0, .slice none 0 0, .slice none 0 0, .slice none 0 0, .slice none 0 0, .slice none 0 0, .slice none 0 0, .slice none 0 0, .slice none 0 0, .slice none 0 0] 102))
      have hX0 := bb.size
      refine hK.out _ _ (CK.out _ (alloc_below _ _).drew) (fun hHeld => ?_)
      clear hK K
      have bbn := (alloc_below w0 (.cells #[.slice none 0 0, .slice none 0 0, .slice none 0 0, .slice none 0 0, .slice none 0 0, .slice none 0 0, .slice none 0 0, .slice none 0 0, .slice none 0 0, .slice none 0 0, .slice none 0 0, .slice none 0 0] 102)).drew
      clear bb
      have bb := bbn
      clear bbn
      try simp only [Act.put, List.setIfInBounds_toArray, List.set_cons_zero, List.set_cons_succ]
      refine wpAnyH_ready (rs := [6]) (by kernel_rfl) (by simp) ?_
      refine AllReadyH.cons (o := { dst := some 19, op := Op.call { callee := Callee.value (Operand.func 63), args := #[Operand.tmp 16, Operand.tmp 17, Operand.tmp 18], argTypes := #[34, 26, 2] }, type := 26, pos := "l08_rewrite.go:87", after := #[{ on := 3, ground := Ground.data }, { on := 4, ground := Ground.data }, { on := 5, ground := Ground.data }], guard := none }) rfl (fun K hK => ?_) AllReadyH.nil
      go_simp
      go_at_call 63; with_reducible refine (SC1.out _ bb).mono ?_; rintro e v1 ⟨rfl, bb', hb5⟩
      try go_wp2_with fail
      refine hK.out _ _ (CK.out _ bb') (fun hHeld => ?_)
      clear hK K
      replace RR := hidden ((hb5.block _ (Array.getElem?_eq_some_iff.1 RR.out).1).trans RR.out)
      clear bb hb5
      have bb := bb'
      clear bb'
      try simp only [Act.put, List.setIfInBounds_toArray, List.set_cons_zero, List.set_cons_succ]
      refine wpAnyH_ready (rs := [7]) (by kernel_rfl) (by simp) ?_
      refine AllReadyH.cons (o := { dst := some 20, op := Op.call { callee := Callee.value (Operand.func 64), args := #[Operand.tmp 13, Operand.tmp 15, Operand.tmp 19], argTypes := #[34, 26, 26] }, type := 103, pos := "l08_rewrite.go:87", after := #[{ on := 0, ground := Ground.data }, { on := 2, ground := Ground.data }, { on := 6, ground := Ground.data }, { on := 6, ground := Ground.chain }], guard := none }) rfl (fun K hK => ?_) AllReadyH.nil
      go_simp
      go_at_call 64; with_reducible refine (SC2.out _ bb).mono ?_; rintro e v2 ⟨V, rr, rfl, hsl, HM, bb', hb5⟩
      try go_wp2_with fail
      unfold arr12
      obtain ⟨vp0, vl0, vc0, ve0⟩ := hsl 0 (by omega)
      obtain ⟨vp1, vl1, vc1, ve1⟩ := hsl 1 (by omega)
      obtain ⟨vp2, vl2, vc2, ve2⟩ := hsl 2 (by omega)
      obtain ⟨vp3, vl3, vc3, ve3⟩ := hsl 3 (by omega)
      obtain ⟨vp4, vl4, vc4, ve4⟩ := hsl 4 (by omega)
      obtain ⟨vp5, vl5, vc5, ve5⟩ := hsl 5 (by omega)
      obtain ⟨vp6, vl6, vc6, ve6⟩ := hsl 6 (by omega)
      obtain ⟨vp7, vl7, vc7, ve7⟩ := hsl 7 (by omega)
      obtain ⟨vp8, vl8, vc8, ve8⟩ := hsl 8 (by omega)
      obtain ⟨vp9, vl9, vc9, ve9⟩ := hsl 9 (by omega)
      obtain ⟨vp10, vl10, vc10, ve10⟩ := hsl 10 (by omega)
      obtain ⟨vp11, vl11, vc11, ve11⟩ := hsl 11 (by omega)
      rw [ve0, ve1, ve2, ve3, ve4, ve5, ve6, ve7, ve8, ve9, ve10, ve11]
      have VE := hidden (And.intro ve0 (And.intro ve1 (And.intro ve2 (And.intro ve3 (And.intro ve4 (And.intro ve5 (And.intro ve6 (And.intro ve7 (And.intro ve8 (And.intro ve9 (And.intro ve10 ve11)))))))))))
      clear ve0 ve1 ve2 ve3 ve4 ve5 ve6 ve7 ve8 ve9 ve10 ve11
      refine hK.out _ _ (CK.out _ bb') (fun hHeld => ?_)
      clear hK K
      replace RR := hidden ((hb5.block _ (Array.getElem?_eq_some_iff.1 RR.out).1).trans RR.out)
      clear bb hb5
      have bb := bb'
      clear bb'
      try simp only [Act.put, List.setIfInBounds_toArray, List.set_cons_zero, List.set_cons_succ]
      refine wpAnyH_take (i := 8) (oi := { dst := some 12, op := Op.move (Operand.tmp 20), type := 103, pos := "l08_rewrite.go:87", after := #[{ on := 7, ground := Ground.data }], guard := none }) (v := ?_) rfl (by kernel_rfl) (by kernel_rfl) (by kernel_rfl) (fun _ _ _ h => h) (Or.inl ⟨by rfl, ?_⟩) (by assumption) ?_
      rotate_left
      · (intro wv hSw; (try dsimp only at hSw); go_simp; try with_reducible rfl)
      try simp only [Act.put, List.setIfInBounds_toArray, List.set_cons_zero, List.set_cons_succ]
      refine wpAnyH_take (i := 9) (oi := { dst := some 21, op := Op.extract (Operand.tmp 12) 0, type := 102, pos := "l08_rewrite.go:87", after := #[{ on := 8, ground := Ground.data }], guard := none }) (v := ?_) rfl (by kernel_rfl) (by kernel_rfl) (by kernel_rfl) (fun _ _ _ h => h) (Or.inl ⟨by rfl, ?_⟩) (by assumption) ?_
      rotate_left
      · (intro wv hSw; (try dsimp only at hSw); go_simp; try with_reducible rfl)
      try simp only [Act.put, List.setIfInBounds_toArray, List.set_cons_zero, List.set_cons_succ]
      refine wpAnyH_take (i := 10) (oi := { dst := some 22, op := Op.extract (Operand.tmp 12) 1, type := 4, pos := "l08_rewrite.go:87", after := #[{ on := 8, ground := Ground.data }, { on := 12, ground := Ground.gcOnly Departure.lateStores }], guard := none }) (v := ?_) rfl (by kernel_rfl) (by kernel_rfl) (by kernel_rfl) (fun _ _ _ h => h) (Or.inl ⟨by rfl, ?_⟩) (by assumption) ?_
      rotate_left
      · (intro wv hSw; (try dsimp only at hSw); go_simp; try with_reducible rfl)
      try simp only [Act.put, List.setIfInBounds_toArray, List.set_cons_zero, List.set_cons_succ]
      refine wpAnyH_ready (rs := [12]) (by kernel_rfl) (by simp) ?_
      refine AllReadyH.cons (o := { dst := none, op := Op.store 102 (Operand.tmp 9) (Operand.tmp 21), type := 0, pos := "l08_rewrite.go:87", after := #[{ on := 11, ground := Ground.data }, { on := 9, ground := Ground.data }, { on := 7, ground := Ground.chain }, { on := 0, ground := Ground.phase }, { on := 1, ground := Ground.phase }, { on := 2, ground := Ground.phase }, { on := 3, ground := Ground.phase }, { on := 4, ground := Ground.phase }, { on := 5, ground := Ground.phase }, { on := 6, ground := Ground.phase }, { on := 7, ground := Ground.phase }, { on := 8, ground := Ground.phase }, { on := 9, ground := Ground.phase }, { on := 10, ground := Ground.textOnly Departure.lateStores }, { on := 11, ground := Ground.phase }], guard := none }) rfl (fun K hK => ?_) AllReadyH.nil
      rw [if_pos (by rfl)]
      refine wp_store_row 102 _ _ rfl _ #[.slice vp0 vl0 vc0, .slice vp1 vl1 vc1, .slice vp2 vl2 vc2, .slice vp3 vl3 vc3, .slice vp4 vl4 vc4, .slice vp5 vl5 vc5, .slice vp6 vl6 vc6, .slice vp7 vl7 vc7, .slice vp8 vl8 vc8, .slice vp9 vl9 vc9, .slice vp10 vl10 vc10, .slice vp11 vl11 vc11] rfl rfl 102 _ RR.out (by kernel_rfl) rfl (by kernel_rfl) ?_
      have RF := hidden (Pts.ofHeap (V := twelve (.slice vp0 vl0 vc0) (.slice vp1 vl1 vc1) (.slice vp2 vl2 vc2) (.slice vp3 vl3 vc3) (.slice vp4 vl4 vc4) (.slice vp5 vl5 vc5) (.slice vp6 vl6 vc6) (.slice vp7 vl7 vc7) (.slice vp8 vl8 vc8) (.slice vp9 vl9 vc9) (.slice vp10 vl10 vc10) (.slice vp11 vl11 vc11)) (setRow_heap _ _ _ #[.slice vp0 vl0 vc0, .slice vp1 vl1 vc1, .slice vp2 vl2 vc2, .slice vp3 vl3 vc3, .slice vp4 vl4 vc4, .slice vp5 vl5 vc5, .slice vp6 vl6 vc6, .slice vp7 vl7 vc7, .slice vp8 vl8 vc8, .slice vp9 vl9 vc9, .slice vp10 vl10 vc10, .slice vp11 vl11 vc11] _ _ RR.out) (fun v hv => by match v, hv with | 0, _ => rfl | 1, _ => rfl | 2, _ => rfl | 3, _ => rfl | 4, _ => rfl | 5, _ => rfl | 6, _ => rfl | 7, _ => rfl | 8, _ => rfl | 9, _ => rfl | 10, _ => rfl | 11, _ => rfl | j + 12, hj => omega))
      have BF := hidden (below_setRow bb hX0 #[.slice vp0 vl0 vc0, .slice vp1 vl1 vc1, .slice vp2 vl2 vc2, .slice vp3 vl3 vc3, .slice vp4 vl4 vc4, .slice vp5 vl5 vc5, .slice vp6 vl6 vc6, .slice vp7 vl7 vc7, .slice vp8 vl8 vc8, .slice vp9 vl9 vc9, .slice vp10 vl10 vc10, .slice vp11 vl11 vc11])
      clear RR
      refine hK.out _ _ (CK.out _ BF.out) (fun hHeld => ?_)
      clear hK K
      try simp only [Act.put]
      refine wpAnyH_ready (rs := [13]) (by kernel_rfl) (by simp) ?_
      refine AllReadyH.cons (o := { dst := some 10, op := Op.assign (Operand.tmp 22), type := 4, pos := "l08_rewrite.go:87", after := #[{ on := 10, ground := Ground.data }, { on := 12, ground := Ground.chain }, { on := 0, ground := Ground.phase }, { on := 1, ground := Ground.phase }, { on := 2, ground := Ground.phase }, { on := 3, ground := Ground.phase }, { on := 4, ground := Ground.phase }, { on := 5, ground := Ground.phase }, { on := 6, ground := Ground.phase }, { on := 7, ground := Ground.phase }, { on := 8, ground := Ground.phase }, { on := 9, ground := Ground.phase }, { on := 10, ground := Ground.phase }, { on := 11, ground := Ground.phase }, { on := 12, ground := Ground.phase }], guard := none }) rfl (fun K hK => ?_) AllReadyH.nil
      go_simp
      refine hK.out _ _ (CK.out _ BF.out) (fun hHeld => ?_)
      clear hK K
      try simp only [Act.put, List.setIfInBounds_toArray, List.set_cons_zero, List.set_cons_succ]
      refine wpAnyH_done (by kernel_rfl) ?_ _
      go_wp2_with fail
      go_meet
      exact ⟨_, V, rr, rfl, rfl, hidden ⟨hX0, RF.out.congr (twelve_eq VE.out), BF.out, HM.out⟩⟩
  case rest =>
    rename World => wc
    obtain ⟨X, V, rr, rfl, rfl, HCC⟩ := hcut
    have BC := hidden HCC.out.2.2.1
    have PX := hidden HCC.out.2.1
    have CS := hidden HCC.out.2.2.2
    have BW := hidden (keepB B.out BC.out)
    have RC := hidden (RS.out.keep BC.out)
    clear HCC CK SC1 SC2 RS
    rcases CS.out with ⟨rfl, hm⟩ | ⟨rfl, M, hm, hpt⟩
    · have HC := hidden (rw_none (R := R) (mR := mR) (e := e) hm)
      have q0 := RC.out.two.c0
      have q1 := RC.out.two.c1
      have f0 := RC.out.f0
      have f1 := RC.out.f1
      clear hm CS
      go_wp2
      exact bodyPost_ret (v := .agg #[.int .i64 4, .slice none 0 0]) (by simp [results, Try.results50, go_sem, q0, q1]) rfl ⟨Or.inl ⟨by rw [HC.out]; decide, by rw [HC.out]⟩, (BW.out.setCell (by simp; omega) _).setCell (by simp; omega) _⟩
    · have HC := hidden (rw_some (R := R) (mR := mR) (e := e) hm)
      obtain ⟨pp, II⟩ := mtB_inv HPT.out HQ.out hm
      have HL := hidden (II.len hm24 hqe.2)
      have HTM := hidden (II.terms HG.out)
      have hx : ∀ i, i < mR → -12 ≤ R i := fun i hi => by rcases nodeB_cases (HRR.out.nods.node i hi) with ⟨j, e, hj⟩ | hv <;> omega
      have S := hidden (putIn_any 66 #[.pointer (some ⟨X, 0, none⟩)] M g2 p2 mR d2 R wc (there1_mean X b' M V wc PX.out (hpt.keep BC.out)) (HR.out.keep BC.out) (by omega) hr24 hx HL.out)
      have hlen := putL_len HL.out R mR
      obtain ⟨K, hK⟩ : ∃ K, K = (putL M R mR).length := ⟨_, rfl⟩
      have HKK := hidden hK
      rw [← hK] at S hlen HC
      have x1 := (RL.out.keep BC.out).c1
      clear hm hpt CS II hx hK
      go_wp2_with fail
      with_reducible refine S.out.mono ?_
      rintro e1 w1 ⟨ha, hb⟩
      have B1 := hidden (keepB BC.out hb)
      have BW1 := hidden (keepB BW.out hb)
      replace RC := hidden (RC.out.keep hb)
      clear hb S x1
      rcases ha with ⟨hne, rfl⟩ | ⟨h0, gp, dp, rfl, hgp, hop⟩
      · have h24 : 24 < K := by
          refine Classical.byContradiction fun hh => ?_
          rw [if_neg hh] at hne; exact hne rfl
        rw [if_pos h24]
        have HC2 := hidden (HC.out.1.trans (if_pos (by omega)))
        have q0 := RC.out.two.c0
        have q1 := RC.out.two.c1
        have f0 := RC.out.f0
        have f1 := RC.out.f1
        have lt1 := RC.out.two.blk
        have B9 := hidden ((BW1.out.setCell (p := ⟨w.heap.size + 1 + 1, 0, none⟩) (by show w.heap.size ≤ w.heap.size + 1 + 1; omega) (.int .i64 2)).setCell (p := ⟨w.heap.size + 1 + 1, 1, none⟩) (by show w.heap.size ≤ w.heap.size + 1 + 1; omega) (.slice none 0 0))
        have RC9 := ((RC.out.set0 (.int .i64 2)).set1 (.slice none 0 0)).keep (alloc_below _ (.cells #[.int .i64 2, .slice none 0 0] 85))
        have t0 := RC9.two.c0
        have t1 := RC9.two.c1
        clear hne RC9
        go_wp2
        exact bodyPost_ret (v := .agg #[.int .i64 2, .slice none 0 0]) (by simp [results, Try.results50, go_sem, t0, t1]) rfl ⟨Or.inl ⟨by rw [HC2.out]; decide, by rw [HC2.out]⟩, keepB B9.out (alloc_below _ _)⟩
      · have h24 : ¬ 24 < K := by
          intro hh; rw [if_pos hh] at h0; omega
        have LU := hidden (show Trm n A K (fun i => (putL M R mR).getD i 0) by
          have := sub_trm HRR.out HTM.out (by rw [← HKK.out]; omega) (by rw [← HKK.out]; omega)
          rwa [← HKK.out] at this)
        have BA := hidden (alloc_below w1 (.cells #[.int .i64 0, .slice (some ⟨gp, 0, none⟩) K dp] 85))
        have BW2 := hidden (keepB BW1.out BA.out)
        have BC2 := hidden (keepB B1.out BA.out)
        have IP := hidden (hop.ints.keep BA.out)
        have S2 := hidden (implReplace_any b off n c b' off' m c' gp 0 K dp N A T (fun i => (putL M R mR).getD i 0) (q : Int) _ (HS.out.keep BC2.out) (HT.out.keep BC2.out) IP.out HK.out (by omega) (by omega) hc)
        have E1 : ((q : Nat) : Int).toNat + manyN (aOf A T) m ((q : Nat) : Int).toNat = e := by rw [Int.toNat_natCast, HMN.out]; omega
        have TL := lF_of HG.out
        have UL := lF_of LU.out
        have RE : reC n N A m T (q : Int) K (fun i => (putL M R mR).getD i 0) = (if 24 < q + K + (m - e) then 2 else 0) := by
          have hz : szC n N A m T (q : Int) = 0 := (sz_ok (by rw [term_l HF.out]; exact TL) (by simp [inB]; omega)).1
          by_cases h : 24 < q + K + (m - e)
          · rw [if_pos h]; exact re_many hz UL (by rw [E1, Int.toNat_natCast]; exact h)
          · rw [if_neg h]; exact re_ok hz UL (by rw [E1, Int.toNat_natCast]; exact h)
        rw [RE, E1, Int.toNat_natCast, ← HC.out.1, ← HC.out.2.1, ← HC.out.2.2] at S2
        have d0 := (SG.out.keep B1.out).c0
        have hlt0 := (SG.out.keep B1.out).blk
        have d1 := (SG.out.keep BC2.out).c0
        have RC2 := hidden (RC.out.keep BA.out)
        clear RE TL UL E1 hop h0 hgp
        go_wp2_with fail
        with_reducible refine S2.out.mono ?_
        rintro e1 w3 ⟨ha2, hb⟩
        have BW3 := hidden (keepB BW2.out hb)
        have hsz := BW2.out.size
        replace RC2 := hidden (RC2.out.keep hb)
        clear hb S2 d0 d1 hlt0
        have q0 := RC2.out.two.c0
        have q1 := RC2.out.two.c1
        have f0 := RC2.out.f0
        have f1 := RC2.out.f1
        rcases ha2 with ⟨hne, rfl⟩ | ⟨h00, gr, dr, rfl, hgr, hor⟩
        · obtain ⟨z, hz⟩ : ∃ z, z = rwC A T m P mP R mR q e := ⟨_, rfl⟩
          have HZ := hidden hz
          have HNE := hidden hne
          rw [← hz]
          clear hz hne
          go_wp2
          exact bodyPost_ret (v := .agg #[.int .i64 z, .slice none 0 0]) (by simp [results, Try.results50, go_sem, q0, q1]) rfl ⟨Or.inl ⟨HNE.out, by rw [← HZ.out]⟩, (BW3.out.setCell (by show w.heap.size ≤ w.heap.size + 1 + 1; omega) _).setCell (by show w.heap.size ≤ w.heap.size + 1 + 1; omega) _⟩
        · have H00 := hidden h00
          have OO := hidden hor
          have hrs := RC2.out.two.blk
          have hgr2 : w.heap.size + 1 + 1 < gr := by have := (RC.out.keep BA.out).two.blk; omega
          obtain ⟨KK, hKK⟩ : ∃ KK, KK = rwK A T m P mP R mR q e := ⟨_, rfl⟩
          have HKK2 := hidden hKK
          rw [← hKK] at OO ⊢
          clear h00 hor hKK
          go_wp2
          exact bodyPost_ret (v := .agg #[.int .i64 0, .slice (some ⟨gr, 0, none⟩) KK dr]) (by simp [results, Try.results50, go_sem, q0, q1]) rfl ⟨Or.inr ⟨H00.out, gr, dr, by rw [← HKK2.out], by omega, by rw [← HKK2.out]; exact ((OO.out.other _ _ (by show gr ≠ w.heap.size + 1 + 1; omega)).other _ _ (by show gr ≠ w.heap.size + 1 + 1; omega)).base (by omega)⟩, (BW3.out.setCell (by show w.heap.size ≤ w.heap.size + 1 + 1; omega) _).setCell (by show w.heap.size ≤ w.heap.size + 1 + 1; omega) _⟩

end Go.Proofs.Ytbdgnpjbmlcchaa

/- Contracts: RewriteAt, as the model and as the program does it. -/
namespace Go.Proofs.Ytbdgnpjbmlcchaa
open Go.RowKit

/-- RewriteAt's code, number of nodes and nodes. -/
noncomputable def rtC (n : Nat) (N : Nat → ByteArray) (A : Nat → Int) (r : Nat) (D : EqL) (x y : Int) (m : Nat) (T : Nat → Int) : Int :=
  if boF n N A r D m T = 0 then (if inB x r = true ∧ inB y m = true then rwC A T m (D.L1 x.toNat) (D.m1 x.toNat) (D.L2 x.toNat) (D.m2 x.toNat) y.toNat (enN (aOf A T) m y.toNat) else 3) else boF n N A r D m T
def rtK (A : Nat → Int) (D : EqL) (x y : Int) (m : Nat) (T : Nat → Int) : Nat := rwK A T m (D.L1 x.toNat) (D.m1 x.toNat) (D.L2 x.toNat) (D.m2 x.toNat) y.toNat (enN (aOf A T) m y.toNat)
def rtU (A : Nat → Int) (D : EqL) (x y : Int) (m : Nat) (T : Nat → Int) : Nat → Int := rwU A T m (D.L1 x.toNat) (D.m1 x.toNat) (D.L2 x.toNat) (D.m2 x.toNat) y.toNat (enN (aOf A T) m y.toNat)

section
variable {n : Nat} {N : Nat → ByteArray} {A : Nat → Int} {r : Nat} {D : EqL} {x y : Int} {m : Nat} {T : Nat → Int}
theorem rt_bo (h : boF n N A r D m T ≠ 0) : rtC n N A r D x y m T = boF n N A r D m T := by rw [rtC, if_neg h]
theorem rt_range (h : boF n N A r D m T = 0) (hx : ¬ (inB x r = true ∧ inB y m = true)) : rtC n N A r D x y m T = 3 := by rw [rtC, if_pos h, if_neg hx]
theorem rt_ok (h : boF n N A r D m T = 0) {i q e : Nat} (hx : x = i) (hi : i < r) (hy : y = q) (hq : q < m) (he : skip (aOf A T) m q 1 = some e) :
    rtC n N A r D x y m T = rwC A T m (D.L1 i) (D.m1 i) (D.L2 i) (D.m2 i) q e ∧ rtK A D x y m T = rwK A T m (D.L1 i) (D.m1 i) (D.L2 i) (D.m2 i) q e ∧ rtU A D x y m T = rwU A T m (D.L1 i) (D.m1 i) (D.L2 i) (D.m2 i) q e := by
  subst hx hy
  have h1 : inB ((i : Nat) : Int) r = true := by simp [inB]; omega
  have h2 : inB ((q : Nat) : Int) m = true := by simp [inB]; omega
  unfold rtC rtK rtU
  rw [if_pos h, if_pos ⟨h1, h2⟩, Int.toNat_natCast, Int.toNat_natCast, enN_some he]
  exact ⟨rfl, rfl, rfl⟩

theorem rt_len (h : rtC n N A r D x y m T = 0) : rtK A D x y m T ≤ 24 := by
  by_cases hz : boF n N A r D m T = 0
  · by_cases hx : inB x r = true ∧ inB y m = true
    · obtain ⟨hr, hg⟩ := bo_trm hz
      have hx' := hx
      simp only [inB, decide_eq_true_eq] at hx'
      obtain ⟨e, he, _, _⟩ := skip_inner hg.whole (p := y.toNat) (by omega)
      obtain ⟨a1, a2, a3⟩ := rt_ok (N := N) (x := x) (y := y) hz (i := x.toNat) (q := y.toNat) (e := e) (by omega) (by omega) (by omega) (by omega) he
      rw [a2]
      rw [a1] at h
      exact (rw_trm hg (hr.eqs.trm _ (by omega)).1 (hr.eqs.trm _ (by omega)).2 (by omega) he h).nods.most
    · rw [rt_range hz hx] at h; omega
  · rw [rt_bo hz] at h; exact absurd h hz
end

end Go.Proofs.Ytbdgnpjbmlcchaa
