/- Contracts: how deep a term is: DepthOf, as the model and as the program tells it. -/
import Derived.Test.YtjahldlcbgdllaaArgs
namespace Go.Proofs.Ytjahldlcbgdllaa
open Go.RowKit Go.Shelf

attribute [local go_sem] Oper.semAt_some

/-- The greatest depth of the terms at some places. -/
def mxD (a : Nat → Nat) (m : Nat) {p : Nat} (l : List (Arg p m)) : Nat := l.foldl (fun z x => max z (dpt a m x.1)) 0

theorem mxD_snoc (a : Nat → Nat) (m : Nat) {p : Nat} (l : List (Arg p m)) (x : Arg p m) : mxD a m (l ++ [x]) = max (mxD a m l) (dpt a m x.1) := by simp [mxD]

theorem mxD_le (a : Nat → Nat) (m : Nat) {p : Nat} (l : List (Arg p m)) : mxD a m l ≤ m := by
  have : ∀ (l : List (Arg p m)) (z : Nat), z ≤ m → l.foldl (fun z x => max z (dpt a m x.1)) z ≤ m := by
    intro l
    induction l with
    | nil => intro z hz; exact hz
    | cons x l ih => intro z hz; exact ih _ (by have := dpt_le a x.2.2; show max z (dpt a m x.1) ≤ m; omega)
  exact this l 0 (Nat.zero_le _)

theorem mxD_map (a : Nat → Nat) (m : Nat) {p : Nat} (l : List (Arg p m)) : mxD a m l = (l.map (·.1)).foldl (fun z x => max z (dpt a m x)) 0 := by
  rw [mxD, List.foldl_map]

/-- The arguments' greatest depth is the one that a walk over their places finds. -/
theorem mx_args {a : Nat → Nat} {m p e ar : Nat} (h : skip a m (p + 1) ar = some e) : ∀ k r, k ≤ ar → skip a m (p + 1) k = some r → max ((upto (argP a m p) k).foldl (fun z x => max z (dpt a m x)) 0) (depN a m r (ar - k)) = depN a m (p + 1) ar := by
  intro k
  induction k with
  | zero => intro r _ hr; rw [skip_zero] at hr; cases hr; simp [upto]
  | succ k ih =>
    intro r hk hr
    obtain ⟨q, r', e1, e2, e3⟩ := skip_arg h (i := k) (by omega)
    rw [hr] at e3
    obtain rfl : r = r' := Option.some.inj e3
    have h1 := ih q (by omega) e1
    rw [show ar - k = (ar - (k + 1)) + 1 by omega, dep_next e2] at h1
    rw [upto_succ, List.foldl_append, argP_some e1, ← h1]
    simp only [List.foldl_cons, List.foldl_nil]
    omega

theorem mxD_args {a : Nat → Nat} {m p e : Nat} (hp : p < m) (h : skip a m p 1 = some e) {xs : List (Arg p m)} (hx : xs.map (·.1) = upto (argP a m p) (a p)) : mxD a m xs + 1 = dpt a m p := by
  rw [skip_one a hp] at h
  have h1 := mx_args h (a p) e (Nat.le_refl _) h
  rw [Nat.sub_self, depN_zero, ← hx, ← mxD_map] at h1
  rw [dpt, ← h1]; omega

set_option maxRecDepth 100000 in
set_option maxHeartbeats 8000000 in
theorem depthThere_any (b off n c b' off' m c' : Nat) (N : Nat → ByteArray) (A T : Nat → Int) (hg : Trm n A m T) (hc' : m ≤ c') : ∀ (d p : Nat), m - p ≤ d → p < m → ∀ w : World, Syms w b off n N A → Ints w b' off' m T →
    Calls Try.prog 56 #[.agg #[.slice (some ⟨b, off, none⟩) n c], .slice (some ⟨b', off', none⟩) m c', .int .i64 p] w fun e w' => e = .returned (.int .i64 (dpt (aOf A T) m p)) ∧ Below w.heap.size w w' := by
  intro d
  induction d with
  | zero => intro p hd hp; omega
  | succ d ih =>
  intro p hd hp w h h'
  refine (callsIn_wide (n := 3)).1 ?_
  refine callsIn_of_wp_marks Try.func56 rfl trivial ?_ rfl
  simp only [Try.ntmps56, List.size_toArray, List.length_cons, List.length_nil, Nat.reduceAdd, Nat.reduceSub, Array.replicate_succ, Array.replicate_zero, List.push_toArray, List.append_toArray, List.nil_append, List.cons_append]
  have hb := h.blk hg.sig.least
  have hb' := h'.blk hg.pos
  have hm24 := hg.nods.most
  have hmx : Try.prog.follows .mixedOrders = true := by kernel_rfl
  obtain ⟨en, hen, _, _⟩ := skip_inner hg.whole hp
  have HEN := hidden hen
  have HS := hidden h
  have HT := hidden h'
  have HG := hidden hg
  have IH := hidden ih
  clear h h' hg ih hen
  gi_wp2_with (refine ⟨trivial, ?_⟩; gi_at_call 85; refine (callsIn_wide.2 (argumentsThere_any _ _ _ _ _ _ _ _)).mono ?_; rintro e w' ⟨rfl, rfl⟩)
  have b0 := Boxed.new w 30 (.slice (some ⟨b, off, none⟩) n c)
  have b1 := Boxed.new (w.alloc (.cells #[.slice (some ⟨b, off, none⟩) n c] 30)) 25 (.slice (some ⟨b', off', none⟩) m c')
  have b2 := Boxed.new ((w.alloc (.cells #[.slice (some ⟨b, off, none⟩) n c] 30)).alloc (.cells #[.slice (some ⟨b', off', none⟩) m c'] 25)) 2 (.int .i64 0)
  have b3 := Boxed.new (((w.alloc (.cells #[.slice (some ⟨b, off, none⟩) n c] 30)).alloc (.cells #[.slice (some ⟨b', off', none⟩) m c'] 25)).alloc (.cells #[.int .i64 0] 2)) 30 (.slice (some ⟨b, off, none⟩) n c)
  have b4 := Boxed.new ((((w.alloc (.cells #[.slice (some ⟨b, off, none⟩) n c] 30)).alloc (.cells #[.slice (some ⟨b', off', none⟩) m c'] 25)).alloc (.cells #[.int .i64 0] 2)).alloc (.cells #[.slice (some ⟨b, off, none⟩) n c] 30)) 25 (.slice (some ⟨b', off', none⟩) m c')
  have b5 := Boxed.new (((((w.alloc (.cells #[.slice (some ⟨b, off, none⟩) n c] 30)).alloc (.cells #[.slice (some ⟨b', off', none⟩) m c'] 25)).alloc (.cells #[.int .i64 0] 2)).alloc (.cells #[.slice (some ⟨b, off, none⟩) n c] 30)).alloc (.cells #[.slice (some ⟨b', off', none⟩) m c'] 25)) 2 (.int .i64 p)
  simp only [World.size_alloc] at b1 b2 b3 b4 b5
  have hB0 : Below w.heap.size w ((((((w.alloc (.cells #[.slice (some ⟨b, off, none⟩) n c] 30)).alloc (.cells #[.slice (some ⟨b', off', none⟩) m c'] 25)).alloc (.cells #[.int .i64 0] 2)).alloc (.cells #[.slice (some ⟨b, off, none⟩) n c] 30)).alloc (.cells #[.slice (some ⟨b', off', none⟩) m c'] 25)).alloc (.cells #[.int .i64 p] 2)) :=
    ((((((Below.refl _ w).alloc (Nat.le_refl _) _).alloc (by simp) _).alloc (by simp; omega) _).alloc (by simp; omega) _).alloc (by simp; omega) _).alloc (by simp; omega) _
  refine wpIn_rangeFunc_ownG rfl (by omega) (gf := 96) (lb := #[.pointer (some ⟨w.heap.size + 1 + 1 + 1 + 1 + 1, 0, none⟩), .pointer (some ⟨w.heap.size + 1 + 1 + 1, 0, none⟩), .pointer (some ⟨w.heap.size + 1 + 1 + 1 + 1, 0, none⟩)]) rfl trivial (enters_of Try.func96 (by kernel_rfl) rfl)
    (args_stops _ (by omega) (w.heap.size + 1 + 1 + 1 + 1 + 1) (w.heap.size + 1 + 1 + 1) (w.heap.size + 1 + 1 + 1 + 1) (w.heap.size + 1 + 1) (w.heap.size + 1 + 1 + 1 + 1 + 1) b off n c b' off' m c' p (aOf A T p) N A T HG.out hp rfl hc' ⟨by omega, by omega⟩ ⟨by omega, by omega⟩ ⟨by omega, by omega⟩ ⟨by omega, by omega⟩ _ (by simp) (by simp) b5.cell ((b3.alloc _).alloc _).cell (b4.alloc _).cell (HS.out.keep hB0) (HT.out.keep hB0))
    butK_t (butK_b (by simp)) (Below.refl _ _) (fun _ => rfl)
    (fun pre W => (W.cell? ⟨w.heap.size + 1 + 1, 0, none⟩ = some (.int .i64 (mxD (aOf A T) m pre : Nat)) ∧ W.frozen? ⟨w.heap.size + 1 + 1, 0, none⟩ = false ∧ W.cell? ⟨w.heap.size, 0, none⟩ = some (.slice (some ⟨b, off, none⟩) n c) ∧ W.cell? ⟨w.heap.size + 1, 0, none⟩ = some (.slice (some ⟨b', off', none⟩) m c') ∧ w.heap.size + 1 + 1 + 1 + 1 + 1 < W.heap.size) ∧ Below w.heap.size w W)
    (fun _ _ _ => False)
    (OwnFrom.and (Own.from (fun s A B row hs hg hr => ⟨cell_kept hs.1 hg hr, (frozen_kept hs.1 hg hr).trans hs.2.1, cell_kept hs.2.2.1 hg hr, cell_kept hs.2.2.2.1 hg hr, Nat.lt_of_lt_of_le hs.2.2.2.2 hg.size⟩) _) (ownFrom_below (Nat.le_refl _) (by simp; omega)))
    (fun _ _ _ _ _ hs _ _ => hs)
    ⟨⟨(((b2.alloc _).alloc _).alloc _).cell, (((b2.alloc _).alloc _).alloc _).frozen, (((((b0.alloc _).alloc _).alloc _).alloc _).alloc _).cell, ((((b1.alloc _).alloc _).alloc _).alloc _).cell, by simp⟩, hB0⟩
    (fun x => { tmps := #[.agg #[.slice (some ⟨b, off, none⟩) n c], .slice (some ⟨b', off', none⟩) m c', .int .i64 p, .pointer (some ⟨w.heap.size, 0, none⟩), .pointer (some ⟨w.heap.size + 1, 0, none⟩), undef, .int .i64 0, .pointer (some ⟨w.heap.size + 1 + 1, 0, none⟩), .int .i64 (x.1 : Int), .agg #[.slice (some ⟨b, off, none⟩) n c], .slice (some ⟨b', off', none⟩) m c', .int .i64 p, .func (.func 96) #[] #[.pointer (some ⟨w.heap.size + 1 + 1 + 1 + 1 + 1, 0, none⟩), .pointer (some ⟨w.heap.size + 1 + 1 + 1, 0, none⟩), .pointer (some ⟨w.heap.size + 1 + 1 + 1 + 1, 0, none⟩)], .int .i64 (x.1 : Int), undef, undef, undef, undef, undef, undef, undef, undef], defers := [] }) ?assign ?body ?done ?stop
  case assign =>
    intro l x W K hK
    gi_wp2
    exact hK
  case body =>
    rintro l pre x W ⟨⟨hcx, hfx, hcs, hct, hsW⟩, hB⟩ hl
    have hle := mxD_le (aOf A T) m pre
    have hdl := dpt_le (aOf A T) x.2.2
    have HM := hidden (mxD_snoc (aOf A T) m pre x)
    have HB := hidden hB
    have IC := hidden (IH.out x.1 (by have := x.2.1; omega) x.2.2 W.drew (HS.out.keep hB.drew) (HT.out.keep hB.drew))
    have hX : w.heap.size + 1 + 1 < W.heap.size := World.block_lt_of_cell? W _ hcx
    clear hB
    generalize mxD (aOf A T) m pre = z at *
    generalize dpt (aOf A T) m x.1 = u at *
    gi_wp2
    gi_region_with_o (refine ⟨trivial, ?_⟩; gi_at_call 56; refine (CallsIn.inRound l (callsIn_wide.2 IC.out)).mono ?_; rintro e w' ⟨rfl, hb1⟩; clear IC; have cX : w'.cell? ⟨w.heap.size + 1 + 1, 0, none⟩ = some (.int .i64 (z : Int)) := (hb1.cell (p := ⟨w.heap.size + 1 + 1, 0, none⟩) hX).trans hcx; have fX : w'.frozen? ⟨w.heap.size + 1 + 1, 0, none⟩ = false := (hb1.frozen (p := ⟨w.heap.size + 1 + 1, 0, none⟩) hX).trans hfx)
    all_goals gi_wp2
    all_goals (try go_bits)
    all_goals (
      have hbW : Below W.heap.size W w' := (Below.refl _ W).drew.trans hb1
      have hsz := HB.out.size
      refine ⟨(keepsFrom_below hbW).trans ((KeepsOthers.setCell _ _ _).from _), (But.of hbW (by omega)).trans (But.set _ _ _ _), ⟨?_, by rw [World.frozen?_setCell]; exact fX, ?_, ?_, ?_⟩, (HB.out.trans (hbW.mono hsz)).setCell (p := ⟨w.heap.size + 1 + 1, 0, none⟩) (by simp; omega) _⟩
      · rw [HM.out]
        first
          | (rw [show max z u = u by omega]; exact World.cell?_setCell_same' _ _ _ (by rw [cX]; rfl))
          | (rw [show max z u = z by omega]; exact World.cell?_setCell_same' _ _ _ (by rw [cX]; rfl))
      · rw [World.cell?_setCell_other _ _ _ _ (by simp)]; exact (hbW.cell (p := ⟨w.heap.size, 0, none⟩) (by show w.heap.size < W.heap.size; omega)).trans hcs
      · rw [World.cell?_setCell_other _ _ _ _ (by simp)]; exact (hbW.cell (p := ⟨w.heap.size + 1, 0, none⟩) (by show w.heap.size + 1 < W.heap.size; omega)).trans hct
      · have := hbW.size; simp; omega)
  case done =>
    rintro D ys W hD hys ⟨⟨hcx, _, _, _, _⟩, hB⟩ hK
    have HR := hidden (mxD_args hp HEN.out hys)
    have hle := mxD_le (aOf A T) m ys
    clear hys
    generalize mxD (aOf A T) m ys = z at *
    gi_wp2
    refine ⟨by simp, .inl ⟨_, _, rfl, run_takeDeferred hK, ?_⟩⟩
    exact ⟨_, results_tmp rfl _ _ _, by rw [← HR.out]; go_num, hB.trans (belowK_b (w := w) (Nat.le_refl _) W D _ _ (by simp at hD; omega) hK rfl rfl)⟩
  case stop =>
    rintro D c pre W _ _ h _
    exact h.elim

/-- What DepthOf answers beside the fault. -/
noncomputable def dpV (n : Nat) (N : Nat → ByteArray) (A : Nat → Int) (m : Nat) (T : Nat → Int) : Int := if termF n N A m T = 0 then (dpt (aOf A T) m 0 : Int) else 0

section
variable {n : Nat} {N : Nat → ByteArray} {A : Nat → Int} {m : Nat} {T : Nat → Int}
theorem dp_fault (h : termF n N A m T ≠ 0) : dpV n N A m T = 0 := by simp [dpV, h]
theorem dp_ok (h : termF n N A m T = 0) : dpV n N A m T = (dpt (aOf A T) m 0 : Int) := by simp [dpV, h]
end

set_option maxRecDepth 20000 in
set_option maxHeartbeats 1600000 in
theorem specDepth_any (b off n c b' off' m c' : Nat) (N : Nat → ByteArray) (A T : Nat → Int) (w : World) (h : Syms w b off n N A) (h' : Ints w b' off' m T) (hk : Kept n N A) (hm : m ≤ 1048576) :
    Calls Try.prog 21 #[.agg #[.slice (some ⟨b, off, none⟩) n c], .slice (some ⟨b', off', none⟩) m c'] w fun e w' => e = .returned (.agg #[.int .i64 (termF n N A m T), .int .i64 (dpV n N A m T)]) ∧ Below w.heap.size w w' := by
  have D := hidden ((One.new w (.slice (some ⟨b, off, none⟩) n c) 30).keep (alloc_below _ (.cells #[.int .i64 0, .int .i64 0] 38)))
  have R := hidden (Res.new (w.alloc (.cells #[.slice (some ⟨b, off, none⟩) n c] 30)) (.int .i64 0) (.int .i64 0) 38)
  have B := hidden (keepB (alloc_below w (.cells #[.slice (some ⟨b, off, none⟩) n c] 30)) (alloc_below _ (.cells #[.int .i64 0, .int .i64 0] 38)))
  have Q := hidden (h.keep B.out)
  have I := hidden (h'.keep B.out)
  have HK := hidden hk
  rw [World.size_alloc] at R
  clear h h' hk
  go_enter Try.func21, Try.ntmps21
  go_wp2_with fail
  with_reducible refine (specTerm_any _ _ _ _ _ _ _ _ N A T _ Q.out I.out HK.out hm).mono ?_
  rintro e w1 ⟨rfl, hb⟩
  replace D := hidden (D.out.keep hb)
  replace R := hidden (R.out.keep hb)
  replace B := hidden (keepB B.out hb)
  replace I := hidden (I.out.keep hb)
  replace Q := hidden (Q.out.keep hb)
  clear hb
  by_cases hf : termF n N A m T = 0
  · have HF := hidden hf
    have HA := hidden (dp_ok hf)
    have DC := hidden (show Calls Try.prog 55 #[.pointer (some ⟨w.heap.size, 0, none⟩), .slice (some ⟨b', off', none⟩) m c', .int .i64 0] w1 _ from l3Depth_any w.heap.size b off n c b' off' m c' N A T (term_right hf) m 0 (by omega) (term_right hf).pos w1 D.out Q.out I.out)
    rw [hf]
    clear hf
    go_wp2_with fail
    with_reducible refine DC.out.mono ?_
    rintro e w2 ⟨rfl, hb⟩
    replace R := hidden (R.out.keep hb)
    replace B := hidden (keepB B.out hb)
    clear hb D I Q DC
    generalize dpt (aOf A T) m 0 = k at *
    obtain ⟨_, q0, q1, f0, f1⟩ := id R.out
    go_wp2
    exact bodyPost_ret (v := .agg #[.int .i64 0, .int .i64 (k : Int)]) (by simp [results, Try.results21, go_sem, q0, q1]) rfl ⟨by rw [HA.out, HF.out], (B.out.setCell (by simp) _).setCell (by simp) _⟩
  · have HA := hidden (dp_fault hf)
    have hf' : (termF n N A m T != 0) = true := by simpa using hf
    generalize hz : termF n N A m T = z at *
    have HZ := hidden hz
    clear hf hz
    obtain ⟨_, q0, q1, f0, f1⟩ := id R.out
    go_wp2
    exact bodyPost_ret (v := .agg #[.int .i64 z, .int .i64 0]) (by simp [results, Try.results21, go_sem, q0, q1]) rfl ⟨by rw [HA.out, HZ.out], (B.out.setCell (by simp) _).setCell (by simp) _⟩

set_option maxRecDepth 20000 in
set_option maxHeartbeats 1600000 in
theorem implDepth_any (b off n c b' off' m c' : Nat) (N : Nat → ByteArray) (A T : Nat → Int) (w : World) (h : Syms w b off n N A) (h' : Ints w b' off' m T) (hk : Kept n N A) (hm : m ≤ 1048576) (hc : m ≤ c') :
    Calls Try.prog 22 #[.agg #[.slice (some ⟨b, off, none⟩) n c], .slice (some ⟨b', off', none⟩) m c'] w fun e w' => e = .returned (.agg #[.int .i64 (termF n N A m T), .int .i64 (dpV n N A m T)]) ∧ Below w.heap.size w w' := by
  have D := hidden ((One.new w (.slice (some ⟨b, off, none⟩) n c) 30).keep (alloc_below _ (.cells #[.int .i64 0, .int .i64 0] 38)))
  have R := hidden (Res.new (w.alloc (.cells #[.slice (some ⟨b, off, none⟩) n c] 30)) (.int .i64 0) (.int .i64 0) 38)
  have B := hidden (keepB (alloc_below w (.cells #[.slice (some ⟨b, off, none⟩) n c] 30)) (alloc_below _ (.cells #[.int .i64 0, .int .i64 0] 38)))
  have Q := hidden (h.keep B.out)
  have I := hidden (h'.keep B.out)
  have HK := hidden hk
  rw [World.size_alloc] at R
  clear h h' hk
  go_enter Try.func22, Try.ntmps22
  go_wp2_with fail
  with_reducible refine (implTerm_any _ _ _ _ _ _ _ _ N A T _ Q.out I.out HK.out hm).mono ?_
  rintro e w1 ⟨rfl, hb⟩
  replace D := hidden (D.out.keep hb)
  replace R := hidden (R.out.keep hb)
  replace B := hidden (keepB B.out hb)
  replace I := hidden (I.out.keep hb)
  replace Q := hidden (Q.out.keep hb)
  clear hb
  by_cases hf : termF n N A m T = 0
  · have HF := hidden hf
    have HA := hidden (dp_ok hf)
    have DC := hidden (show Calls Try.prog 56 #[.agg #[.slice (some ⟨b, off, none⟩) n c], .slice (some ⟨b', off', none⟩) m c', .int .i64 0] w1 _ from depthThere_any b off n c b' off' m c' N A T (term_right hf) hc m 0 (by omega) (term_right hf).pos w1 Q.out I.out)
    have d0 := D.out.c0
    rw [hf]
    clear hf
    go_wp2_with fail
    with_reducible refine DC.out.mono ?_
    rintro e w2 ⟨rfl, hb⟩
    clear d0
    replace R := hidden (R.out.keep hb)
    replace B := hidden (keepB B.out hb)
    clear hb D I Q DC
    generalize dpt (aOf A T) m 0 = k at *
    obtain ⟨_, q0, q1, f0, f1⟩ := id R.out
    go_wp2
    exact bodyPost_ret (v := .agg #[.int .i64 0, .int .i64 (k : Int)]) (by simp [results, Try.results22, go_sem, q0, q1]) rfl ⟨by rw [HA.out, HF.out], (B.out.setCell (by simp) _).setCell (by simp) _⟩
  · have HA := hidden (dp_fault hf)
    have hf' : (termF n N A m T != 0) = true := by simpa using hf
    generalize hz : termF n N A m T = z at *
    have HZ := hidden hz
    clear hf hz
    obtain ⟨_, q0, q1, f0, f1⟩ := id R.out
    go_wp2
    exact bodyPost_ret (v := .agg #[.int .i64 z, .int .i64 0]) (by simp [results, Try.results22, go_sem, q0, q1]) rfl ⟨by rw [HA.out, HZ.out], (B.out.setCell (by simp) _).setCell (by simp) _⟩

end Go.Proofs.Ytjahldlcbgdllaa
