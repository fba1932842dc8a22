/- Several texts as one: Usd, Utm, Utl. -/
import Derived.Test.YtenlogljpgdbpaaNC
import Derived.Deep.RegionHeld3
/- Contract: the program's unifySides: one pair is asked. -/
namespace Go.Proofs.Ytenlogljpgdbpaa
open Go.RowKit

open Classical in
/-- What a pair of terms without bound variables tells. -/
noncomputable def uTop (A : Nat → Int) (M : Nat → List Int) (x y : List Int) : Int ⊕ ((Nat → List Int) × List (List Int × List Int)) :=
  if x = y then .inr (M, []) else if fnL x 0 < 0 then uBind M (-1 - fnL x 0).toNat y else if fnL y 0 < 0 then uBind M (-1 - fnL y 0).toNat x else if fnL x 0 ≠ fnL y 0 then .inl 4 else .inr (M, argPs A x y)

theorem uStep_top {A : Nat → Int} {M : Nat → List Int} {a b x y : List Int} (hx : x = apL M a) (hy : y = apL M b) (h : ¬ (24 < x.length ∨ 24 < y.length)) : uStep A M a b = uTop A M x y := by
  subst hx; subst hy; unfold uStep uTop; rw [if_neg h]

section
variable {A : Nat → Int} {M : Nat → List Int} {x y : List Int}
theorem uTop_same (h : x = y) : uTop A M x y = .inr (M, []) := by unfold uTop; rw [if_pos h]
theorem uTop_x (h : x ≠ y) (h0 : fnL x 0 < 0) : uTop A M x y = uBind M (-1 - fnL x 0).toNat y := by unfold uTop; rw [if_neg h, if_pos h0]
theorem uTop_y (h : x ≠ y) (h0 : ¬ fnL x 0 < 0) (h1 : fnL y 0 < 0) : uTop A M x y = uBind M (-1 - fnL y 0).toNat x := by unfold uTop; rw [if_neg h, if_neg h0, if_pos h1]
theorem uTop_none (h : x ≠ y) (h0 : ¬ fnL x 0 < 0) (h1 : ¬ fnL y 0 < 0) (h2 : fnL x 0 ≠ fnL y 0) : uTop A M x y = .inl 4 := by unfold uTop; rw [if_neg h, if_neg h0, if_neg h1, if_pos h2]
theorem uTop_args (h : x ≠ y) (h0 : ¬ fnL x 0 < 0) (h1 : ¬ fnL y 0 < 0) (h2 : fnL x 0 = fnL y 0) : uTop A M x y = .inr (M, argPs A x y) := by unfold uTop; rw [if_neg h, if_neg h0, if_neg h1, if_neg (by simp [h2])]
end

theorem OwnMX.hi {w : World} {lo hi hi' no g n c : Nat} {D : LsL} (h : OwnMX w lo hi no g n c D) (h1 : hi ≤ hi') (h2 : hi' ≤ w.heap.size) : OwnMX w lo hi' no g n c D := by
  obtain ⟨a1, a2, a3, a4, xs, G, ho, hx, hm⟩ := h
  refine ⟨a1, by omega, h2, a4, xs, G, ho, fun i hi => ?_, hm⟩
  obtain ⟨d, b1, b2, b3, b4, b5⟩ := hx i hi
  exact ⟨d, b1, b2, b3, by omega, b5⟩
theorem OwnBx.hi {w : World} {lo hi hi' g1 m d1 : Nat} {V : Nat → Int} {g2 t d2 : Nat} {D : LsL} (h : OwnBx w lo hi g1 m d1 V g2 t d2 D) (h1 : hi ≤ hi') (h2 : hi' ≤ w.heap.size) : OwnBx w lo hi' g1 m d1 V g2 t d2 D :=
  ⟨h.base, by have := h.up; omega, h2, h.vars, h.terms.hi h1 h2⟩

/-- What is bound so far, as the program has it. -/
def BdB (w : World) (lo : Nat) (M : Nat → List Int) (va ta : Value) : Prop :=
  (cR M = 0 ∧ va = .slice none 0 0 ∧ ta = .slice none 0 0) ∨ (0 < cR M ∧ ∃ lo' g1 d1 g2 d2, va = .slice (some ⟨g1, 0, none⟩) (cR M) d1 ∧ ta = .slice (some ⟨g2, 0, none⟩) (cR M) d2 ∧ lo ≤ lo' ∧ OwnBx w lo' w.heap.size g1 (cR M) d1 (cV M) g2 (cR M) d2 (cnD M 12))

theorem BdB.keep {w w' : World} {lo : Nat} {M : Nat → List Int} {va ta : Value} (h : BdB w lo M va ta) (hb : Below w.heap.size w w') : BdB w' lo M va ta :=
  h.imp id fun ⟨h0, lo', g1, d1, g2, d2, e1, e2, hl, ho⟩ => ⟨h0, lo', g1, d1, g2, d2, e1, e2, hl, (ho.keep hb).hi hb.size (Nat.le_refl _)⟩

theorem BdB.setLow {w : World} {lo : Nat} {M : Nat → List Int} {va ta : Value} (h : BdB w lo M va ta) (s o : Nat) (u : Value) (hs : s < lo) : BdB (w.setCell ⟨s, o, none⟩ u) lo M va ta :=
  h.imp id fun ⟨h0, lo', g1, d1, g2, d2, e1, e2, hl, ho⟩ => ⟨h0, lo', g1, d1, g2, d2, e1, e2, hl, ho.setLow s o u (by omega)⟩

theorem BdB.le {w : World} {lo lo' : Nat} {M : Nat → List Int} {va ta : Value} (h : BdB w lo M va ta) (hl : lo' ≤ lo) : BdB w lo' M va ta :=
  h.imp id fun ⟨h0, l2, g1, d1, g2, d2, e1, e2, hl2, ho⟩ => ⟨h0, l2, g1, d1, g2, d2, e1, e2, by omega, ho⟩

theorem BdB.inn {n : Nat} {A : Nat → Int} {w : World} {lo : Nat} {M : Nat → List Int} {va ta : Value} (h : BdB w lo M va ta) (hM : UnM n A M) : ∃ p1 c1 p2 c2, va = .slice p1 (cR M) c1 ∧ ta = .slice p2 (cR M) c2 ∧ BnIn w p1 p2 (cR M) (cV M) (cnD M 12) := by
  have key : ∀ i, i < cR M → (1 ≤ (cnD M 12).m i ∧ (cnD M 12).m i ≤ 24) ∧ ∀ j, j < (cnD M 12).m i → -12 ≤ (cnD M 12).L i j := fun i hi => by
    obtain ⟨x, hx, _, hne⟩ := cV_get hi
    rw [(cnD_m hx).1, (cnD_m hx).2]
    refine ⟨⟨List.length_pos_iff.2 hne, hM.lows.1 x⟩, fun j hj => hM.lows.2 x _ ?_⟩
    show (M x).getD j 0 ∈ M x
    rw [List.getD_eq_getElem?_getD, List.getElem?_eq_getElem hj]
    exact List.getElem_mem _
  have mk : ∀ p1 p2, RowV w p1 (cR M) (cV M) → MatV w p2 (cR M) (cnD M 12) → BnIn w p1 p2 (cR M) (cV M) (cnD M 12) := fun p1 p2 h1 h2 =>
    ⟨h1, h2, cR_le M, fun i hi => by obtain ⟨x, hx, hl, _⟩ := cV_get hi; rw [hx]; omega, fun a b ha hb e => by
      rcases Nat.lt_trichotomy a b with h | h | h
      · have := cV_inc h hb; omega
      · exact h
      · have := cV_inc h ha; omega, fun i hi => (key i hi).1, fun i hi => (key i hi).2⟩
  rcases h with ⟨h0, rfl, rfl⟩ | ⟨h0, lo', g1, d1, g2, d2, rfl, rfl, _, ho⟩
  · exact ⟨none, 0, none, 0, by rw [h0], by rw [h0], mk _ _ (Or.inl h0) (Or.inl h0)⟩
  · exact ⟨_, d1, _, d2, rfl, rfl, mk _ _ (Or.inr ⟨g1, 0, rfl, ho.vars.ints⟩) (Or.inr ⟨g2, 0, rfl, ho.terms.mats⟩)⟩

theorem BnAns.bdB {w w' : World} {C z : Int} {M : Nat → List Int} {va ta : Value} (h : BnAns w C M (.returned (.agg #[.int .i64 z, va, ta])) w') :
    (C ≠ 0 ∧ z = C ∧ va = .slice none 0 0 ∧ ta = .slice none 0 0) ∨ (C = 0 ∧ z = 0 ∧ BdB w' w.heap.size M va ta) := by
  rcases h with ⟨h1, h2⟩ | ⟨h1, h2, lo, g1, d1, g2, d2, h3, h4, h5⟩
  · simp at h2
    obtain ⟨rfl, rfl, rfl⟩ := h2
    by_cases hc : z = 0
    · exact Or.inr ⟨hc, hc, Or.inl ⟨by rcases h1 with h | h; exact absurd hc h; exact h, rfl, rfl⟩⟩
    · exact Or.inl ⟨hc, rfl, rfl, rfl⟩
  · simp at h3
    obtain ⟨rfl, rfl, rfl⟩ := h3
    exact Or.inr ⟨h1, rfl, Or.inr ⟨h2, lo, g1, d1, g2, d2, rfl, rfl, h4, h5⟩⟩

/-- What unifySides answers. -/
def UsAns (w : World) (A : Nat → Int) (lo : Nat) (K : Nat → Prop) (M : Nat → List Int) (va0 ta0 : Value) (x y : List Int) (e : Ending) (w' : World) : Prop :=
  (∃ c, c ≠ 0 ∧ uTop A M x y = .inl c ∧ e = .returned (.tuple #[.agg #[.int .i64 c, .slice none 0 0, .slice none 0 0], .slice none 0 0])) ∨
  (∃ M' va ta v k P, uTop A M x y = .inr (M', (List.range k).map P) ∧ e = .returned (.tuple #[.agg #[.int .i64 0, va, ta], v]) ∧ BdB w' lo M' va ta ∧ GrQ 61 w' w.heap.size K w.heap.size v k P ∧ (v = .slice none 0 0 ∨ (M' = M ∧ va = va0 ∧ ta = ta0)))

theorem UsAns.bind {w w' : World} {A : Nat → Int} {lo : Nat} {K : Nat → Prop} {M : Nat → List Int} {x y t : List Int} {v : Nat} {z : Int} {va ta va0 ta0 : Value} (ht : t.length ≤ 24) (h12 : ∀ v, 12 ≤ v → M v = []) (h0 : M v = []) (hu : uTop A M x y = uBind M v t)
    (h : BnAns w (baC (cR M) (cnD M 12) v t.length (fnL t)) (baM (cR M) (cV M) (cnD M 12) v t.length (fnL t)) (.returned (.agg #[.int .i64 z, va, ta])) w') (hlo : lo ≤ w.heap.size) (hs : w.heap.size ≤ w'.heap.size) :
    UsAns w A lo K M va0 ta0 x y (.returned (.tuple #[.agg #[.int .i64 z, va, ta], .slice none 0 0])) w' := by
  have hb := ba_bind (M := M) (v := v) (T := fnL t) ht h12
  rw [upto_fnL] at hb
  rcases h.bdB with ⟨h1, rfl, rfl, rfl⟩ | ⟨h1, rfl, h2⟩
  · rcases hb with ⟨c, hc, h3, h4⟩ | ⟨_, h4⟩
    · exact Or.inl ⟨_, h1, by rw [hu, h3, h4], rfl⟩
    · exact absurd h4 h1
  · rcases hb with ⟨c, hc, h3, h4⟩ | ⟨h3, h4⟩
    · rw [h4] at h1; subst h1; rcases hc with h | h <;> cases h
    · rw [baM_bind h12 h0, upto_fnL] at h2
      exact Or.inr ⟨bind1 M v t, va, ta, _, 0, fun _ => ([], []), by rw [hu, h3]; rfl, rfl, h2.le hlo, GrQ.nil _ _ _ _ _ _ hs (Nat.le_refl _), Or.inl rfl⟩

set_option maxRecDepth 20000 in
set_option maxHeartbeats 6400000 in
theorem unifySides_any (b off n c g5 d5 g7 d7 lo : Nat) (K : Nat → Prop) (N : Nat → ByteArray) (A : Nat → Int) (M : Nat → List Int) (va ta : Value) (x y : List Int) (w : World) (h : Syms w b off n N A) (hM : UnM n A M) (hbd : BdB w lo M va ta) (hx : TrmL n A x) (hy : TrmL n A y) (fx : FreeL M x) (fy : FreeL M y) (ix : Ints w g5 0 x.length (fnL x)) (iy : Ints w g7 0 y.length (fnL y)) (kx : x.length ≤ d5) (ky : y.length ≤ d7) (lx : K g5) (ly : K g7) (hlo : lo ≤ w.heap.size) :
    Calls Try.prog 41 #[.agg #[.slice (some ⟨b, off, none⟩) n c], .agg #[va, ta], .agg #[.slice (some ⟨g5, 0, none⟩) x.length d5, .slice (some ⟨g7, 0, none⟩) y.length d7]] w fun e w' => UsAns w A lo K M va ta x y e w' ∧ Below w.heap.size w w' := by
  obtain ⟨p1, c1, p2, c2, rfl, rfl, hin⟩ := hbd.inn hM
  have hlx := hx.nods.most
  have hly := hy.nods.most
  have hlxp := hx.pos
  have hlyp := hy.pos
  have bA := alloc_below w (.cells #[.slice (some ⟨b, off, none⟩) n c] 35)
  have bB := alloc_below (w.alloc (.cells #[.slice (some ⟨b, off, none⟩) n c] 35)) (.cells #[.slice p1 (cR M) c1, .slice p2 (cR M) c2] 29)
  have bC := alloc_below ((w.alloc (.cells #[.slice (some ⟨b, off, none⟩) n c] 35)).alloc (.cells #[.slice p1 (cR M) c1, .slice p2 (cR M) c2] 29)) (.cells #[.slice (some ⟨g5, 0, none⟩) x.length d5, .slice (some ⟨g7, 0, none⟩) y.length d7] 61)
  have bD := alloc_below (((w.alloc (.cells #[.slice (some ⟨b, off, none⟩) n c] 35)).alloc (.cells #[.slice p1 (cR M) c1, .slice p2 (cR M) c2] 29)).alloc (.cells #[.slice (some ⟨g5, 0, none⟩) x.length d5, .slice (some ⟨g7, 0, none⟩) y.length d7] 61)) (.cells #[.int .i64 0, .slice none 0 0, .slice none 0 0] 31)
  have x3 := ((One.new w (.slice (some ⟨b, off, none⟩) n c) 35).keep bB).keep (keepB bC bD)
  have x4 := ((Two.new (w.alloc (.cells #[.slice (some ⟨b, off, none⟩) n c] 35)) (.slice p1 (cR M) c1) (.slice p2 (cR M) c2) 29).keep bC).keep bD
  have x5 := (Two.new ((w.alloc (.cells #[.slice (some ⟨b, off, none⟩) n c] 35)).alloc (.cells #[.slice p1 (cR M) c1, .slice p2 (cR M) c2] 29)) (.slice (some ⟨g5, 0, none⟩) x.length d5) (.slice (some ⟨g7, 0, none⟩) y.length d7) 61).keep bD
  have r6 := Bn3.new (((w.alloc (.cells #[.slice (some ⟨b, off, none⟩) n c] 35)).alloc (.cells #[.slice p1 (cR M) c1, .slice p2 (cR M) c2] 29)).alloc (.cells #[.slice (some ⟨g5, 0, none⟩) x.length d5, .slice (some ⟨g7, 0, none⟩) y.length d7] 61)) (.int .i64 0) (.slice none 0 0) (.slice none 0 0) 31
  simp only [World.size_alloc] at x3 x4 x5 r6
  have bW := keepB bA (keepB bB (keepB bC bD))
  obtain ⟨W, hW⟩ : ∃ W, W = (((w.alloc (.cells #[.slice (some ⟨b, off, none⟩) n c] 35)).alloc (.cells #[.slice p1 (cR M) c1, .slice p2 (cR M) c2] 29)).alloc (.cells #[.slice (some ⟨g5, 0, none⟩) x.length d5, .slice (some ⟨g7, 0, none⟩) y.length d7] 61)).alloc (.cells #[.int .i64 0, .slice none 0 0, .slice none 0 0] 31) := ⟨_, rfl⟩
  rw [← hW] at x3 x4 x5 r6 bW
  have X3 := hidden x3
  have X4 := hidden x4
  have X5 := hidden x5
  have R := hidden r6
  have B := hidden bW
  have Q := hidden (h.keep bW)
  have IN := hidden (hin.keep bW)
  have BD := hidden (hbd.keep bW)
  have IX := hidden (ix.keep bW)
  have IY := hidden (iy.keep bW)
  have HX := hidden hx
  have HY := hidden hy
  have FX := hidden fx
  have FY := hidden fy
  have HM := hidden hM
  have HLO := hidden hlo
  have HBD := hidden hbd
  have HS3 := hidden (show w.heap.size ≤ w.heap.size + 1 + 1 + 1 by omega)
  have hs0 : w.heap.size + 1 + 1 + 1 ≠ w.heap.size := by omega
  have hs1 : w.heap.size + 1 + 1 + 1 ≠ w.heap.size + 1 := by omega
  have hs5 : w.heap.size + 1 + 1 + 1 ≠ g5 := by have := ix.blk hlxp; omega
  have hs7 : w.heap.size + 1 + 1 + 1 ≠ g7 := by have := iy.blk hlyp; omega
  have HG := hidden (And.intro (ix.blk hlxp) (iy.blk hlyp))
  clear x3 x4 x5 r6 bA bB bC bD bW h hin hbd ix iy hx hy fx fy hM hlo
  have a0 := X5.out.c0
  have a1 := X5.out.c1
  go_enter Try.func41, Try.ntmps41
  go_upto_region 1 with fail
  rw [← hW]
  clear hW
  go_cut [8, 9] (fun t u wc => t = .slice (some ⟨g5, 0, none⟩) x.length d5 ∧ u = .slice (some ⟨g7, 0, none⟩) y.length d7 ∧ Below W.heap.size W wc)
  case first =>
    go_region_held3 (fun wz => wz.cell? ⟨w.heap.size + 1 + 1, 0, none⟩ = some (.slice (some ⟨g5, 0, none⟩) x.length d5) ∧ wz.cell? ⟨w.heap.size + 1 + 1, 1, none⟩ = some (.slice (some ⟨g7, 0, none⟩) y.length d7)) (first | exact ⟨by assumption, by assumption⟩ | go_keep) (fail)
    all_goals (go_wp2_with fail; go_meet)
    all_goals exact ⟨rfl, rfl, (Below.refl _ _).drew⟩
  case rest =>
    rename World => w1
    obtain ⟨rfl, rfl, hb⟩ := hcut
    replace X3 := hidden (X3.out.keep hb)
    replace X4 := hidden (X4.out.keep hb)
    replace R := hidden (R.out.keep hb)
    replace B := hidden (keepB B.out hb)
    replace Q := hidden (Q.out.keep hb)
    replace IN := hidden (IN.out.keep hb)
    replace IX := hidden (IX.out.keep hb)
    replace IY := hidden (IY.out.keep hb)
    clear hb a0 a1 X5
    go_wp2_with fail
    with_reducible refine (sameTerms_any _ _ _ _ _ _ _ _ (fnL x) (fnL y) _ IX.out IY.out (by omega)).mono ?_
    rintro e w2 ⟨rfl, hb⟩
    replace X3 := hidden (X3.out.keep hb)
    replace X4 := hidden (X4.out.keep hb)
    replace R := hidden (R.out.keep hb)
    replace B := hidden (keepB B.out hb)
    replace Q := hidden (Q.out.keep hb)
    replace IN := hidden (IN.out.keep hb)
    replace IX := hidden (IX.out.keep hb)
    replace IY := hidden (IY.out.keep hb)
    clear hb
    by_cases hxy : x = y
    · have HXY := hidden hxy
      rw [show sameI x.length y.length (fnL x) (fnL y) = true by rw [hxy]; exact sameI_yes y]
      clear hxy
      have m0 := X4.out.c0
      have m1 := X4.out.c1
      obtain ⟨_, q0, q1, q2, f0, f1, f2⟩ := id R.out
      go_wp2
      exact bodyPost_ret (v := .tuple #[.agg #[.int .i64 0, .slice p1 (cR M) c1, .slice p2 (cR M) c2], .slice none 0 0]) (by simp [results, Try.results41, go_sem, q0, q1, q2]) rfl ⟨Or.inr ⟨M, _, _, _, 0, fun _ => ([], []), uTop_same HXY.out, rfl, HBD.out.keep (((B.out.setCell HS3.out _).setCell HS3.out _).setCell HS3.out _), GrQ.nil _ _ _ _ _ _ (by have := B.out.size; simpa using this) (Nat.le_refl _), Or.inl rfl⟩, ((B.out.setCell HS3.out _).setCell HS3.out _).setCell HS3.out _⟩
    · have HNE := hidden hxy
      rw [sameI_no hxy]
      clear hxy
      by_cases hx0 : fnL x 0 < 0
      · obtain ⟨v, hv12, hv, hvn⟩ := trmL_var HX.out hx0
        have HV := hidden hv
        have HV12 := hidden hv12
        have HVN := hidden hvn
        have cx : w2.cell? ⟨g5, 0, none⟩ = some (.int .i64 (-1 - (v : Int))) := by rw [← hv]; have := IX.out.cell 0 HX.out.pos; rw [Nat.zero_add] at this; exact this
        clear hv hvn hx0
        go_wp2_with fail
        with_reducible refine (isVariable_any _ _).mono ?_
        rintro e w3 ⟨rfl, hb⟩
        rw [show varB (-1 - (v : Int)) = true by simp [varB]; omega]
        replace cx : w3.cell? ⟨g5, 0, none⟩ = some (.int .i64 (-1 - (v : Int))) := (hb.cell (p := ⟨g5, 0, none⟩) (IX.out.blk HX.out.pos)).trans cx
        replace X3 := hidden (X3.out.keep hb)
        replace X4 := hidden (X4.out.keep hb)
        replace R := hidden (R.out.keep hb)
        replace B := hidden (keepB B.out hb)
        replace Q := hidden (Q.out.keep hb)
        replace IN := hidden (IN.out.keep hb)
        replace IX := hidden (IX.out.keep hb)
        replace IY := hidden (IY.out.keep hb)
        clear hb
        have HM0 := hidden (show M v = [] from by
          have h1 := trmL_head HX.out
          rw [HV.out] at h1
          exact FX.out v h1)
        have HUT := hidden (show uTop A M x y = uBind M v y from by
          have hx0n : fnL x 0 < 0 := by rw [HV.out]; omega
          rw [uTop_x HNE.out hx0n, HVN.out])
        have HZ := hidden R.out.blk
        have BH := hidden (show ∀ (ww : World), Below w3.heap.size w3 ww → Calls Try.prog 78 #[.agg #[.slice p1 (cR M) c1, .slice p2 (cR M) c2], .int .i64 (-1 - (v : Int)), .slice (some ⟨g7, 0, none⟩) y.length d7] ww fun e w' => (∃ z q1 r d1 q2 d2, e = .returned (.agg #[.int .i64 z, .slice q1 r d1, .slice q2 r d2]) ∧ Bn3 w' (w.heap.size + 1 + 1 + 1) (.int .i64 0) (.slice none 0 0) (.slice none 0 0) ∧ w'.cell? ⟨w.heap.size + 1, 0, none⟩ = some (.slice p1 (cR M) c1) ∧ w'.cell? ⟨w.heap.size + 1, 1, none⟩ = some (.slice p2 (cR M) c2) ∧ w'.cell? ⟨g5, 0, none⟩ = some (.int .i64 (-1 - (v : Int))) ∧ Hid (BnAns ww (baC (cR M) (cnD M 12) v y.length (fnL y)) (baM (cR M) (cV M) (cnD M 12) v y.length (fnL y)) e w') ∧ Hid (w3.heap.size ≤ ww.heap.size ∧ Below w3.heap.size w3 w')) from fun ww hb => by
          refine (bindAlso_any p1 p2 (cR M) c1 c2 v g7 0 y.length d7 (cV M) (fnL y) (cnD M 12) ww (IN.out.keep hb) (IY.out.keep hb) ⟨HY.out.pos, HY.out.nods.most⟩ ky (trmL_low HY.out) HV12.out).mono fun e w' h => ?_
          obtain ⟨z, q1, r, d1, q2, d2, rfl⟩ := h.1.form
          refine ⟨z, q1, r, d1, q2, d2, rfl, R.out.keep (keepB hb h.2), (X4.out.keep (keepB hb h.2)).c0, (X4.out.keep (keepB hb h.2)).c1, ?_, hidden h.1, hidden ⟨hb.size, keepB hb h.2⟩⟩
          rw [← HV.out]
          have := (IX.out.keep (keepB hb h.2)).cell 0 HX.out.pos
          rw [Nat.zero_add] at this
          exact this)
        have m0 := X4.out.c0
        have m1 := X4.out.c1
        go_wp2
        go_region_held3 (fun wz => wz.cell? ⟨w.heap.size + 1, 0, none⟩ = some (.slice p1 (cR M) c1) ∧ wz.cell? ⟨w.heap.size + 1, 1, none⟩ = some (.slice p2 (cR M) c2) ∧ wz.cell? ⟨g5, 0, none⟩ = some (.int .i64 (-1 - (v : Int)))) (first | exact ⟨by assumption, by assumption, by assumption⟩ | (refine ⟨?_, ?_, ?_⟩ <;> first | (rw [World.cell?_setCell_far _ _ _ _ hs0, World.cell?_setCell_far _ _ _ _ hs0, World.cell?_setCell_far _ _ _ _ hs0]; assumption) | (rw [World.cell?_setCell_far _ _ _ _ hs1, World.cell?_setCell_far _ _ _ _ hs1, World.cell?_setCell_far _ _ _ _ hs1]; assumption) | (rw [World.cell?_setCell_far _ _ _ _ hs5, World.cell?_setCell_far _ _ _ _ hs5, World.cell?_setCell_far _ _ _ _ hs5]; assumption) | (rw [World.cell?_setCell_far _ _ _ _ hs7, World.cell?_setCell_far _ _ _ _ hs7, World.cell?_setCell_far _ _ _ _ hs7]; assumption)) | go_keep) (first
          | (go_at_call 78; with_reducible refine (BH.out _ (by first | exact (Below.refl _ _).drew | exact Below.refl _ _)).mono ?_; rintro e w9 ⟨z, q1, r, d1, q2, d2, rfl, ⟨z0, z1, z2, z3, z4, z5, z6⟩, y0, y1, y2, HA, HB⟩))
        all_goals
          go_wp2
          refine bodyPost_ret (v := .tuple #[.agg #[.int .i64 z, .slice q1 r d1, .slice q2 r d2], .slice none 0 0]) (by simp [results, Try.results41, go_sem, z1, z2, z3]) rfl ⟨UsAns.bind HY.out.nods.most HM.out.few HM0.out HUT.out (HA.out.out (by have := HB.out.1; have := HZ.out; simp at *; omega) _ _ _ _ (by have := HB.out.1; have := HZ.out; simp at *; omega)) HLO.out (by have := (keepB B.out HB.out.2).size; simpa using this), (((keepB B.out HB.out.2).setCell HS3.out _).setCell HS3.out _).setCell HS3.out _⟩
      · have HN0 := hidden hx0
        have cx : w2.cell? ⟨g5, 0, none⟩ = some (.int .i64 (fnL x 0)) := by have := IX.out.cell 0 HX.out.pos; rw [Nat.zero_add] at this; exact this
        obtain ⟨aa, haa⟩ : ∃ aa, aa = fnL x 0 := ⟨_, rfl⟩
        have HAA := hidden haa
        rw [← haa] at cx hx0
        clear haa
        go_wp2_with fail
        with_reducible refine (isVariable_any _ _).mono ?_
        rintro e wb ⟨rfl, hb⟩
        rw [show varB aa = false by simp [varB]; omega]
        replace cx : wb.cell? ⟨g5, 0, none⟩ = some (.int .i64 aa) := (hb.cell (p := ⟨g5, 0, none⟩) (IX.out.blk HX.out.pos)).trans cx
        replace X3 := hidden (X3.out.keep hb)
        replace X4 := hidden (X4.out.keep hb)
        replace R := hidden (R.out.keep hb)
        replace B := hidden (keepB B.out hb)
        replace Q := hidden (Q.out.keep hb)
        replace IN := hidden (IN.out.keep hb)
        replace IX := hidden (IX.out.keep hb)
        replace IY := hidden (IY.out.keep hb)
        clear hb
        by_cases hy0 : fnL y 0 < 0
        · obtain ⟨v, hv12, hv, hvn⟩ := trmL_var HY.out hy0
          have HV := hidden hv
          have HV12 := hidden hv12
          have HVN := hidden hvn
          have cy : wb.cell? ⟨g7, 0, none⟩ = some (.int .i64 (-1 - (v : Int))) := by rw [← hv]; have := IY.out.cell 0 HY.out.pos; rw [Nat.zero_add] at this; exact this
          clear hv hvn hy0 cx
          go_wp2_with fail
          with_reducible refine (isVariable_any _ _).mono ?_
          rintro e w3 ⟨rfl, hb⟩
          rw [show varB (-1 - (v : Int)) = true by simp [varB]; omega]
          replace cy : w3.cell? ⟨g7, 0, none⟩ = some (.int .i64 (-1 - (v : Int))) := (hb.cell (p := ⟨g7, 0, none⟩) (IY.out.blk HY.out.pos)).trans cy
          replace X3 := hidden (X3.out.keep hb)
          replace X4 := hidden (X4.out.keep hb)
          replace R := hidden (R.out.keep hb)
          replace B := hidden (keepB B.out hb)
          replace Q := hidden (Q.out.keep hb)
          replace IN := hidden (IN.out.keep hb)
          replace IX := hidden (IX.out.keep hb)
          replace IY := hidden (IY.out.keep hb)
          clear hb
          have HM0 := hidden (show M v = [] from by
            have h1 := trmL_head HY.out
            rw [HV.out] at h1
            exact FY.out v h1)
          have HUT := hidden (show uTop A M x y = uBind M v x from by
            have hy0n : fnL y 0 < 0 := by rw [HV.out]; omega
            rw [uTop_y HNE.out (by have := HN0.out; omega) hy0n, HVN.out])
          have HZ := hidden R.out.blk
          have BH := hidden (show ∀ (ww : World), Below w3.heap.size w3 ww → Calls Try.prog 78 #[.agg #[.slice p1 (cR M) c1, .slice p2 (cR M) c2], .int .i64 (-1 - (v : Int)), .slice (some ⟨g5, 0, none⟩) x.length d5] ww fun e w' => (∃ z q1 r d1 q2 d2, e = .returned (.agg #[.int .i64 z, .slice q1 r d1, .slice q2 r d2]) ∧ Bn3 w' (w.heap.size + 1 + 1 + 1) (.int .i64 0) (.slice none 0 0) (.slice none 0 0) ∧ w'.cell? ⟨w.heap.size + 1, 0, none⟩ = some (.slice p1 (cR M) c1) ∧ w'.cell? ⟨w.heap.size + 1, 1, none⟩ = some (.slice p2 (cR M) c2) ∧ w'.cell? ⟨g7, 0, none⟩ = some (.int .i64 (-1 - (v : Int))) ∧ Hid (BnAns ww (baC (cR M) (cnD M 12) v x.length (fnL x)) (baM (cR M) (cV M) (cnD M 12) v x.length (fnL x)) e w') ∧ Hid (w3.heap.size ≤ ww.heap.size ∧ Below w3.heap.size w3 w')) from fun ww hb => by
            refine (bindAlso_any p1 p2 (cR M) c1 c2 v g5 0 x.length d5 (cV M) (fnL x) (cnD M 12) ww (IN.out.keep hb) (IX.out.keep hb) ⟨HX.out.pos, HX.out.nods.most⟩ kx (trmL_low HX.out) HV12.out).mono fun e w' h => ?_
            obtain ⟨z, q1, r, d1, q2, d2, rfl⟩ := h.1.form
            refine ⟨z, q1, r, d1, q2, d2, rfl, R.out.keep (keepB hb h.2), (X4.out.keep (keepB hb h.2)).c0, (X4.out.keep (keepB hb h.2)).c1, ?_, hidden h.1, hidden ⟨hb.size, keepB hb h.2⟩⟩
            rw [← HV.out]
            have := (IY.out.keep (keepB hb h.2)).cell 0 HY.out.pos
            rw [Nat.zero_add] at this
            exact this)
          have m0 := X4.out.c0
          have m1 := X4.out.c1
          go_wp2
          go_region_held3 (fun wz => wz.cell? ⟨w.heap.size + 1, 0, none⟩ = some (.slice p1 (cR M) c1) ∧ wz.cell? ⟨w.heap.size + 1, 1, none⟩ = some (.slice p2 (cR M) c2) ∧ wz.cell? ⟨g7, 0, none⟩ = some (.int .i64 (-1 - (v : Int)))) (first | exact ⟨by assumption, by assumption, by assumption⟩ | (refine ⟨?_, ?_, ?_⟩ <;> first | (rw [World.cell?_setCell_far _ _ _ _ hs0, World.cell?_setCell_far _ _ _ _ hs0, World.cell?_setCell_far _ _ _ _ hs0]; assumption) | (rw [World.cell?_setCell_far _ _ _ _ hs1, World.cell?_setCell_far _ _ _ _ hs1, World.cell?_setCell_far _ _ _ _ hs1]; assumption) | (rw [World.cell?_setCell_far _ _ _ _ hs5, World.cell?_setCell_far _ _ _ _ hs5, World.cell?_setCell_far _ _ _ _ hs5]; assumption) | (rw [World.cell?_setCell_far _ _ _ _ hs7, World.cell?_setCell_far _ _ _ _ hs7, World.cell?_setCell_far _ _ _ _ hs7]; assumption)) | go_keep) (first
            | (go_at_call 78; with_reducible refine (BH.out _ (by first | exact (Below.refl _ _).drew | exact Below.refl _ _)).mono ?_; rintro e w9 ⟨z, q1, r, d1, q2, d2, rfl, ⟨z0, z1, z2, z3, z4, z5, z6⟩, y0, y1, y2, HA, HB⟩))
          all_goals
            go_wp2
            refine bodyPost_ret (v := .tuple #[.agg #[.int .i64 z, .slice q1 r d1, .slice q2 r d2], .slice none 0 0]) (by simp [results, Try.results41, go_sem, z1, z2, z3]) rfl ⟨UsAns.bind HX.out.nods.most HM.out.few HM0.out HUT.out (HA.out.out (by have := HB.out.1; have := HZ.out; simp at *; omega) _ _ _ _ (by have := HB.out.1; have := HZ.out; simp at *; omega)) HLO.out (by have := (keepB B.out HB.out.2).size; simpa using this), (((keepB B.out HB.out.2).setCell HS3.out _).setCell HS3.out _).setCell HS3.out _⟩
        · have HN1 := hidden hy0
          have cy : wb.cell? ⟨g7, 0, none⟩ = some (.int .i64 (fnL y 0)) := by have := IY.out.cell 0 HY.out.pos; rw [Nat.zero_add] at this; exact this
          obtain ⟨ab, hab⟩ : ∃ ab, ab = fnL y 0 := ⟨_, rfl⟩
          have HAB := hidden hab
          rw [← hab] at cy hy0
          clear hab
          go_wp2_with fail
          with_reducible refine (isVariable_any _ _).mono ?_
          rintro e w3 ⟨rfl, hb⟩
          rw [show varB ab = false by simp [varB]; omega]
          replace cx : w3.cell? ⟨g5, 0, none⟩ = some (.int .i64 aa) := (hb.cell (p := ⟨g5, 0, none⟩) (IX.out.blk HX.out.pos)).trans cx
          replace cy : w3.cell? ⟨g7, 0, none⟩ = some (.int .i64 ab) := (hb.cell (p := ⟨g7, 0, none⟩) (IY.out.blk HY.out.pos)).trans cy
          replace X3 := hidden (X3.out.keep hb)
          replace X4 := hidden (X4.out.keep hb)
          replace R := hidden (R.out.keep hb)
          replace B := hidden (keepB B.out hb)
          replace Q := hidden (Q.out.keep hb)
          replace IN := hidden (IN.out.keep hb)
          replace IX := hidden (IX.out.keep hb)
          replace IY := hidden (IY.out.keep hb)
          clear hb
          obtain ⟨bb, hbb⟩ : ∃ bb, bb = (aa != ab) := ⟨_, rfl⟩
          have HBB := hidden hbb
          clear hx0 hy0 hbb
          go_upto_region 8 with fail
          go_cut [42] (fun t wc => t = .bool bb ∧ Below w3.heap.size w3 wc)
          case first =>
            go_region_held3 (fun wz => wz.cell? ⟨g5, 0, none⟩ = some (.int .i64 aa) ∧ wz.cell? ⟨g7, 0, none⟩ = some (.int .i64 ab)) (first | exact ⟨by assumption, by assumption⟩ | go_keep) (fail)
            all_goals (go_wp2_with fail; go_meet)
            all_goals exact ⟨by rw [HBB.out], (Below.refl _ _).drew⟩
          case rest =>
            rename World => w4
            obtain ⟨rfl, hb⟩ := hcut
            replace X3 := hidden (X3.out.keep hb)
            replace X4 := hidden (X4.out.keep hb)
            replace R := hidden (R.out.keep hb)
            replace B := hidden (keepB B.out hb)
            replace Q := hidden (Q.out.keep hb)
            replace IN := hidden (IN.out.keep hb)
            replace IX := hidden (IX.out.keep hb)
            replace IY := hidden (IY.out.keep hb)
            clear hb cx cy
            by_cases hab : aa = ab
            · obtain rfl : bb = false := by rw [HBB.out]; simp [hab]
              have HAE := hidden (show fnL x 0 = fnL y 0 by rw [← HAA.out, ← HAB.out]; exact hab)
              have HUT := hidden (uTop_args (A := A) (M := M) HNE.out (by have := HN0.out; omega) (by have := HN1.out; omega) HAE.out)
              clear hab
              have HZ := hidden R.out.blk
              have AP := hidden (show ∀ (ww : World), Below w4.heap.size w4 ww → Calls Try.prog 79 #[.agg #[.slice (some ⟨b, off, none⟩) n c], .slice (some ⟨g5, 0, none⟩) x.length d5, .slice (some ⟨g7, 0, none⟩) y.length d7] ww fun e w' => (∃ v, e = .returned v ∧ Bn3 w' (w.heap.size + 1 + 1 + 1) (.int .i64 0) (.slice none 0 0) (.slice none 0 0) ∧ w'.cell? ⟨w.heap.size, 0, none⟩ = some (.slice (some ⟨b, off, none⟩) n c) ∧ w'.cell? ⟨w.heap.size + 1, 0, none⟩ = some (.slice p1 (cR M) c1) ∧ w'.cell? ⟨w.heap.size + 1, 1, none⟩ = some (.slice p2 (cR M) c2) ∧ Hid (GrQ 61 w' ww.heap.size K w.heap.size v (aOf A (fnL x) 0) (fun i => (argL A x i, argL A y i))) ∧ Hid (w4.heap.size ≤ ww.heap.size ∧ Below w4.heap.size w4 w')) from fun ww hb => by
                refine (argPairs_any b off n c g5 0 d5 g7 0 d7 w.heap.size K N A x y ww (Q.out.keep hb) HX.out HY.out (IX.out.keep hb) (IY.out.keep hb) kx ky HAE.out lx ly HG.out.1 HG.out.2 (by have := B.out.size; have := hb.size; omega)).mono fun e w' h => ?_
                obtain ⟨⟨v, rfl, hq⟩, hb2⟩ := h
                exact ⟨v, rfl, R.out.keep (keepB hb hb2), (X3.out.keep (keepB hb hb2)).c0, (X4.out.keep (keepB hb hb2)).c0, (X4.out.keep (keepB hb hb2)).c1, hidden hq, hidden ⟨hb.size, keepB hb hb2⟩⟩)
              have d0 := X3.out.c0
              have m0 := X4.out.c0
              have m1 := X4.out.c1
              obtain ⟨zz0, q0, q1, q2, f0, f1, f2⟩ := id R.out
              go_wp2
              go_region_held3 (fun wz => wz.cell? ⟨w.heap.size, 0, none⟩ = some (.slice (some ⟨b, off, none⟩) n c) ∧ wz.cell? ⟨w.heap.size + 1, 0, none⟩ = some (.slice p1 (cR M) c1) ∧ wz.cell? ⟨w.heap.size + 1, 1, none⟩ = some (.slice p2 (cR M) c2)) (first | exact ⟨by assumption, by assumption, by assumption⟩ | (refine ⟨?_, ?_, ?_⟩ <;> first | (rw [World.cell?_setCell_far _ _ _ _ hs0, World.cell?_setCell_far _ _ _ _ hs0, World.cell?_setCell_far _ _ _ _ hs0]; assumption) | (rw [World.cell?_setCell_far _ _ _ _ hs1, World.cell?_setCell_far _ _ _ _ hs1, World.cell?_setCell_far _ _ _ _ hs1]; assumption) | (rw [World.cell?_setCell_far _ _ _ _ hs5, World.cell?_setCell_far _ _ _ _ hs5, World.cell?_setCell_far _ _ _ _ hs5]; assumption) | (rw [World.cell?_setCell_far _ _ _ _ hs7, World.cell?_setCell_far _ _ _ _ hs7, World.cell?_setCell_far _ _ _ _ hs7]; assumption)) | go_keep) (first
                | (go_at_call 79; with_reducible refine (AP.out _ (by first | exact (Below.refl _ _).drew | exact Below.refl _ _)).mono ?_; rintro e w9 ⟨v, rfl, ⟨z0, z1, z2, z3, z4, z5, z6⟩, y0, y1, y2, HA, HB⟩))
              all_goals
                have BF := hidden ((((keepB B.out HB.out.2).setCell (p := ⟨w.heap.size + 1 + 1 + 1, 0, none⟩) HS3.out (.int .i64 0)).setCell (p := ⟨w.heap.size + 1 + 1 + 1, 1, none⟩) HS3.out (.slice p1 (cR M) c1)).setCell (p := ⟨w.heap.size + 1 + 1 + 1, 2, none⟩) HS3.out (.slice p2 (cR M) c2))
                have LT := hidden (Nat.lt_of_lt_of_le HZ.out HB.out.1)
                have GQ := hidden ((((HA.out.far ⟨w.heap.size + 1 + 1 + 1, 0, none⟩ (.int .i64 0) HS3.out LT.out).far ⟨w.heap.size + 1 + 1 + 1, 1, none⟩ (.slice p1 (cR M) c1) HS3.out LT.out).far ⟨w.heap.size + 1 + 1 + 1, 2, none⟩ (.slice p2 (cR M) c2) HS3.out LT.out).base (Nat.le_trans HS3.out (Nat.le_of_lt LT.out)) (Nat.le_refl _))
                go_wp2
                exact bodyPost_ret (v := .tuple #[.agg #[.int .i64 0, .slice p1 (cR M) c1, .slice p2 (cR M) c2], v]) (by simp [results, Try.results41, go_sem, z1, z2, z3]) rfl ⟨Or.inr ⟨M, _, _, v, aOf A (fnL x) 0, fun i => (argL A x i, argL A y i), HUT.out, rfl, HBD.out.keep BF.out, GQ.out, Or.inr ⟨rfl, rfl, rfl⟩⟩, BF.out⟩
            · obtain rfl : bb = true := by rw [HBB.out]; simp [hab]
              have HUT := hidden (uTop_none (A := A) (M := M) HNE.out (by have := HN0.out; omega) (by have := HN1.out; omega) (by rw [← HAA.out, ← HAB.out]; exact hab))
              clear hab
              obtain ⟨_, q0, q1, q2, f0, f1, f2⟩ := id R.out
              go_wp2
              exact bodyPost_ret (v := .tuple #[.agg #[.int .i64 4, .slice none 0 0, .slice none 0 0], .slice none 0 0]) (by simp [results, Try.results41, go_sem, q0, q1, q2]) rfl ⟨Or.inl ⟨4, by decide, HUT.out, rfl⟩, ((B.out.setCell HS3.out _).setCell HS3.out _).setCell HS3.out _⟩

end Go.Proofs.Ytenlogljpgdbpaa

/- UnifyTerms: what it tells; the model's side. -/
namespace Go.Proofs.Ytenlogljpgdbpaa
open Go.RowKit

theorem uRun_more {A : Nat → Int} {R : Int × (Nat → List Int)} : ∀ (f : Nat) (M : Nat → List Int) (s : List (List Int × List Int)), uRun A f M s = some R → uRun A (f + 1) M s = some R
  | 0, M, s, h => by cases h
  | f + 1, M, [], h => by simpa [uRun] using h
  | f + 1, M, p :: s, h => by
    have e : ∀ k, uRun A (k + 1) M (p :: s) = match uStep A M p.1 p.2 with | .inl c => some (c, fun _ => []) | .inr (M', ps) => uRun A k M' (ps ++ s) := fun k => rfl
    rw [e] at h ⊢
    cases hu : uStep A M p.1 p.2 with
    | inl c => rw [hu] at h; exact h
    | inr r =>
      obtain ⟨M', ps⟩ := r
      rw [hu] at h
      exact uRun_more f M' (ps ++ s) h

theorem uRun_one {A : Nat → Int} {R R' : Int × (Nat → List Int)} {f f' : Nat} {M : Nat → List Int} {s : List (List Int × List Int)} (h : uRun A f M s = some R) (h' : uRun A f' M s = some R') : R = R' := by
  have up : ∀ (R : Int × (Nat → List Int)) (f d : Nat), uRun A f M s = some R → uRun A (f + d) M s = some R := fun R f d hh => by
    induction d with
    | zero => exact hh
    | succ d ih => exact uRun_more _ _ _ ih
  have h1 := up R f f' h
  have h2 := up R' f' f h'
  rw [Nat.add_comm f' f] at h2
  rw [h1] at h2
  exact Option.some.inj h2

/-- What is bound is right. -/
theorem uRun_len {n : Nat} {A : Nat → Int} {R : Int × (Nat → List Int)} : ∀ (f : Nat) (M : Nat → List Int) (s : List (List Int × List Int)), UnM n A M → (∀ p, p ∈ s → TrmL n A p.1 ∧ TrmL n A p.2) → uRun A f M s = some R → ∀ v, (R.2 v).length ≤ 24
  | 0, M, s, _, _, h => by cases h
  | f + 1, M, [], hM, _, h => by
    simp only [uRun, Option.some.injEq] at h
    subst h
    exact hM.lows.1
  | f + 1, M, p :: s, hM, hs, h => by
    have hp := hs p (List.mem_cons_self ..)
    cases hu : uStep A M p.1 p.2 with
    | inl c => rw [uRun_code h hu]; intro v; simp
    | inr r =>
      obtain ⟨M', ps⟩ := r
      have hk := uStep_keep hM hp.1 hp.2 hu
      exact uRun_len f M' (ps ++ s) hk.1 (fun q hq => by
        rcases List.mem_append.1 hq with h1 | h1
        · exact hk.2.1 q h1
        · exact hs q (List.mem_cons_of_mem _ h1)) (uRun_step h hu)

open Classical in
/-- What the machine tells of two terms. -/
noncomputable def utR (A : Nat → Int) (x y : List Int) : Int × (Nat → List Int) := if h : ∃ R, ∃ f, uRun A f (fun _ => []) [(x, y)] = some R then Classical.choose h else (0, fun _ => [])
theorem utR_eq {A : Nat → Int} {x y : List Int} {f : Nat} {R : Int × (Nat → List Int)} (h : uRun A f (fun _ => []) [(x, y)] = some R) : utR A x y = R := by
  have he : ∃ R, ∃ f, uRun A f (fun _ => []) [(x, y)] = some R := ⟨R, f, h⟩
  unfold utR
  rw [dif_pos he]
  obtain ⟨f', h'⟩ := Classical.choose_spec he
  exact uRun_one h' h

/-- UnifyTerms' code, and what is bound. -/
noncomputable def utC (n : Nat) (N : Nat → ByteArray) (A : Nat → Int) (m1 : Nat) (L1 : Nat → Int) (m2 : Nat) (L2 : Nat → Int) : Int :=
  if sdF n N A m1 L1 m2 L2 = 0 then (utR A (upto L1 m1) (upto L2 m2)).1 else sdF n N A m1 L1 m2 L2
noncomputable def utM (A : Nat → Int) (m1 : Nat) (L1 : Nat → Int) (m2 : Nat) (L2 : Nat → Int) : Nat → List Int := (utR A (upto L1 m1) (upto L2 m2)).2

section
variable {n : Nat} {N : Nat → ByteArray} {A : Nat → Int} {m1 : Nat} {L1 : Nat → Int} {m2 : Nat} {L2 : Nat → Int}
theorem utC_bad (h : sdF n N A m1 L1 m2 L2 ≠ 0) : utC n N A m1 L1 m2 L2 = sdF n N A m1 L1 m2 L2 := by rw [utC, if_neg h]
theorem utC_ok {f : Nat} {R : Int × (Nat → List Int)} (h : sdF n N A m1 L1 m2 L2 = 0) (hr : uRun A f (fun _ => []) [(upto L1 m1, upto L2 m2)] = some R) : utC n N A m1 L1 m2 L2 = R.1 := by rw [utC, if_pos h, utR_eq hr]
theorem utM_ok {f : Nat} {R : Int × (Nat → List Int)} (hr : uRun A f (fun _ => []) [(upto L1 m1, upto L2 m2)] = some R) : utM A m1 L1 m2 L2 = R.2 := by rw [utM, utR_eq hr]

theorem utM_len (h : utC n N A m1 L1 m2 L2 = 0) : ∀ v, (utM A m1 L1 m2 L2 v).length ≤ 24 := by
  by_cases hz : sdF n N A m1 L1 m2 L2 = 0
  · have T1 := trmL_upto (term_right (sdF_both hz).1)
    have T2 := trmL_upto (term_right (sdF_both hz).2)
    obtain ⟨f, R, hR⟩ := uRun_ends (n := n) (A := A) _ _ (fun _ => []) [(upto L1 m1, upto L2 m2)] (Nat.le_refl _) (Nat.le_refl _) (unM_none (term_right (sdF_both hz).1).sig) (fun p hp => by
      rw [List.mem_singleton] at hp; subst hp; exact ⟨T1, T2⟩)
    rw [utM_ok hR]
    exact uRun_len f _ _ (unM_none (term_right (sdF_both hz).1).sig) (fun p hp => by rw [List.mem_singleton] at hp; subst hp; exact ⟨T1, T2⟩) hR
  · rw [utC_bad hz] at h; exact absurd h hz
end

set_option maxRecDepth 20000 in
set_option maxHeartbeats 6400000 in
theorem specUnify_any (b off n c b1 o1 m1 c1 b2 o2 m2 c2 : Nat) (N : Nat → ByteArray) (A L1 L2 : Nat → Int) (w : World) (h : Syms w b off n N A) (h1 : Ints w b1 o1 m1 L1) (h2 : Ints w b2 o2 m2 L2) (hk : Kept n N A) (hm1 : m1 ≤ 1048576) (hm2 : m2 ≤ 1048576) :
    Calls Try.prog 18 #[.agg #[.slice (some ⟨b, off, none⟩) n c], .slice (some ⟨b1, o1, none⟩) m1 c1, .slice (some ⟨b2, o2, none⟩) m2 c2] w fun e w' => BnAns w (utC n N A m1 L1 m2 L2) (utM A m1 L1 m2 L2) e w' ∧ Below w.heap.size w w' := by
  have X := hidden ((One.new w (.slice (some ⟨b, off, none⟩) n c) 35).keep (alloc_below _ (.cells #[.int .i64 0, .slice none 0 0, .slice none 0 0] 31)))
  have R := hidden (show Bn3 ((w.alloc (.cells #[.slice (some ⟨b, off, none⟩) n c] 35)).alloc (.cells #[.int .i64 0, .slice none 0 0, .slice none 0 0] 31)) (w.heap.size + 1) (.int .i64 0) (.slice none 0 0) (.slice none 0 0) by
    have := Bn3.new (w.alloc (.cells #[.slice (some ⟨b, off, none⟩) n c] 35)) (.int .i64 0) (.slice none 0 0) (.slice none 0 0) 31
    rwa [World.size_alloc] at this)
  have B := hidden (keepB (alloc_below w (.cells #[.slice (some ⟨b, off, none⟩) n c] 35)) (alloc_below _ (.cells #[.int .i64 0, .slice none 0 0, .slice none 0 0] 31)))
  have Q := hidden (h.keep B.out)
  have J1 := hidden (h1.keep B.out)
  have J2 := hidden (h2.keep B.out)
  have HK := hidden hk
  clear h h1 h2 hk
  go_enter Try.func18, Try.ntmps18
  go_wp2_with fail
  with_reducible refine (specTerm_any _ _ _ _ _ _ _ _ N A L1 _ Q.out J1.out HK.out hm1).mono ?_
  rintro e w1 ⟨rfl, hb⟩
  replace X := hidden (X.out.keep hb)
  replace R := hidden (R.out.keep hb)
  replace Q := hidden (Q.out.keep hb)
  replace J1 := hidden (J1.out.keep hb)
  replace J2 := hidden (J2.out.keep hb)
  replace B := hidden (keepB B.out hb)
  clear hb
  by_cases hz : termF n N A m1 L1 = 0
  · have HZ := hidden hz
    have hf0 : faultF n N A = 0 := by
      by_cases hf : faultF n N A = 0
      · exact hf
      · rw [term_fault hf] at hz; exact absurd hz hf
    have SD := hidden (show sdF n N A m1 L1 m2 L2 = lF n A m2 L2 by rw [sdF_right hz, term_l hf0])
    have SO := hidden (fault_sound hf0)
    rw [hz]
    clear hz hf0
    go_wp2_with fail
    with_reducible refine (l3Fault_all _ _ _ _ _ _ _ _ _ N A L2 _ X.out Q.out J2.out SO.out hm2).mono ?_
    rintro e w2 ⟨rfl, hb⟩
    replace X := hidden (X.out.keep hb)
    replace R := hidden (R.out.keep hb)
    replace Q := hidden (Q.out.keep hb)
    replace J1 := hidden (J1.out.keep hb)
    replace J2 := hidden (J2.out.keep hb)
    replace B := hidden (keepB B.out hb)
    clear hb
    by_cases hz2 : lF n A m2 L2 = 0
    · have HS0 := hidden (SD.out.trans hz2)
      have HP := hidden (term_right HZ.out)
      have HG := hidden (lF_right SO.out hz2)
      rw [hz2]
      clear hz2
      have S := hidden (l6Unify_any w.heap.size b off n c b1 o1 m1 c1 b2 o2 m2 c2 N A L1 L2 w2 X.out Q.out J1.out J2.out HP.out HG.out)
      go_wp2_with fail
      with_reducible refine S.out.mono ?_
      rintro e w3 ⟨ha, hb⟩
      have HW2 := hidden B.out.size
      have HW3 := hidden hb.size
      have RB := hidden R.out.blk
      replace X := hidden (X.out.keep hb)
      replace R := hidden (R.out.keep hb)
      replace Q := hidden (Q.out.keep hb)
      replace J1 := hidden (J1.out.keep hb)
      replace J2 := hidden (J2.out.keep hb)
      replace B := hidden (keepB B.out hb)
      clear hb
      obtain ⟨f, R0, hrun, ha⟩ := ha
      have HC := hidden (utC_ok HS0.out hrun)
      have HM := hidden (utM_ok hrun)
      clear hrun
      rcases ha with ⟨hn, rfl⟩ | ⟨hn, va, ta, lo, rfl, hlo, hbd⟩
      · have HA := hidden hn
        clear hn
        replace X := hidden (X.out.keep (alloc_below _ (.cells #[.slice none 0 0, .slice none 0 0] 29)))
        replace R := hidden (R.out.keep (alloc_below _ (.cells #[.slice none 0 0, .slice none 0 0] 29)))
        replace B := hidden (keepB B.out (alloc_below _ (.cells #[.slice none 0 0, .slice none 0 0] 29)))
        obtain ⟨_, q0, q1, q2, f0, f1, f2⟩ := id R.out
        go_wp2
        exact bodyPost_ret (v := .agg #[.int .i64 R0.1, .slice none 0 0, .slice none 0 0]) (by simp [results, Try.results18, go_sem, q0, q1, q2]) rfl ⟨Or.inl ⟨by rw [HC.out]; exact Or.inl HA.out, by rw [HC.out]⟩, ((B.out.setCell (by simp) _).setCell (by simp) _).setCell (by simp) _⟩
      · rw [hn] at HC
        generalize R0.2 = M at *
        clear hn
        rcases hbd with ⟨h0, rfl, rfl⟩ | ⟨hpos, Bb, Xb, hlo2, hs⟩
        · have H0 := hidden h0
          clear h0
          have T9 := hidden (Two.new w3 (.slice none 0 0) (.slice none 0 0) 29)
          replace X := hidden (X.out.keep (alloc_below _ (.cells #[.slice none 0 0, .slice none 0 0] 29)))
          replace R := hidden (R.out.keep (alloc_below _ (.cells #[.slice none 0 0, .slice none 0 0] 29)))
          replace B := hidden (keepB B.out (alloc_below _ (.cells #[.slice none 0 0, .slice none 0 0] 29)))
          have t0 := T9.out.c0
          have t1 := T9.out.c1
          obtain ⟨_, q0, q1, q2, f0, f1, f2⟩ := id R.out
          go_wp2
          exact bodyPost_ret (v := .agg #[.int .i64 0, .slice none 0 0, .slice none 0 0]) (by simp [results, Try.results18, go_sem, q0, q1, q2]) rfl ⟨Or.inl ⟨by rw [HM.out]; exact Or.inr H0.out, by rw [HC.out]⟩, ((B.out.setCell (by simp) _).setCell (by simp) _).setCell (by simp) _⟩
        · have HL := hidden (show w.heap.size + 1 < Xb ∧ 0 < cR M from ⟨by have := RB.out; have := HW2.out; omega, hpos⟩)
          obtain ⟨g1, d1, g2, d2, rfl, rfl, -⟩ := hs.done hpos
          have BS := hidden (hs.keep (alloc_below w3 (.cells #[.slice (some ⟨g1, 0, none⟩) (cnL M 12).length d1, .slice (some ⟨g2, 0, none⟩) (cnL M 12).length d2] 29)))
          clear hs hlo hlo2 hpos
          generalize hq : (cnL M 12).length = q at BS ⊢
          have HQ := hidden hq
          clear hq
          have T9 := hidden (Two.new w3 (.slice (some ⟨g1, 0, none⟩) q d1) (.slice (some ⟨g2, 0, none⟩) q d2) 29)
          replace X := hidden (X.out.keep (alloc_below _ (.cells #[.slice (some ⟨g1, 0, none⟩) q d1, .slice (some ⟨g2, 0, none⟩) q d2] 29)))
          replace R := hidden (R.out.keep (alloc_below _ (.cells #[.slice (some ⟨g1, 0, none⟩) q d1, .slice (some ⟨g2, 0, none⟩) q d2] 29)))
          replace B := hidden (keepB B.out (alloc_below _ (.cells #[.slice (some ⟨g1, 0, none⟩) q d1, .slice (some ⟨g2, 0, none⟩) q d2] 29)))
          have t0 := T9.out.c0
          have t1 := T9.out.c1
          obtain ⟨_, q0, q1, q2, f0, f1, f2⟩ := id R.out
          go_wp2
          have hlow := BS.out.low
          have hlo := HL.out.1
          have BF := ((BS.out.farY ⟨w.heap.size + 1, 0, none⟩ (.int .i64 0) (by show w.heap.size + 1 < _; omega) (by show Xb ≠ w.heap.size + 1; omega)).farY ⟨w.heap.size + 1, 1, none⟩ (.slice (some ⟨g1, 0, none⟩) q d1) (by show w.heap.size + 1 < _; omega) (by show Xb ≠ w.heap.size + 1; omega)).farY ⟨w.heap.size + 1, 2, none⟩ (.slice (some ⟨g2, 0, none⟩) q d2) (by show w.heap.size + 1 < _; omega) (by show Xb ≠ w.heap.size + 1; omega)
          obtain ⟨g3, d3, g4, d4, e1, e2, ho⟩ := BF.done HL.out.2
          rw [HQ.out] at e1 e2
          refine bodyPost_ret (v := .agg #[.int .i64 0, .slice (some ⟨g1, 0, none⟩) q d1, .slice (some ⟨g2, 0, none⟩) q d2]) (by simp [results, Try.results18, go_sem, q0, q1, q2]) rfl ⟨Or.inr ⟨HC.out, by rw [HM.out]; exact HL.out.2, Bb, g3, d3, g4, d4, ?_, by omega, by rw [HM.out]; exact ho⟩, ((B.out.setCell (by simp) _).setCell (by simp) _).setCell (by simp) _⟩
          rw [HM.out, show cR M = q from HQ.out, e1, e2]
    · have HA := hidden (utC_bad (show sdF n N A m1 L1 m2 L2 ≠ 0 by rw [SD.out]; exact hz2))
      rw [SD.out] at HA
      have HN := hidden hz2
      have hz' : (lF n A m2 L2 != 0) = true := by simpa using hz2
      generalize lF n A m2 L2 = z at *
      clear hz2
      obtain ⟨_, q0, q1, q2, f0, f1, f2⟩ := id R.out
      go_wp2
      exact bodyPost_ret (v := .agg #[.int .i64 z, .slice none 0 0, .slice none 0 0]) (by simp [results, Try.results18, go_sem, q0, q1, q2]) rfl ⟨Or.inl ⟨by rw [HA.out]; exact Or.inl HN.out, by rw [HA.out]⟩, ((B.out.setCell (by simp) _).setCell (by simp) _).setCell (by simp) _⟩
  · have HA := hidden (utC_bad (n := n) (N := N) (A := A) (m1 := m1) (L1 := L1) (m2 := m2) (L2 := L2) (by rw [sdF_left hz]; exact hz))
    rw [sdF_left hz] at HA
    have HN := hidden hz
    have hz' : (termF n N A m1 L1 != 0) = true := by simpa using hz
    generalize termF n N A m1 L1 = z at *
    clear hz
    obtain ⟨_, q0, q1, q2, f0, f1, f2⟩ := id R.out
    go_wp2
    exact bodyPost_ret (v := .agg #[.int .i64 z, .slice none 0 0, .slice none 0 0]) (by simp [results, Try.results18, go_sem, q0, q1, q2]) rfl ⟨Or.inl ⟨by rw [HA.out]; exact Or.inl HN.out, by rw [HA.out]⟩, ((B.out.setCell (by simp) _).setCell (by simp) _).setCell (by simp) _⟩

end Go.Proofs.Ytenlogljpgdbpaa

/- UnifyTerms: the program's side. -/
namespace Go.Proofs.Ytenlogljpgdbpaa
open Go.RowKit

theorem PisAns.keep {w w1 w2 : World} {l1 l2 : List Int} {e : Ending} (h : PisAns w l1 l2 e w1) (hb : Below w1.heap.size w1 w2) : PisAns w l1 l2 e w2 :=
  h.imp id fun ⟨h1, h2, g1, d1, g2, d2, e1, h3, h4, o1, o2⟩ => ⟨h1, h2, g1, d1, g2, d2, e1, h3, h4, o1.keep hb, o2.keep hb⟩
theorem PisAns.low {w0 w w1 : World} {l1 l2 : List Int} {e : Ending} (h : PisAns w l1 l2 e w1) (hw : w0.heap.size ≤ w.heap.size) : PisAns w0 l1 l2 e w1 :=
  h.imp id fun ⟨h1, h2, g1, d1, g2, d2, e1, h3, h4, o1, o2⟩ => ⟨h1, h2, g1, d1, g2, d2, e1, by omega, h4, o1.base (by omega), o2.base (by omega)⟩
theorem PisAns.set {w w1 : World} {l1 l2 : List Int} {e : Ending} (h : PisAns w l1 l2 e w1) (a : Addr) (u : Value) (ha : a.block < w.heap.size) : PisAns w l1 l2 e (w1.setCell a u) :=
  h.imp id fun ⟨h1, h2, g1, d1, g2, d2, e1, h3, h4, o1, o2⟩ => ⟨h1, h2, g1, d1, g2, d2, e1, h3, h4, o1.other a u (by omega), o2.other a u (by omega)⟩
theorem PisAns.form {w w1 : World} {l1 l2 : List Int} {e : Ending} (h : PisAns w l1 l2 e w1) : ∃ z q1 r1 d1 q2 r2 d2, e = .returned (.agg #[.int .i64 z, .slice q1 r1 d1, .slice q2 r2 d2]) := by
  rcases h with ⟨_, rfl⟩ | ⟨_, _, g1, d1, g2, d2, rfl, _⟩
  · exact ⟨_, _, _, _, _, _, _, rfl⟩
  · exact ⟨_, _, _, _, _, _, _, rfl⟩

theorem Bn3.later {w w' : World} {b B : Nat} {x y z : Value} (h : Bn3 w b x y z) (hb : Below B w w') (hB : b < B) : Bn3 w' b x y z :=
  ⟨Nat.lt_of_lt_of_le h.blk hb.size, by rw [hb.cell (p := ⟨b, 0, none⟩) hB]; exact h.c0, by rw [hb.cell (p := ⟨b, 1, none⟩) hB]; exact h.c1, by rw [hb.cell (p := ⟨b, 2, none⟩) hB]; exact h.c2, by rw [hb.frozen (p := ⟨b, 0, none⟩) hB]; exact h.f0, by rw [hb.frozen (p := ⟨b, 1, none⟩) hB]; exact h.f1, by rw [hb.frozen (p := ⟨b, 2, none⟩) hB]; exact h.f2⟩

theorem bn3_set {w : World} {b : Nat} {x y z : Value} (h : Bn3 w b x y z) (u0 u1 u2 : Value) : Bn3 (((w.setCell ⟨b, 0, none⟩ u0).setCell ⟨b, 1, none⟩ u1).setCell ⟨b, 2, none⟩ u2) b u0 u1 u2 := by
  have e0 : (w.setCell ⟨b, 0, none⟩ u0).cell? ⟨b, 0, none⟩ = some u0 := World.cell?_setCell_same' _ _ _ (by rw [h.c0]; rfl)
  have e1 : (w.setCell ⟨b, 0, none⟩ u0).cell? ⟨b, 1, none⟩ = some y := by rw [World.cell?_setCell_other _ _ _ _ (by intro e; injection e with e1 e2 e3; cases e2)]; exact h.c1
  have e2 : (w.setCell ⟨b, 0, none⟩ u0).cell? ⟨b, 2, none⟩ = some z := by rw [World.cell?_setCell_other _ _ _ _ (by intro e; injection e with e1 e2 e3; cases e2)]; exact h.c2
  have i0 : ((w.setCell ⟨b, 0, none⟩ u0).setCell ⟨b, 1, none⟩ u1).cell? ⟨b, 0, none⟩ = some u0 := by rw [World.cell?_setCell_other _ _ _ _ (by intro e; injection e with e1 e2 e3; cases e2)]; exact e0
  have i1 : ((w.setCell ⟨b, 0, none⟩ u0).setCell ⟨b, 1, none⟩ u1).cell? ⟨b, 1, none⟩ = some u1 := World.cell?_setCell_same' _ _ _ (by rw [e1]; rfl)
  have i2 : ((w.setCell ⟨b, 0, none⟩ u0).setCell ⟨b, 1, none⟩ u1).cell? ⟨b, 2, none⟩ = some z := by rw [World.cell?_setCell_other _ _ _ _ (by intro e; injection e with e1 e2 e3; cases e2)]; exact e2
  exact ⟨by simpa using h.blk, by rw [World.cell?_setCell_other _ _ _ _ (by intro e; injection e with e1 e2 e3; cases e2)]; exact i0, by rw [World.cell?_setCell_other _ _ _ _ (by intro e; injection e with e1 e2 e3; cases e2)]; exact i1, World.cell?_setCell_same' _ _ _ (by rw [i2]; rfl), by simpa [go_sem] using h.f0, by simpa [go_sem] using h.f1, by simpa [go_sem] using h.f2⟩

/-- The bound of what waits is kept. -/
theorem okU_top {n : Nat} {A : Nat → Int} {M M' : Nat → List Int} {p : List Int × List Int} {s ps : List (List Int × List Int)} {x y : List Int} (hM : UnM n A M) (hx : TrmL n A x) (hy : TrmL n A y) (fx : FreeL M x) (fy : FreeL M y) (he : x = apL M p.1) (h24 : x.length ≤ 24) (ht : uTop A M x y = .inr (M', ps)) (h : okU M (p :: s)) : okU M' (ps ++ s) := by
  unfold uTop at ht
  split at ht
  · simp only [Sum.inr.injEq, Prod.mk.injEq] at ht
    obtain ⟨rfl, rfl⟩ := ht
    exact okU_tail h
  · split at ht
    · next h0 =>
      obtain ⟨v, hv12, hv, hvn⟩ := trmL_var hx h0
      rw [hvn] at ht
      have h1 := trmL_head hx
      rw [hv] at h1
      obtain ⟨_, h3, h4⟩ := uBind_keep hM hv12 (fx v h1) hy fy ht
      simp only at h3 h4
      subst h3
      exact okU_bind (okU_tail h) h4
    · split at ht
      · next h0 =>
        obtain ⟨v, hv12, hv, hvn⟩ := trmL_var hy h0
        rw [hvn] at ht
        have h1 := trmL_head hy
        rw [hv] at h1
        obtain ⟨_, h3, h4⟩ := uBind_keep hM hv12 (fy v h1) hx fx ht
        simp only at h3 h4
        subst h3
        exact okU_bind (okU_tail h) h4
      · split at ht
        · cases ht
        · simp only [Sum.inr.injEq, Prod.mk.injEq] at ht
          obtain ⟨rfl, rfl⟩ := ht
          exact okU_args hM hx he h24 h

theorem BdB.ans {w w' : World} {lo : Nat} {M : Nat → List Int} {va ta : Value} (h : BdB w' lo M va ta) (hl : w.heap.size ≤ lo) : BnAns w 0 M (.returned (.agg #[.int .i64 0, va, ta])) w' := by
  rcases h with ⟨h0, rfl, rfl⟩ | ⟨h0, lo', g1, d1, g2, d2, rfl, rfl, hl2, ho⟩
  · exact Or.inl ⟨Or.inr h0, rfl⟩
  · exact Or.inr ⟨rfl, h0, lo', g1, d1, g2, d2, rfl, by omega, ho⟩

set_option maxRecDepth 20000 in
set_option maxHeartbeats 25600000 in
theorem implUnify_any (b off n c b1 o1 m1 c1 b2 o2 m2 c2 : Nat) (N : Nat → ByteArray) (A L1 L2 : Nat → Int) (w : World) (h : Syms w b off n N A) (h1 : Ints w b1 o1 m1 L1) (h2 : Ints w b2 o2 m2 L2) (hk : Kept n N A) (hm1 : m1 ≤ 1048576) (hm2 : m2 ≤ 1048576) (hc1 : m1 ≤ c1) (hc2 : m2 ≤ c2) :
    Calls Try.prog 19 #[.agg #[.slice (some ⟨b, off, none⟩) n c], .slice (some ⟨b1, o1, none⟩) m1 c1, .slice (some ⟨b2, o2, none⟩) m2 c2] w fun e w' => BnAns w (utC n N A m1 L1 m2 L2) (utM A m1 L1 m2 L2) e w' ∧ Below w.heap.size w w' := by
  have bA := alloc_below w (.cells #[.slice (some ⟨b, off, none⟩) n c] 35)
  have bB := alloc_below (w.alloc (.cells #[.slice (some ⟨b, off, none⟩) n c] 35)) (.cells #[.int .i64 0, .slice none 0 0, .slice none 0 0] 31)
  have bC := alloc_below ((w.alloc (.cells #[.slice (some ⟨b, off, none⟩) n c] 35)).alloc (.cells #[.int .i64 0, .slice none 0 0, .slice none 0 0] 31)) (.cells #[.slice (some ⟨b1, o1, none⟩) m1 c1, .slice (some ⟨b2, o2, none⟩) m2 c2] 61)
  have x3 := (One.new w (.slice (some ⟨b, off, none⟩) n c) 35).keep (keepB bB bC)
  have r6 := (Bn3.new (w.alloc (.cells #[.slice (some ⟨b, off, none⟩) n c] 35)) (.int .i64 0) (.slice none 0 0) (.slice none 0 0) 31).keep bC
  have x7 := Two.new ((w.alloc (.cells #[.slice (some ⟨b, off, none⟩) n c] 35)).alloc (.cells #[.int .i64 0, .slice none 0 0, .slice none 0 0] 31)) (.slice (some ⟨b1, o1, none⟩) m1 c1) (.slice (some ⟨b2, o2, none⟩) m2 c2) 61
  simp only [World.size_alloc] at r6 x7
  have bW := keepB bA (keepB bB bC)
  have X := hidden x3
  have R := hidden r6
  have X7 := hidden x7
  have B := hidden bW
  have Q := hidden (h.keep bW)
  have J1 := hidden (h1.keep bW)
  have J2 := hidden (h2.keep bW)
  have HK := hidden hk
  have LB1 := hidden h1.blk
  have LB2 := hidden h2.blk
  clear bA bB bC bW x3 r6 x7 h h1 h2 hk
  go_enter Try.func19, Try.ntmps19
  go_wp2_with fail
  with_reducible refine (sides_any _ _ _ _ _ _ _ _ _ _ _ _ N A L1 L2 _ Q.out J1.out J2.out HK.out hm1 hm2).mono ?_
  rintro e w1 ⟨rfl, hb⟩
  have X7' := hidden (X7.out.keep hb)
  replace X := hidden (X.out.keep hb)
  replace R := hidden (R.out.keep hb)
  replace Q := hidden (Q.out.keep hb)
  replace J1 := hidden (J1.out.keep hb)
  replace J2 := hidden (J2.out.keep hb)
  replace B := hidden (keepB B.out hb)
  clear hb X7
  by_cases hz : sdF n N A m1 L1 m2 L2 = 0
  · have HZ := hidden hz
    rw [hz]
    clear hz
    have G1 := hidden (term_right (sdF_both HZ.out).1)
    have G2 := hidden (term_right (sdF_both HZ.out).2)
    have hm1' := G1.out.nods.most
    have hm2' := G2.out.nods.most
    obtain ⟨f0, R0, hR⟩ := uRun_ends (n := n) (A := A) _ _ (fun _ => []) [(upto L1 m1, upto L2 m2)] (Nat.le_refl _) (Nat.le_refl _) (unM_none G1.out.sig) (fun p hp => by
      rw [List.mem_singleton] at hp; subst hp; exact ⟨trmL_upto G1.out, trmL_upto G2.out⟩)
    have HC := hidden (utC_ok HZ.out hR)
    have HMM := hidden (utM_ok hR)
    have HR := hidden hR
    clear hR
    have x70 := X7'.out.c0
    have x71 := X7'.out.c1
    have y70 := (X7'.out.keep (alloc_below w1 (.cells #[.slice none 0 0, .slice none 0 0] 29))).c0
    have y71 := (X7'.out.keep (alloc_below w1 (.cells #[.slice none 0 0, .slice none 0 0] 29))).c1
    have bD := alloc_below w1 (.cells #[.slice none 0 0, .slice none 0 0] 29)
    have bE := alloc_below (w1.alloc (.cells #[.slice none 0 0, .slice none 0 0] 29)) (.cells #[.slice (some ⟨b1, o1, none⟩) m1 c1, .slice (some ⟨b2, o2, none⟩) m2 c2] 61)
    have x9 := (Own2.new w1 (.slice none 0 0) (.slice none 0 0) 29).keep bE
    obtain ⟨W, hW⟩ : ∃ W, W = (w1.alloc (.cells #[.slice none 0 0, .slice none 0 0] 29)).alloc (.cells #[.slice (some ⟨b1, o1, none⟩) m1 c1, .slice (some ⟨b2, o2, none⟩) m2 c2] 61) := ⟨_, rfl⟩
    have LW1 := hidden (show w.heap.size + 2 < w1.heap.size from X7'.out.blk)
    have PV := hidden (show PairV (fun g => g < w.heap.size ∨ w1.heap.size + 1 ≤ g) W (.slice (some ⟨w1.heap.size + 1, 0, none⟩) 1 1) [(upto L1 m1, upto L2 m2)] from ⟨_, 1, rfl, Nat.le_refl _, fun _ => ⟨_, 0, rfl, by rw [hW]; simp, Or.inr (Nat.le_refl _), fun i hi => by
      obtain rfl : i = 0 := by simpa using hi
      exact ⟨b1, o1, c1, b2, o2, c2, by rw [hW]; simp [upto_length, go_sem], by rw [hW]; simp [upto_length, go_sem], by simp only [List.getD_cons_zero, upto_length]; rw [hW]; exact ((J1.out.keep bD).keep bE).same (fun k hk => (fnL_upto _ _ _ hk).symm), by simp only [List.getD_cons_zero, upto_length]; rw [hW]; exact ((J2.out.keep bD).keep bE).same (fun k hk => (fnL_upto _ _ _ hk).symm), by simp [upto_length]; exact hc1, by simp [upto_length]; exact hc2, Or.inl (LB1.out G1.out.pos), Or.inl (LB2.out G2.out.pos)⟩⟩⟩)
    have bDE := keepB bD bE
    rw [← hW] at x9 bDE
    have X9 := hidden x9
    have XW := hidden (X.out.keep bDE)
    have RW := hidden (R.out.keep bDE)
    have QW := hidden (Q.out.keep bDE)
    have BW := hidden (keepB B.out bDE)
    have HQB := hidden Q.out.blk
    have HWS := hidden (show W.heap.size = w1.heap.size + 2 from by rw [hW]; simp)
    have TS := hidden (show ∀ p, p ∈ [(upto L1 m1, upto L2 m2)] → TrmL n A p.1 ∧ TrmL n A p.2 from fun p hp => by
      rw [List.mem_singleton] at hp; subst hp; exact ⟨trmL_upto G1.out, trmL_upto G2.out⟩)
    have UM := hidden (unM_none (n := n) (A := A) G1.out.sig)
    clear x9 bD bE bDE X7' J1 J2 X R Q
    go_wp2
    rw [← hW]
    clear hW x70 x71 y70 y71
    go_loopg [10] f0 (fun f v wr => ∃ (M : Nat → List Int) (s : List (List Int × List Int)) (va ta : Value), Hid (uRun A f M s = some R0) ∧ Hid (UnM n A M) ∧ Hid (∀ p, p ∈ s → TrmL n A p.1 ∧ TrmL n A p.2) ∧ Hid (PairV (fun g => g < w.heap.size ∨ w1.heap.size + 1 ≤ g) wr v s) ∧ Hid (Own2 wr w1.heap.size va ta) ∧ Hid (BdB wr (w1.heap.size + 1) M va ta) ∧ Hid (Below w1.heap.size W wr) ∧ Hid (okU M s))
    case atStart => exact ⟨_, _, _, _, HR, UM, TS, PV, X9, hidden (Or.inl ⟨by decide, rfl, rfl⟩), hidden (Below.refl _ _), hidden okU_first⟩
    case round =>
      clear PV X9 TS UM
      obtain ⟨M, s, va, ta, HU, UM, TS, PV, X9, BD, BL, OK⟩ := hrel
      have hu := HU.out
      have RW' := hidden (show Bn3 wr (w.heap.size + 1) (.int .i64 0) (.slice none 0 0) (.slice none 0 0) from RW.out.later BL.out (by have := LW1.out; omega))
      have BF := hidden (show Below w.heap.size w wr from BW.out.trans (BL.out.mono (by have := B.out.size; exact this)))
      have HL1 := hidden (show w.heap.size ≤ w.heap.size + 1 by omega)
      cases gk with
      | zero => exact absurd hu (by simp [uRun])
      | succ f =>
      cases s with
      | nil =>
        have hR0 : R0 = (0, M) := by simp only [uRun, Option.some.injEq] at hu; exact hu.symm
        have HR0 := hidden hR0
        obtain ⟨q, cq, hq, _, _⟩ := PV.out
        obtain ⟨qa, xa, qb, xb, rfl, rfl, -⟩ := BD.out.inn UM.out
        simp only [List.length_nil] at hq
        subst hq
        have m0 := X9.out.two.c0
        have m1 := X9.out.two.c1
        obtain ⟨_, q0, q1, q2, f1, f2, f3⟩ := id RW'.out
        have LW := LW1.out
        clear hu hR0
        go_wp2
        exact bodyPost_ret (v := .agg #[.int .i64 0, .slice qa (cR M) xa, .slice qb (cR M) xb]) (by simp [results, Try.results19, go_sem, q0, q1, q2]) rfl ⟨by rw [HC.out, HMM.out, HR0.out]; exact (((BD.out.setLow _ _ _ (by show w.heap.size + 1 < _; omega)).setLow _ _ _ (by show w.heap.size + 1 < _; omega)).setLow _ _ _ (by show w.heap.size + 1 < _; omega)).ans (by omega), ((BF.out.setCell HL1.out _).setCell HL1.out _).setCell HL1.out _⟩
      | cons p s =>
        obtain ⟨b3, o3, c3, rfl, hc3, hb3, hpa, htl, htl0⟩ := PV.out.head
        obtain ⟨ga, oa, ca, gb, ob, cb, k0, k1, k3, k4, k5, k6, k7, k8⟩ := hpa
        obtain ⟨qa, xa, qb, xb, rfl, rfl, hin⟩ := BD.out.inn UM.out
        have hta := (TS.out p (List.mem_cons_self ..)).1
        have htb := (TS.out p (List.mem_cons_self ..)).2
        have HTA := hidden hta
        have HTB := hidden htb
        have l1 := hta.nods.most
        have l2 := htb.nods.most
        have p1 := hta.pos
        have p2 := htb.pos
        have HIN := hidden hin
        have HTL := hidden htl
        have HTL0 := hidden htl0
        have IA := hidden k3
        have IB := hidden k4
        have TS2 := hidden (show ∀ q, q ∈ s → TrmL n A q.1 ∧ TrmL n A q.2 from fun q hq => TS.out q (List.mem_cons_of_mem _ hq))
        have HKK := hidden (And.intro k0 (And.intro k1 hb3))
        have m0 := X9.out.two.c0
        have m1 := X9.out.two.c1
        have HM1 := hidden X9.out.two.blk
        have CK := hidden (show ∀ wz, Below wr.heap.size wr wz → (wz.cell? ⟨w1.heap.size, 0, none⟩ = some (.slice qa (cR M) xa) ∧ wz.cell? ⟨w1.heap.size, 1, none⟩ = some (.slice qb (cR M) xb) ∧ wz.cell? ⟨b3, o3, none⟩ = some (.slice (some ⟨ga, oa, none⟩) p.1.length ca) ∧ wz.cell? ⟨b3, o3 + 1, none⟩ = some (.slice (some ⟨gb, ob, none⟩) p.2.length cb)) from fun wz hb => ⟨(X9.out.keep hb).two.c0, (X9.out.keep hb).two.c1, (hb.cell (p := ⟨b3, o3, none⟩) HKK.out.2.2).trans HKK.out.1, (hb.cell (p := ⟨b3, o3 + 1, none⟩) HKK.out.2.2).trans HKK.out.2.1⟩)
        have MC := hidden (show ∀ wc, Below wr.heap.size wr wc → Calls Try.prog 40 #[.agg #[.slice qa (cR M) xa, .slice qb (cR M) xb]] wc fun e w' => ∃ E, e = .returned (.func (Fn.func 75) #[] #[.pointer (some ⟨E, 0, none⟩)]) ∧ MeanO 75 #[.pointer (some ⟨E, 0, none⟩)] M w' ∧ Below wr.heap.size wr w' ∧ Below wc.heap.size wc w' from fun wc hc => by
          refine (meaningOfO_any qa qb (cR M) xa xb (cV M) (cnD M 12) wc (HIN.out.keep hc).vars (HIN.out.keep hc).terms (cR_le M)).mono ?_
          rintro e w' ⟨E, rfl, hm, hb⟩
          rw [bdN_canon UM.out.few] at hm
          exact ⟨E, rfl, hm, keepB hc hb, hb⟩)
        have PC := hidden (show ∀ wc E, Below wr.heap.size wr wc → MeanO 75 #[.pointer (some ⟨E, 0, none⟩)] M wc → Calls Try.prog 39 #[.agg #[.slice (some ⟨ga, oa, none⟩) p.1.length ca, .slice (some ⟨gb, ob, none⟩) p.2.length cb], .func (Fn.func 75) #[] #[.pointer (some ⟨E, 0, none⟩)]] wc fun e w' => ∃ z q1 r1 d1 q2 r2 d2, e = .returned (.agg #[.int .i64 z, .slice q1 r1 d1, .slice q2 r2 d2]) ∧ PisAns wc (apL M p.1) (apL M p.2) e w' ∧ Below wr.heap.size wr w' ∧ Below wc.heap.size wc w' from fun wc E hc hm => by
          refine (putInSides_any 75 #[.pointer (some ⟨E, 0, none⟩)] M ga oa p.1.length ca gb ob p.2.length cb (fnL p.1) (fnL p.2) wc hm.mean (IA.out.keep hc) (IB.out.keep hc) ⟨HTA.out.pos, HTA.out.nods.most⟩ ⟨HTB.out.pos, HTB.out.nods.most⟩ (trmL_low HTA.out) (trmL_low HTB.out) UM.out.lows.1).mono ?_
          rintro e w' ⟨ha, hb⟩
          rw [putL_list, putL_list] at ha
          obtain ⟨z, q1, r1, d1, q2, r2, d2, rfl⟩ := ha.form
          exact ⟨z, q1, r1, d1, q2, r2, d2, rfl, ha, keepB hc hb, hb⟩)
        have HB0 := hidden (Nat.le_refl wr.heap.size)
        clear htl htl0 k3 k4 hta htb hu PV TS hin
        go_upto_region 8 with fail
        go_cut [11] (fun t wc => ∃ bx z q1 r1 d1 q2 r2 d2, t = .pointer (some ⟨bx, 0, none⟩) ∧ Hid (Bn3 wc bx (.int .i64 z) (.slice q1 r1 d1) (.slice q2 r2 d2)) ∧ Hid (PisAns wr (apL M p.1) (apL M p.2) (.returned (.agg #[.int .i64 z, .slice q1 r1 d1, .slice q2 r2 d2])) wc) ∧ Below wr.heap.size wr wc)
        case first =>
          refine wp_region_held_drew (S := fun wz => wz.cell? ⟨w1.heap.size, 0, none⟩ = some (.slice qa (cR M) xa) ∧ wz.cell? ⟨w1.heap.size, 1, none⟩ = some (.slice qb (cR M) xb) ∧ wz.cell? ⟨b3, o3, none⟩ = some (.slice (some ⟨ga, oa, none⟩) p.1.length ca) ∧ wz.cell? ⟨b3, o3 + 1, none⟩ = some (.slice (some ⟨gb, ob, none⟩) p.2.length cb)) (by kernel_rfl) ⟨m0, m1, k0, k1⟩ (fun hHeld => ?_)
          have bb := (Below.refl wr.heap.size wr).drew
          refine wpAnyH_take (i := 0) (oi := { dst := some 29, op := Op.move (Operand.tmp 10), type := 71, pos := "l06_bind.go:148", after := #[], guard := none }) (v := ?_) rfl (by kernel_rfl) (by kernel_rfl) (by kernel_rfl) (fun _ _ _ h => h) (Or.inl ⟨by rfl, ?_⟩) (by assumption) ?_
          rotate_left
          · (intro wv hSw; (try dsimp only at hSw); go_simp; try with_reducible rfl)
          try simp only [Act.put, List.setIfInBounds_toArray, List.set_cons_zero, List.set_cons_succ]
          refine wpAnyH_take (i := 1) (oi := { dst := some 30, op := Op.indexAddr 71 (Operand.tmp 29) (Operand.const (Value.int IntKind.i64 0)), type := 0, pos := "l06_bind.go:148", after := #[{ on := 0, ground := Ground.data }], guard := none }) (v := ?_) rfl (by kernel_rfl) (by kernel_rfl) (by kernel_rfl) (fun _ _ _ h => h) (Or.inl ⟨by rfl, ?_⟩) (by assumption) ?_
          rotate_left
          · (intro wv hSw; (try dsimp only at hSw); go_simp; try with_reducible rfl)
          try simp only [Act.put, List.setIfInBounds_toArray, List.set_cons_zero, List.set_cons_succ]
          refine wpAnyH_take (i := 2) (oi := { dst := some 31, op := Op.load 61 (Operand.tmp 30), type := 61, pos := "l06_bind.go:148", after := #[{ on := 1, ground := Ground.data }], guard := none }) (v := ?_) rfl (by kernel_rfl) (by kernel_rfl) (by kernel_rfl) (fun _ _ _ h => h) (Or.inl ⟨by rfl, ?_⟩) (by assumption) ?_
          rotate_left
          · (intro wv hSw; (try dsimp only at hSw); go_simp; try with_reducible rfl)
          try simp only [Act.put, List.setIfInBounds_toArray, List.set_cons_zero, List.set_cons_succ]
          refine wpAnyH_take (i := 3) (oi := { dst := some 32, op := Op.load 29 (Operand.tmp 9), type := 29, pos := "l06_bind.go:148", after := #[], guard := none }) (v := ?_) rfl (by kernel_rfl) (by kernel_rfl) (by kernel_rfl) (fun _ _ _ h => h) (Or.inl ⟨by rfl, ?_⟩) (by assumption) ?_
          rotate_left
          · (intro wv hSw; (try dsimp only at hSw); go_simp; try with_reducible rfl)
          try simp only [Act.put, List.setIfInBounds_toArray, List.set_cons_zero, List.set_cons_succ]
          refine wpAnyH_ready (rs := [4, 6]) (by kernel_rfl) (by simp) ?_
          refine AllReadyH.cons (o := { dst := some 33, op := Op.call { callee := Callee.value (Operand.func 40), args := #[Operand.tmp 32], argTypes := #[29] }, type := 75, pos := "l06_bind.go:148", after := #[{ on := 3, ground := Ground.data }], guard := none }) rfl (fun K hK => ?_) (AllReadyH.cons (o := { dst := some 11, op := Op.alloc 73, type := 0, pos := "l06_bind.go:148", after := #[], guard := none }) rfl (fun K hK => ?_) AllReadyH.nil)
          · go_simp
            go_at_call 40; with_reducible refine (MC.out _ bb).mono ?_; rintro e v1 ⟨E, rfl, hmo, bb', hb5⟩
            try go_wp2_with fail
            refine hK.out _ _ (CK.out _ bb') (fun hHeld => ?_)
            clear hK K
            have MO' := hidden hmo
            clear bb hb5 hmo
            have bb := bb'
            clear bb'
            try simp only [Act.put, List.setIfInBounds_toArray, List.set_cons_zero, List.set_cons_succ]
            refine wpAnyH_ready (rs := [5, 6]) (by kernel_rfl) (by simp) ?_
            refine AllReadyH.cons (o := { dst := some 34, op := Op.call { callee := Callee.value (Operand.func 39), args := #[Operand.tmp 31, Operand.tmp 33], argTypes := #[61, 75] }, type := 73, pos := "l06_bind.go:148", after := #[{ on := 2, ground := Ground.data }, { on := 4, ground := Ground.data }, { on := 4, ground := Ground.chain }], guard := none }) rfl (fun K hK => ?_) (AllReadyH.cons (o := { dst := some 11, op := Op.alloc 73, type := 0, pos := "l06_bind.go:148", after := #[], guard := none }) rfl (fun K hK => ?_) AllReadyH.nil)
            · go_simp
              go_at_call 39; with_reducible refine (PC.out _ _ bb MO'.out).mono ?_; rintro e v2 ⟨z, q1, r1, d1, q2, r2, d2, rfl, hpi, bb', hb5⟩
              try go_wp2_with fail
              refine hK.out _ _ (CK.out _ bb') (fun hHeld => ?_)
              clear hK K
              have PI' := hidden hpi
              have hsz := hidden bb.size
              clear bb hb5 hpi
              have bb := bb'
              clear bb'
              try simp only [Act.put, List.setIfInBounds_toArray, List.set_cons_zero, List.set_cons_succ]
              refine wpAnyH_ready (rs := [6]) (by kernel_rfl) (by simp) ?_
              refine AllReadyH.cons (o := { dst := some 11, op := Op.alloc 73, type := 0, pos := "l06_bind.go:148", after := #[], guard := none }) rfl (fun K hK => ?_) AllReadyH.nil
              go_simp
              refine hK.out _ _ (CK.out _ (keepB bb (alloc_below _ _))) (fun hHeld => ?_)
              clear hK K
              try simp only [Act.put, List.setIfInBounds_toArray, List.set_cons_zero, List.set_cons_succ]
              refine wpAnyH_ready (rs := [7]) (by kernel_rfl) (by simp) ?_
              refine AllReadyH.cons (o := { dst := none, op := Op.store 73 (Operand.tmp 11) (Operand.tmp 34), type := 0, pos := "l06_bind.go:148", after := #[{ on := 6, ground := Ground.data }, { on := 5, ground := Ground.data }, { on := 5, ground := Ground.chain }, { on := 0, ground := Ground.phase }, { on := 1, ground := Ground.phase }, { on := 2, ground := Ground.phase }, { on := 3, ground := Ground.phase }, { on := 4, ground := Ground.phase }, { on := 5, ground := Ground.phase }, { on := 6, ground := Ground.phase }], guard := none }) rfl (fun K hK => ?_) AllReadyH.nil
              go_simp
              refine hK.out _ _ (CK.out _ (keepB bb (alloc_below _ _))) (fun hHeld => ?_)
              clear hK K
              refine wpAnyH_done (by kernel_rfl) ?_ _
              try go_wp2_with fail
              go_meet
              exact ⟨_, z, q1, r1, d1, q2, r2, d2, rfl, hidden (Bn3.new v2 _ _ _ _), hidden ((PI'.out.low hsz.out).keep (alloc_below _ _)), keepB bb (alloc_below _ _)⟩
            · go_simp
              have hbx := hidden bb.size
              have RR := hidden (Bn3.new v1 (.int .i64 0) (.slice none 0 0) (.slice none 0 0) 73)
              refine hK.out _ _ (CK.out _ (keepB bb (alloc_below _ _))) (fun hHeld => ?_)
              clear hK K
              replace bb := keepB bb (alloc_below v1 (.cells #[.int .i64 0, .slice none 0 0, .slice none 0 0] 73))
              replace MO' := hidden (MO'.out.keep (alloc_below v1 (.cells #[.int .i64 0, .slice none 0 0, .slice none 0 0] 73)))
              try simp only [Act.put, List.setIfInBounds_toArray, List.set_cons_zero, List.set_cons_succ]
              refine wpAnyH_ready (rs := [5]) (by kernel_rfl) (by simp) ?_
              refine AllReadyH.cons (o := { dst := some 34, op := Op.call { callee := Callee.value (Operand.func 39), args := #[Operand.tmp 31, Operand.tmp 33], argTypes := #[61, 75] }, type := 73, pos := "l06_bind.go:148", after := #[{ on := 2, ground := Ground.data }, { on := 4, ground := Ground.data }, { on := 4, ground := Ground.chain }], guard := none }) rfl (fun K hK => ?_) AllReadyH.nil
              go_simp
              go_at_call 39; with_reducible refine (PC.out _ _ bb MO'.out).mono ?_; rintro e v2 ⟨z, q1, r1, d1, q2, r2, d2, rfl, hpi, bb', hb5⟩
              try go_wp2_with fail
              refine hK.out _ _ (CK.out _ bb') (fun hHeld => ?_)
              clear hK K
              have PI' := hidden hpi
              have hlt := hidden RR.out.blk
              replace RR := hidden (RR.out.keep hb5)
              have hsz := hidden bb.size
              clear bb hb5 hpi
              have bb := bb'
              clear bb'
              try simp only [Act.put, List.setIfInBounds_toArray, List.set_cons_zero, List.set_cons_succ]
              refine wpAnyH_ready (rs := [7]) (by kernel_rfl) (by simp) ?_
              refine AllReadyH.cons (o := { dst := none, op := Op.store 73 (Operand.tmp 11) (Operand.tmp 34), type := 0, pos := "l06_bind.go:148", after := #[{ on := 6, ground := Ground.data }, { on := 5, ground := Ground.data }, { on := 5, ground := Ground.chain }, { on := 0, ground := Ground.phase }, { on := 1, ground := Ground.phase }, { on := 2, ground := Ground.phase }, { on := 3, ground := Ground.phase }, { on := 4, ground := Ground.phase }, { on := 5, ground := Ground.phase }, { on := 6, ground := Ground.phase }], guard := none }) rfl (fun K hK => ?_) AllReadyH.nil
              obtain ⟨s0, s1, s2, s3, s4, s5, s6⟩ := id RR.out
              have hwr := hsz.out
              go_simp
              refine hK.out _ _ (CK.out _ (((bb.setCell hbx.out _).setCell hbx.out _).setCell hbx.out _)) (fun hHeld => ?_)
              clear hK K
              refine wpAnyH_done (by kernel_rfl) ?_ _
              try go_wp2_with fail
              go_meet
              exact ⟨_, z, q1, r1, d1, q2, r2, d2, rfl, hidden (bn3_set RR.out _ _ _), hidden ((((PI'.out.set _ _ hlt.out).set _ _ hlt.out).set _ _ hlt.out).low hsz.out), ((bb.setCell hbx.out _).setCell hbx.out _).setCell hbx.out _⟩
          · go_simp
            have hbx := hidden (Nat.le_refl wr.heap.size)
            have RR := hidden ((Bn3.new wr (.int .i64 0) (.slice none 0 0) (.slice none 0 0) 73).keep (Below.refl _ _).drew)
            refine hK.out _ _ (CK.out _ (alloc_below _ _).drew) (fun hHeld => ?_)
            clear hK K
            replace bb := (alloc_below wr (.cells #[.int .i64 0, .slice none 0 0, .slice none 0 0] 73)).drew
            try simp only [Act.put, List.setIfInBounds_toArray, List.set_cons_zero, List.set_cons_succ]
            refine wpAnyH_ready (rs := [4]) (by kernel_rfl) (by simp) ?_
            refine AllReadyH.cons (o := { dst := some 33, op := Op.call { callee := Callee.value (Operand.func 40), args := #[Operand.tmp 32], argTypes := #[29] }, type := 75, pos := "l06_bind.go:148", after := #[{ on := 3, ground := Ground.data }], guard := none }) rfl (fun K hK => ?_) AllReadyH.nil
            go_simp
            go_at_call 40; with_reducible refine (MC.out _ bb).mono ?_; rintro e v1 ⟨E, rfl, hmo, bb', hb5⟩
            try go_wp2_with fail
            refine hK.out _ _ (CK.out _ bb') (fun hHeld => ?_)
            clear hK K
            have MO' := hidden hmo
            replace RR := hidden (RR.out.keep hb5)
            clear bb hb5 hmo
            have bb := bb'
            clear bb'
            try simp only [Act.put, List.setIfInBounds_toArray, List.set_cons_zero, List.set_cons_succ]
            refine wpAnyH_ready (rs := [5]) (by kernel_rfl) (by simp) ?_
            refine AllReadyH.cons (o := { dst := some 34, op := Op.call { callee := Callee.value (Operand.func 39), args := #[Operand.tmp 31, Operand.tmp 33], argTypes := #[61, 75] }, type := 73, pos := "l06_bind.go:148", after := #[{ on := 2, ground := Ground.data }, { on := 4, ground := Ground.data }, { on := 4, ground := Ground.chain }], guard := none }) rfl (fun K hK => ?_) AllReadyH.nil
            go_simp
            go_at_call 39; with_reducible refine (PC.out _ _ bb MO'.out).mono ?_; rintro e v2 ⟨z, q1, r1, d1, q2, r2, d2, rfl, hpi, bb', hb5⟩
            try go_wp2_with fail
            refine hK.out _ _ (CK.out _ bb') (fun hHeld => ?_)
            clear hK K
            have PI' := hidden hpi
            have hlt := hidden RR.out.blk
            replace RR := hidden (RR.out.keep hb5)
            have hsz := hidden bb.size
            clear bb hb5 hpi
            have bb := bb'
            clear bb'
            try simp only [Act.put, List.setIfInBounds_toArray, List.set_cons_zero, List.set_cons_succ]
            refine wpAnyH_ready (rs := [7]) (by kernel_rfl) (by simp) ?_
            refine AllReadyH.cons (o := { dst := none, op := Op.store 73 (Operand.tmp 11) (Operand.tmp 34), type := 0, pos := "l06_bind.go:148", after := #[{ on := 6, ground := Ground.data }, { on := 5, ground := Ground.data }, { on := 5, ground := Ground.chain }, { on := 0, ground := Ground.phase }, { on := 1, ground := Ground.phase }, { on := 2, ground := Ground.phase }, { on := 3, ground := Ground.phase }, { on := 4, ground := Ground.phase }, { on := 5, ground := Ground.phase }, { on := 6, ground := Ground.phase }], guard := none }) rfl (fun K hK => ?_) AllReadyH.nil
            obtain ⟨s0, s1, s2, s3, s4, s5, s6⟩ := id RR.out
            have hwr := hsz.out
            go_simp
            refine hK.out _ _ (CK.out _ (((bb.setCell hbx.out _).setCell hbx.out _).setCell hbx.out _)) (fun hHeld => ?_)
            clear hK K
            refine wpAnyH_done (by kernel_rfl) ?_ _
            try go_wp2_with fail
            go_meet
            exact ⟨_, z, q1, r1, d1, q2, r2, d2, rfl, hidden (bn3_set RR.out _ _ _), hidden ((((PI'.out.set _ _ hlt.out).set _ _ hlt.out).set _ _ hlt.out).low hsz.out), ((bb.setCell hbx.out _).setCell hbx.out _).setCell hbx.out _⟩
        case rest =>
          rename World => w5
          obtain ⟨bx, z, q1, r1, d1, q2, r2, d2, rfl, BX, PA, hb⟩ := hcut
          obtain ⟨x, hx⟩ : ∃ x, x = apL M p.1 := ⟨_, rfl⟩
          obtain ⟨y, hy⟩ : ∃ y, y = apL M p.2 := ⟨_, rfl⟩
          have HXX := hidden hx
          have HYY := hidden hy
          rw [← hx, ← hy] at PA
          have RW5 := hidden (RW'.out.keep hb)
          have X5 := hidden (X9.out.keep hb)
          have BD5 := hidden (BD.out.keep hb)
          have XS5 := hidden ((XW.out.later BL.out (by have := LW1.out; omega)).keep hb)
          have Q5 := hidden ((QW.out.later BL.out HQB.out).keep hb)
          have PT5 := hidden (HTL.out.keep hb)
          have PT05 := hidden (fun h0 => (HTL0.out h0).keep hb)
          have BF5 := hidden (BF.out.trans (hb.mono BF.out.size))
          have BL5 := hidden (BL.out.trans (hb.mono (by have := HM1.out; omega)))
          have HW5 := hidden (show wr.heap.size ≤ w5.heap.size from hb.size)
          clear hb hx hy m0 m1 k0 k1 X9 BD RW' HTL HTL0 CK MC PC HB0
          rcases PA.out with ⟨hl, he⟩ | ⟨hl1, hl2, g5, d5, g7, d7, he, hg5, hg57, o5, o7⟩
          · simp only [Ending.returned.injEq, Value.agg.injEq, Array.mk.injEq, List.cons.injEq, Value.int.injEq, and_true, true_and] at he
            obtain ⟨rfl, -, -⟩ := he
            have HR2 := hidden (uRun_code HU.out (uStep_long HXX.out HYY.out hl))
            obtain ⟨_, q0, q1, q2, f1, f2, f3⟩ := id RW5.out
            have c0 := BX.out.c0
            clear hl
            go_wp2
            exact bodyPost_ret (v := .agg #[.int .i64 2, .slice none 0 0, .slice none 0 0]) (by simp [results, Try.results19, go_sem, q0, q1, q2]) rfl ⟨Or.inl ⟨by rw [HC.out, HR2.out]; exact Or.inl (by decide), by rw [HC.out, HR2.out]⟩, ((BF5.out.setCell HL1.out _).setCell HL1.out _).setCell HL1.out _⟩
          · simp only [Ending.returned.injEq, Value.agg.injEq, Array.mk.injEq, List.cons.injEq, Value.int.injEq, and_true, true_and] at he
            obtain ⟨rfl, he1, he2⟩ := he
            injection he1 with e1 e2 e3
            injection he2 with e4 e5 e6
            subst e1 e2 e3 e4 e5 e6
            have HTx := hidden (show TrmL n A x from by rw [HXX.out]; exact apL_trm UM.out.tmM HTA.out (by rw [← HXX.out]; exact hl1))
            have HTy := hidden (show TrmL n A y from by rw [HYY.out]; exact apL_trm UM.out.tmM HTB.out (by rw [← HYY.out]; exact hl2))
            have HNL := hidden (show ¬ (24 < x.length ∨ 24 < y.length) by omega)
            have HST0 := hidden (uStep_top (A := A) HXX.out HYY.out HNL.out)
            have US := hidden (unifySides_any b off n c g5 d1 g7 d2 (w1.heap.size + 1) (fun g => g < w.heap.size ∨ w1.heap.size + 1 ≤ g) N A M (.slice qa (cR M) xa) (.slice qb (cR M) xb) x y w5 Q5.out UM.out BD5.out HTx.out HTy.out (by rw [HXX.out]; exact apL_isFree UM.out.idem _) (by rw [HYY.out]; exact apL_isFree UM.out.idem _) o5.ints o7.ints (by have hh := o5; obtain ⟨xs, hh, _⟩ := hh; rcases hh.2 with ⟨_, h0⟩ | ⟨g', cap, cur, hv, _, hgg, hc, _⟩; exact (by omega); injection hv with h1 h2 h3; omega) (by have hh := o7; obtain ⟨xs, hh, _⟩ := hh; rcases hh.2 with ⟨_, h0⟩ | ⟨g', cap, cur, hv, _, hgg, hc, _⟩; exact (by omega); injection hv with h1 h2 h3; omega) (Or.inr (by have := HM1.out; omega)) (Or.inr (by have := HM1.out; omega)) (by have := HM1.out; have := HW5.out; omega))
            have c0 := BX.out.c0
            have c1' := BX.out.c1
            have c2' := BX.out.c2
            have n0 := XS5.out.c0
            have m0 := X5.out.two.c0
            have m1 := X5.out.two.c1
            have PTT := hidden (PT5.out.there TS2.out)
            have PTT0 := hidden (fun h0 => (PT05.out h0).there TS2.out)
            clear o5 o7 hg5 hg57
            go_wp2_with fail
            with_reducible refine US.out.mono ?_
            rintro e w6 ⟨ha, hb⟩
            clear US n0 m0 m1 c0 c1' c2'
            rcases ha with ⟨cc, hcc, htop, rfl⟩ | ⟨M', va, ta, v, k, P, htop, rfl, hbd, hgq, hor⟩
            · have HR2 := hidden (uRun_code HU.out (HST0.out.trans htop))
              have hcz : (cc != 0) = true := by simpa using hcc
              have HCC := hidden hcc
              have bN := alloc_below w6 (.cells #[.int .i64 cc, .slice none 0 0, .slice none 0 0] 31)
              have NB := hidden (Bn3.new w6 (.int .i64 cc) (.slice none 0 0) (.slice none 0 0) 31)
              have RW6 := hidden ((RW5.out.keep hb).keep bN)
              have BF6 := hidden (keepB (BF5.out.trans (hb.mono BF5.out.size)) bN)
              obtain ⟨_, q0, q1, q2, f1, f2, f3⟩ := id RW6.out
              have y0 := NB.out.c0
              have y1 := NB.out.c1
              have y2 := NB.out.c2
              clear hb bN htop hcc
              go_wp2
              exact bodyPost_ret (v := .agg #[.int .i64 cc, .slice none 0 0, .slice none 0 0]) (by simp [results, Try.results19, go_sem, q0, q1, q2]) rfl ⟨Or.inl ⟨by rw [HC.out, HR2.out]; exact Or.inl HCC.out, by rw [HC.out, HR2.out]⟩, ((BF6.out.setCell HL1.out _).setCell HL1.out _).setCell HL1.out _⟩
            · have HST := hidden (HST0.out.trans htop)
              have HKEEP := hidden (uStep_keep UM.out HTA.out HTB.out HST.out)
              have HU2 := hidden (uRun_step HU.out HST.out)
              have HOK := hidden (okU_top UM.out HTx.out HTy.out (by rw [HXX.out]; exact apL_isFree UM.out.idem _) (by rw [HYY.out]; exact apL_isFree UM.out.idem _) HXX.out hl1 htop OK.out)
              obtain ⟨pa, ka, pb, kb, rfl, rfl, -⟩ := hbd.inn HKEEP.out.1
              have bN := alloc_below w6 (.cells #[.int .i64 0, .slice pa (cR M') ka, .slice pb (cR M') kb] 31)
              have NB := hidden (Bn3.new w6 (.int .i64 0) (.slice pa (cR M') ka) (.slice pb (cR M') kb) 31)
              have X6 := hidden ((X5.out.keep hb).keep bN)
              have BD6 := hidden (hbd.keep bN)
              have GQ6 := hidden (hgq.keep bN)
              have PT6 := hidden ((PTT.out.keep hb).keep bN)
              have PT06 := hidden (fun h0 => ((PTT0.out h0).keep hb).keep bN)
              have BL6 := hidden (BL5.out.trans ((keepB hb bN).mono (by have := HM1.out; have := HW5.out; omega)))
              have HOR := hidden hor
              have BX7 := hidden (show ∀ lo' g1 d1 g2 d2, OwnBx w5 lo' w5.heap.size g1 (cR M) d1 (cV M) g2 (cR M) d2 (cnD M 12) → w1.heap.size + 1 ≤ lo' → OwnBx (((w6.alloc (.cells #[.int .i64 0, .slice pa (cR M') ka, .slice pb (cR M') kb] 31)).setCell ⟨w1.heap.size, 0, none⟩ (.slice pa (cR M') ka)).setCell ⟨w1.heap.size, 1, none⟩ (.slice pb (cR M') kb)) lo' w5.heap.size g1 (cR M) d1 (cV M) g2 (cR M) d2 (cnD M 12) from fun lo' g1 d1 g2 d2 ho hl => (((ho.keep hb).keep bN).grown (setCell_grownT _ _ _ _) (Or.inl (by omega))).grown (setCell_grownT _ _ _ _) (Or.inl (by omega)))
              have hne : w6.heap.size ≠ w1.heap.size := by have := hb.size; have := HM1.out; have := HW5.out; omega
              have y0 := NB.out.c0
              have y1 := NB.out.c1
              have y2 := NB.out.c2
              have u0 := X6.out.two.c0
              have u1 := X6.out.two.c1
              have v0 := X6.out.f0
              have v1 := X6.out.f1
              clear hb bN hbd hgq htop hor
              have hnk : ¬ (w1.heap.size < w.heap.size ∨ w1.heap.size + 1 ≤ w1.heap.size) := by have := LW1.out; omega
              have hnk2 : ¬ ((w1.heap.size < w.heap.size ∨ w1.heap.size + 1 ≤ w1.heap.size) ∧ w1.heap.size < w5.heap.size) := fun h => hnk h.1
              have hlt5 : w1.heap.size < w5.heap.size := by have := HM1.out; have := HW5.out; omega
              have X8 := hidden ((X6.out.set0 (.slice pa (cR M') ka)).set1 (.slice pb (cR M') kb))
              have BD8 := hidden ((BD6.out.setLow w1.heap.size 0 (.slice pa (cR M') ka) (by omega)).setLow w1.heap.size 1 (.slice pb (cR M') kb) (by omega))
              have GQ8 := hidden ((GQ6.out.setK ⟨w1.heap.size, 0, none⟩ (.slice pa (cR M') ka) hnk hlt5).setK ⟨w1.heap.size, 1, none⟩ (.slice pb (cR M') kb) hnk hlt5)
              have PT8 := hidden ((PT6.out.setLow ⟨w1.heap.size, 0, none⟩ (.slice pa (cR M') ka) hnk2).setLow ⟨w1.heap.size, 1, none⟩ (.slice pb (cR M') kb) hnk2)
              have BL8 := hidden ((BL6.out.setCell (p := ⟨w1.heap.size, 0, none⟩) (Nat.le_refl _) (.slice pa (cR M') ka)).setCell (p := ⟨w1.heap.size, 1, none⟩) (Nat.le_refl _) (.slice pb (cR M') kb))
              have HTS := hidden (show ∀ q, q ∈ (List.range k).map P ++ s → TrmL n A q.1 ∧ TrmL n A q.2 from fun q hq => by
                rcases List.mem_append.1 hq with h | h
                · exact HKEEP.out.2.1 q h
                · exact TS2.out q h)
              have HLN := hidden (okU_len HOK.out)
              have HGE := hidden (show ∀ g, w5.heap.size ≤ g → (g < w.heap.size ∨ w1.heap.size + 1 ≤ g) from fun g hg => Or.inr (by omega))
              have H5 := hidden hlt5
              go_upto_region 15 with fail
              obtain ⟨W7, hW7⟩ : ∃ W7, W7 = ((w6.alloc (.cells #[.int .i64 0, .slice pa (cR M') ka, .slice pb (cR M') kb] 31)).setCell ⟨w1.heap.size, 0, none⟩ (.slice pa (cR M') ka)).setCell ⟨w1.heap.size, 1, none⟩ (.slice pb (cR M') kb) := ⟨_, rfl⟩
              rw [← hW7] at X8 BD8 GQ8 PT8 BL8 BX7 ⊢
              clear hW7 y0 y1 y2 u0 u1 v0 v1 X6 BD6 GQ6 PT6 PT06 BL6 NB hnk hnk2 hlt5 hne
              by_cases hs0 : s = []
              · have HS0 := hidden hs0
                have PV8 := hidden (GQ8.out.view HGE.out)
                have hl0 : s.length = 0 := by rw [hs0]; rfl
                rw [hl0]
                clear hs0 hl0
                rcases GQ8.out.slc with ⟨hk0, hv⟩ | ⟨g8, c9, hv, hcc⟩
                · rw [hv] at PV8 ⊢
                  clear hv
                  go_wp2
                  all_goals
                    go_roundg f
                    case measure => omega
                    case rel => exact ⟨M', (List.range k).map P ++ s, _, _, HU2, hidden HKEEP.out.1, HTS, hidden (by rw [HS0.out, List.append_nil]; exact PV8.out), X8, BD8, BL8, HOK⟩
                · rw [hv] at PV8 ⊢
                  clear hv
                  go_wp2
                  all_goals
                    go_roundg f
                    case measure => omega
                    case rel => exact ⟨M', (List.range k).map P ++ s, _, _, HU2, hidden HKEEP.out.1, HTS, hidden (by rw [HS0.out, List.append_nil]; exact PV8.out), X8, BD8, BL8, HOK⟩
              · have hpos : 0 < s.length := List.length_pos_iff.2 hs0
                obtain ⟨q8, c8, e8, hc8, hrows⟩ := PT8.out
                obtain ⟨b8, o8, e9, hk8, hl8, hi8⟩ := hrows hs0
                injection e8 with e1 e2 e3
                rw [e9] at e1
                injection e1 with e1
                injection e1 with e4 e5 e6
                subst e4 e5
                have HI8 := hidden hi8
                obtain ⟨xs, hx1, hx2⟩ := GQ8.out.row
                have HX1 := hidden hx1
                have HX2 := hidden hx2
                have HTOP := hidden GQ8.out.top
                have HUPS := hidden GQ8.out.ups
                rw [List.length_append, List.length_map, List.length_range] at HLN
                have HLN2 := HLN.out
                have hc31 : 1 < c3 := by omega
                have hc32 : ¬ c3 = 1 := by omega
                clear hi8 hx1 hx2 hs0 hk8 hl8 e9 e2 e3 e6 hrows hc8
                go_wp2_with (at_builtin; refine (fun h => h trivial : (True → _) → _) ?_)
                intro _
                refine wpList_append_lies _ rfl _ _ 71 rfl w5.heap.size 61 _ (.agg #[.slice none 0 0, .slice none 0 0]) 2 48 Try.underlying71 rfl rfl rfl rfl rfl (by decide) v k xs rfl HX1.out ⟨b3, o3 + 2, none⟩ s.length (c3 - 1) (cellsL W7 b3 (o3 + 2) (s.length * 2)) rfl (cellsL_len _ _ _ _) (cells_src HI8.out).1 (cells_src HI8.out).2 hpos (by unfold maxLen; omega) (by omega) HTOP.out _ rfl ?_
                intro g9 d9 w9 hown hgrow hat hlt9
                have HB9 := hidden (show Below w5.heap.size W7 w9 from ⟨hgrow.os, hgrow.tape, hgrow.output, hgrow.size, fun q hq => hgrow.block q (by have := HTOP.out; omega) (fun e => by have := (HX1.out.lt q e.symm).1; omega)⟩)
                have PV9 := hidden (append_viewQ HX2.out HX1.out.1 HB9.out HI8.out hown (by omega) HGE.out HUPS.out)
                have X10 := hidden (X8.out.later HB9.out H5.out)
                have BD10 := hidden (show BdB w9 (w1.heap.size + 1) M' (.slice pa (cR M') ka) (.slice pb (cR M') kb) from by
                  rcases HOR.out with hv | ⟨hM, hva, hta⟩
                  · rw [hv] at hgrow
                    exact BD8.out.keep ((Below.refl _ _).grown hgrow (Nat.le_refl _) (fun q hq => by cases hq))
                  · subst hM
                    rw [hva, hta]
                    rcases BD5.out with h0 | ⟨h0, lo', g1, d1, g2, d2, e1, e2, hl, ho⟩
                    · exact Or.inl h0
                    · refine Or.inr ⟨h0, lo', g1, d1, g2, d2, e1, e2, hl, ?_⟩
                      have hb7 := BX7.out lo' g1 d1 g2 d2 ho hl
                      rcases GQ8.out.slc with ⟨_, hv⟩ | ⟨g8, c9, hv, _⟩
                      · rw [hv] at hgrow
                        have hq := hb7.keep ((Below.refl _ _).grown hgrow (Nat.le_refl _) (fun q hq => by cases hq))
                        exact hq.hi (Nat.le_trans hb7.top hgrow.size) (Nat.le_refl _)
                      · have hg8 := (HX1.out.lt g8 (by rw [hv]; rfl)).1
                        rw [hv] at hgrow
                        have hq := hb7.grown hgrow (Or.inr hg8)
                        exact hq.hi (Nat.le_trans hb7.top hgrow.size) (Nat.le_refl _))
                have BL10 := hidden (BL8.out.trans (HB9.out.mono (Nat.le_of_lt H5.out)))
                clear hown hgrow hat hlt9
                go_wp2
                go_roundg f
                case measure => omega
                case rel => exact ⟨M', (List.range k).map P ++ s, _, _, HU2, hidden HKEEP.out.1, HTS, PV9, X10, BD10, BL10, HOK⟩
  · have HA := hidden (utC_bad (n := n) (N := N) (A := A) hz)
    have HN := hidden hz
    have hz' : (sdF n N A m1 L1 m2 L2 != 0) = true := by simpa using hz
    generalize sdF n N A m1 L1 m2 L2 = z at *
    clear hz
    obtain ⟨_, q0, q1, q2, f0, f1, f2⟩ := id R.out
    have HL1 := hidden (show w.heap.size ≤ w.heap.size + 1 by omega)
    go_wp2
    exact bodyPost_ret (v := .agg #[.int .i64 z, .slice none 0 0, .slice none 0 0]) (by simp [results, Try.results19, go_sem, q0, q1, q2]) rfl ⟨Or.inl ⟨by rw [HA.out]; exact Or.inl HN.out, by rw [HA.out]⟩, ((B.out.setCell HL1.out _).setCell HL1.out _).setCell HL1.out _⟩

end Go.Proofs.Ytenlogljpgdbpaa
