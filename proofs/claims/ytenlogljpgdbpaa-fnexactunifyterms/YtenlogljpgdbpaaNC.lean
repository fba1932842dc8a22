/- Several texts as one: Round, ArgI, ArgP. -/
import Derived.Test.YtenlogljpgdbpaaPlaces
import Derived.Sort.CutIn
import Derived.Deep.RegionHeld3
import Derived.Test.YtenlogljpgdbpaaArgs
import Derived.Test.YtenlogljpgdbpaaNB
import Derived.OwnWalkIn
import Derived.Deep.AppendLies
/- A region that draws its order, in a round of a range over a function: as it goes without a round. -/
namespace Go.Proofs.Ytenlogljpgdbpaa
open Go.RowKit Go.Shelf

/-- No operation of a region is put off. -/
def noDefer (ops : Array Oper) : Bool := ops.toList.all fun o => match o.op with | .defer _ => false | _ => true

theorem noDefer_op {ops : Array Oper} (h : noDefer ops = true) {i : Nat} {o : Oper} (ho : ops[i]? = some o) : ∀ c, o.op ≠ .defer c := by
  have h1 := List.all_eq_true.1 h o (by rw [Array.mem_toList_iff]; exact Array.mem_of_getElem? ho)
  intro c e
  rw [e] at h1
  cases h1

theorem operIn_round {n l : Nat} {P : Program} {o : Oper} {Q : Exit → Act → World → Prop} {K K' : Act → World → Prop} {a : Act} {w : World} (hd : ∀ c, o.op ≠ .defer c)
    (hK : ∀ a w, K a w → K' a w) (h : o.wp P a w K Q) : o.wpIn (Fence.wide.inRound l) n P a w K' Q := by
  refine ⟨fun _ _ => trivial, ?_⟩
  rw [Oper.semAt_eq _ _ _ hd]
  unfold Oper.wp at h
  generalize (execOp a.eval o).run P w = r at h
  cases r with
  | ok x w' =>
    cases x with
    | value v => exact hK _ _ h
    | skip => exact hK _ _ h
    | defer d => exact hK _ _ h
    | enter f args =>
      refine ⟨fun h => by simp [Fence.wide, Fence.inRound] at h, ?_⟩
      refine CallsIn.inRound l (CallsIn.mono (callsIn_wide.2 h) ?_)
      intro e w'' he
      cases e with
      | returned v => exact hK _ _ he
      | panicked ch => exact he
      | outgrown => exact he
    | row r args =>
      refine ⟨fun h => by simp [Fence.wide, Fence.inRound] at h, ?_⟩
      intro c cs _
      obtain ⟨v, w2, hv, hs⟩ := h c cs
      exact ⟨v, w2, hK _ _ hv, stepsIn_wide.2 hs⟩
    | round l f t a b => exact h.elim
    | _ => exact h.elim
  | halt x w' =>
    cases x with
    | panic v => exact h
    | _ => exact h.elim

theorem wpAnyIn_round {n l : Nat} {P : Program} {md : Region.Mode} {ops : Array Oper} {Q : Exit → Act → World → Prop} (hd : noDefer ops = true) (hno : ¬ LetsOut Q) : ∀ (fuel : Nat) (listed : Array Bool) (a : Act) (w : World),
    wpAny P md ops Q fuel listed a w → wpAnyIn (Fence.wide.inRound l) n P md ops Q fuel listed a w
  | 0, listed, a, w, h => h
  | fuel + 1, listed, a, w, h => by
    refine ⟨h.1, fun i hi => ?_⟩
    have h1 := h.2 i hi
    unfold wpOp at h1
    unfold wpOpIn
    cases ho : ops[i]? with
    | none => rw [ho] at h1; exact wpAnyIn_round hd hno fuel _ _ _ h1
    | some o =>
      rw [ho] at h1
      dsimp only at h1 ⊢
      split
      · rename_i hw
        rw [if_pos hw] at h1
        exact operIn_round (noDefer_op hd ho) (fun a w h => wpAnyIn_round hd hno fuel _ _ _ h) (h1.resolve_right fun h => hno h.2)
      · rename_i hw
        rw [if_neg hw] at h1
        exact ⟨fun _ _ => trivial, wpAnyIn_round hd hno fuel _ _ _ h1⟩

/-- A statement that ends as it should serves whatever is said of its other ends. -/
theorem wpIn_no {F : Fence} {k : Nat} {P : Program} {s : Code} {K : Act → World → Prop} {Q' : Exit → Act → World → Prop} {a : Act} {w : World} (h : s.wpIn F k P (Exit.then K (fun _ _ _ => False)) a w) : s.wpIn F k P (Exit.then K Q') a w := by
  refine wpIn_mono h ?_
  intro e a' w' hq
  cases e with
  | normal => exact hq
  | exit id => exact hq.elim
  | goto l => exact hq.elim
  | ret => exact hq.elim
  | panic ch => exact hq.elim
  | outgrown => exact hq.elim

theorem wpIn_region_held {n l : Nat} {P : Program} {ops : Array Oper} {K : Act → World → Prop} {Q' : Exit → Act → World → Prop} {S : World → Prop} {id : Nat} {a : Act} {w : World} (hm : P.follows .mixedOrders = true) (hd : noDefer ops = true) (hS : S w.drew)
    (h : S w.drew → wpAnyH P .any ops (Exit.then K (fun _ _ _ => False)) S ops.size (Array.replicate ops.size false) a w.drew) : (Code.region id ops true).wpIn (Fence.wide.inRound l) n P (Exit.then K Q') a w :=
  wpIn_no (wpIn_region_any hm (wpAnyIn_round hd (fun ⟨_, _, h⟩ => h) _ _ _ _ (wpAny_of_held _ _ _ _ (h hS))))

end Go.Proofs.Ytenlogljpgdbpaa

/- Contract: argumentsOf: the arguments of a term, as the program gathers them. -/
namespace Go.Proofs.Ytenlogljpgdbpaa
open Go.RowKit Go.Shelf

attribute [local go_sem] Oper.semAt_some

theorem But.growA {X B : Nat} {w w' : World} {row : Option Nat} (h : w.grownBy w' row) (hB : B ≤ w.heap.size) (hr : ∀ r, row = some r → B ≤ r) : But X B w w' :=
  ⟨h.os, h.tape, h.output, h.size, fun k hk _ => h.block k (by omega) (fun e => by have := hr k e.symm; omega)⟩

theorem wpIn_region_heldA {n l : Nat} {P : Program} {ops : Array Oper} {Q : Exit → Act → World → Prop} {S : World → Prop} {id : Nat} {a : Act} {w : World} (hm : P.follows .mixedOrders = true) (hd : noDefer ops = true) (hS : S w.drew)
    (h : S w.drew → wpAnyH P .any ops (Exit.then (fun a w => Q .normal a w) (fun _ _ _ => False)) S ops.size (Array.replicate ops.size false) a w.drew) : (Code.region id ops true).wpIn (Fence.wide.inRound l) n P Q a w := by
  refine wpIn_mono (wpIn_region_held (Q' := fun _ _ _ => False) hm hd hS h) ?_
  intro e a' w' hq
  cases e with
  | normal => exact hq
  | exit id => exact hq.elim
  | goto l => exact hq.elim
  | ret => exact hq.elim
  | panic ch => exact hq.elim
  | outgrown => exact hq.elim

theorem own_baseA {W : World} {base : Nat} {e : TypeId} {v : Value} {k : Nat} {xs : List Value} (h : W.ownsRow base e 1 v k xs) : ∀ r, v.ownBlock = some r → base ≤ r ∧ ∀ o : Obj, W.heap[r]? = some o → o.isCells = true := by
  intro r hr
  rcases h.2 with ⟨rfl, _⟩ | ⟨g, cap, cur, rfl, hb, hg, _⟩
  · simp [Value.ownBlock] at hr
  · have e1 : g = r := by simpa [Value.ownBlock] using hr
    subst e1
    exact ⟨hb, fun o ho => by rw [hg] at ho; cases ho; rfl⟩

theorem ownsRow_staysA {W W' : World} {row : Option Nat} {base : Nat} {e : TypeId} {size : Nat} {v : Value} {k : Nat} {xs : List Value} (h : W.ownsRow base e size v k xs) (hg : W.grownBy W' row)
    (hrow : ∀ r, row = some r → ∃ o : Obj, W.heap[r]? = some o ∧ o.isCells = false) : W'.ownsRow base e size v k xs := by
  refine h.kept hg ?_
  rcases h.2 with ⟨rfl, _⟩ | ⟨g, cap, cur, rfl, _, hgb, _⟩
  · exact .inl rfl
  · refine .inr ?_
    intro e1
    obtain ⟨o, ho, hc⟩ := hrow g e1.symm
    rw [hgb] at ho
    cases ho
    cases hc

/-- A variable in a box of its own. -/
structure BxA (w : World) (b : Nat) (v : Value) : Prop where
  blk : b < w.heap.size
  c0 : w.cell? ⟨b, 0, none⟩ = some v
  f0 : w.frozen? ⟨b, 0, none⟩ = false

theorem BxA.keep {w w' : World} {b : Nat} {v : Value} (h : BxA w b v) (hb : Below w.heap.size w w') : BxA w' b v :=
  ⟨Nat.lt_of_lt_of_le h.blk hb.size, by rw [hb.cell (p := ⟨b, 0, none⟩) h.blk]; exact h.c0, by rw [hb.frozen (p := ⟨b, 0, none⟩) h.blk]; exact h.f0⟩

theorem BxA.grownO {w w' : World} {b : Nat} {v : Value} {row : Option Nat} (h : BxA w b v) (hg : w.grownBy w' row) (hne : row ≠ some b) : BxA w' b v := by
  have hb := hg.block b h.blk (fun e => hne e.symm)
  exact ⟨Nat.lt_of_lt_of_le h.blk hg.size, by rw [cell_of_blk hb]; exact h.c0, by rw [World.frozen?_of_block hb]; exact h.f0⟩

theorem arg_cells {w W v1 v6 : World} {s b off n c b' off' m c' : Nat} {v : Value} (hbW : Below W.heap.size W v1) (hsW : s + 1 + 1 + 1 < W.heap.size) (hbw : w.heap.size + 1 + 1 ≤ s)
    (hgr : v1.grownBy v6 v.ownBlock) (hob : ∀ r, v.ownBlock = some r → s + 1 + 1 + 1 + 1 ≤ r ∧ ∀ o : Obj, v1.heap[r]? = some o → o.isCells = true)
    (hcs : W.cell? ⟨w.heap.size, 0, none⟩ = some (.slice (some ⟨b, off, none⟩) n c)) (hct : W.cell? ⟨w.heap.size + 1, 0, none⟩ = some (.slice (some ⟨b', off', none⟩) m c')) :
    v6.cell? ⟨w.heap.size, 0, none⟩ = some (.slice (some ⟨b, off, none⟩) n c) ∧ v6.cell? ⟨w.heap.size + 1, 0, none⟩ = some (.slice (some ⟨b', off', none⟩) m c') := by
  have z1 := hbW.size
  have hbut : But s (s + 1 + 1 + 1) W v6 := (But.of hbW (by omega)).trans (But.growA hgr (by omega) (fun r e => by have := (hob r e).1; omega))
  exact ⟨(hbut.cell (by omega) (by omega)).trans hcs, (hbut.cell (by omega) (by omega)).trans hct⟩

/-- What a round leaves. -/
theorem arg_round {w W v1 v6 : World} {s kk b off n c b' off' m c' : Nat} {v nv : Value} {ys : List Value} (hbW : Below W.heap.size W v1) (hsW : s + 1 + 1 + 1 < W.heap.size) (HB : Below w.heap.size w W) (hbw : w.heap.size + 1 + 1 ≤ s)
    (hgr : v1.grownBy v6 v.ownBlock) (hob : ∀ r, v.ownBlock = some r → s + 1 + 1 + 1 + 1 ≤ r ∧ ∀ o : Obj, v1.heap[r]? = some o → o.isCells = true)
    (how : v6.ownsRow (s + 1 + 1 + 1 + 1) 25 1 nv kk ys) (cX3 : v6.cell? ⟨s, 0, none⟩ = some v) (fX3 : v6.frozen? ⟨s, 0, none⟩ = false)
    (hcs : W.cell? ⟨w.heap.size, 0, none⟩ = some (.slice (some ⟨b, off, none⟩) n c)) (hct : W.cell? ⟨w.heap.size + 1, 0, none⟩ = some (.slice (some ⟨b', off', none⟩) m c')) :
    (∀ BB, KeepsFrom BB W (v6.setCell ⟨s, 0, none⟩ nv)) ∧ But s (s + 1 + 1 + 1) W (v6.setCell ⟨s, 0, none⟩ nv) ∧
    (((v6.setCell ⟨s, 0, none⟩ nv).cell? ⟨s, 0, none⟩ = some nv ∧ (v6.setCell ⟨s, 0, none⟩ nv).frozen? ⟨s, 0, none⟩ = false ∧ (v6.setCell ⟨s, 0, none⟩ nv).ownsRow (s + 1 + 1 + 1 + 1) 25 1 nv kk ys ∧ (v6.setCell ⟨s, 0, none⟩ nv).cell? ⟨w.heap.size, 0, none⟩ = some (.slice (some ⟨b, off, none⟩) n c) ∧ (v6.setCell ⟨s, 0, none⟩ nv).cell? ⟨w.heap.size + 1, 0, none⟩ = some (.slice (some ⟨b', off', none⟩) m c') ∧ s + 1 + 1 + 1 < (v6.setCell ⟨s, 0, none⟩ nv).heap.size) ∧ Below w.heap.size w (v6.setCell ⟨s, 0, none⟩ nv)) := by
  have z1 := hbW.size
  have hbut : But s (s + 1 + 1 + 1) W (v6.setCell ⟨s, 0, none⟩ nv) :=
    ((But.of hbW (by omega)).trans (But.growA hgr (by omega) (fun r e => by have := (hob r e).1; omega))).trans (But.set _ _ _ _)
  refine ⟨fun _ => ((keepsFrom_below hbW).trans ((KeepsOthers.of_grownBy hgr (fun j o e ho => (hob j e).2 o ho)).from _)).trans ((KeepsOthers.setCell _ _ _).from _), hbut, ⟨World.cell?_setCell_same _ _ _ cX3, by rw [World.frozen?_setCell]; exact fX3, ?_, ?_, ?_, ?_⟩, ?_⟩
  · refine how.kept (grownBy_setCell' v6 s nv) ?_
    rcases how.2 with ⟨e, _⟩ | ⟨g, cap, cur, e, hb, _⟩
    · exact .inl (by rw [e]; rfl)
    · refine .inr (by rw [e]; intro h; simp [Value.ownBlock] at h; omega)
  · exact (hbut.cell (by omega) (by omega)).trans hcs
  · exact (hbut.cell (by omega) (by omega)).trans hct
  · have := hbut.size; omega
  · have B2 : Below w.heap.size w v1 := keepB HB hbW
    refine (B2.grown hgr B2.size (fun k e => by have := (hob k e).1; omega)).setCell (by show w.heap.size ≤ s; omega) _


set_option maxRecDepth 100000 in
set_option maxHeartbeats 8000000 in
theorem argumentsOf_any (b off n c b' off' m c' : Nat) (N : Nat → ByteArray) (A T : Nat → Int) (hg : Trm n A m T) (hc' : m ≤ c') (w : World) (h : Syms w b off n N A) (h' : Ints w b' off' m T) :
    Calls Try.prog 96 #[.agg #[.slice (some ⟨b, off, none⟩) n c], (.slice (some ⟨b', off', none⟩) m c')] w fun e w' => (∃ v, e = .returned v ∧ ((aOf A T 0 = 0 ∧ v = .slice none 0 0) ∨ ∃ g d, v = .slice (some ⟨g, 0, none⟩) (aOf A T 0) d ∧ w.heap.size ≤ g ∧ g < w'.heap.size ∧ ∀ i, i < aOf A T 0 → w'.cell? ⟨g, i, none⟩ = some (.slice (some ⟨b', off' + agP (aOf A T) m i, none⟩) (agP (aOf A T) m (i + 1) - agP (aOf A T) m i) (c' - agP (aOf A T) m i)))) ∧ Below w.heap.size w w' := by
  have hp : 0 < m := hg.pos
  refine (callsIn_wide (n := 3)).1 ?_
  refine callsIn_of_wp_marks Try.func96 rfl trivial ?_ rfl
  simp only [Try.ntmps96, List.size_toArray, List.length_cons, List.length_nil, Nat.reduceAdd, Nat.reduceSub, Array.replicate_succ, Array.replicate_zero, List.push_toArray, List.append_toArray, List.nil_append, List.cons_append]
  have hb := h.blk hg.sig.least
  have hb' := h'.blk hg.pos
  have hm24 := hg.nods.most
  have hmx : Try.prog.follows .mixedOrders = true := by kernel_rfl
  have HS := hidden h
  have HT := hidden h'
  have HG := hidden hg
  clear h h' hg
  gi_wp2_with (refine ⟨trivial, ?_⟩; gi_at_call 104; refine (callsIn_wide.2 (argumentsThere_any _ _ _ _ _ _ _ _)).mono ?_; rintro e w' ⟨rfl, rfl⟩)
  have b0 := Boxed.new w 35 (.slice (some ⟨b, off, none⟩) n c)
  have b1 := Boxed.new (w.alloc (.cells #[.slice (some ⟨b, off, none⟩) n c] 35)) 25 (.slice (some ⟨b', off', none⟩) m c')
  have b2 := Boxed.new ((w.alloc (.cells #[.slice (some ⟨b, off, none⟩) n c] 35)).alloc (.cells #[.slice (some ⟨b', off', none⟩) m c'] 25)) 27 (.slice none 0 0)
  have b3 := Boxed.new (((w.alloc (.cells #[.slice (some ⟨b, off, none⟩) n c] 35)).alloc (.cells #[.slice (some ⟨b', off', none⟩) m c'] 25)).alloc (.cells #[.slice none 0 0] 27)) 35 (.slice (some ⟨b, off, none⟩) n c)
  have b4 := Boxed.new ((((w.alloc (.cells #[.slice (some ⟨b, off, none⟩) n c] 35)).alloc (.cells #[.slice (some ⟨b', off', none⟩) m c'] 25)).alloc (.cells #[.slice none 0 0] 27)).alloc (.cells #[.slice (some ⟨b, off, none⟩) n c] 35)) 25 (.slice (some ⟨b', off', none⟩) m c')
  have b5 := Boxed.new (((((w.alloc (.cells #[.slice (some ⟨b, off, none⟩) n c] 35)).alloc (.cells #[.slice (some ⟨b', off', none⟩) m c'] 25)).alloc (.cells #[.slice none 0 0] 27)).alloc (.cells #[.slice (some ⟨b, off, none⟩) n c] 35)).alloc (.cells #[.slice (some ⟨b', off', none⟩) m c'] 25)) 2 (.int .i64 0)
  simp only [World.size_alloc] at b1 b2 b3 b4 b5
  have hB0 : Below w.heap.size w ((((((w.alloc (.cells #[.slice (some ⟨b, off, none⟩) n c] 35)).alloc (.cells #[.slice (some ⟨b', off', none⟩) m c'] 25)).alloc (.cells #[.slice none 0 0] 27)).alloc (.cells #[.slice (some ⟨b, off, none⟩) n c] 35)).alloc (.cells #[.slice (some ⟨b', off', none⟩) m c'] 25)).alloc (.cells #[.int .i64 0] 2)) :=
    ((((((Below.refl _ w).alloc (Nat.le_refl _) _).alloc (by simp) _).alloc (by simp; omega) _).alloc (by simp; omega) _).alloc (by simp; omega) _).alloc (by simp; omega) _
  refine wpIn_rangeFunc_ownG rfl (by omega) (gf := 108) (lb := #[.pointer (some ⟨w.heap.size + 1 + 1 + 1 + 1 + 1, 0, none⟩), .pointer (some ⟨w.heap.size + 1 + 1 + 1, 0, none⟩), .pointer (some ⟨w.heap.size + 1 + 1 + 1 + 1, 0, none⟩)]) rfl trivial (enters_of Try.func108 (by kernel_rfl) rfl)
    (args_stops _ (by omega) (w.heap.size + 1 + 1 + 1 + 1 + 1) (w.heap.size + 1 + 1 + 1) (w.heap.size + 1 + 1 + 1 + 1) (w.heap.size + 1 + 1) (w.heap.size + 1 + 1 + 1 + 1 + 1) b off n c b' off' m c' 0 (aOf A T 0) N A T HG.out hp rfl hc' ⟨by omega, by omega⟩ ⟨by omega, by omega⟩ ⟨by omega, by omega⟩ ⟨by omega, by omega⟩ _ (by simp) (by simp) b5.cell ((b3.alloc _).alloc _).cell (b4.alloc _).cell (HS.out.keep hB0) (HT.out.keep hB0))
    butK_t (butK_b (by simp)) (Below.refl _ _) (fun _ => rfl)
    (fun pre W => (∃ v, W.cell? ⟨w.heap.size + 1 + 1, 0, none⟩ = some v ∧ W.frozen? ⟨w.heap.size + 1 + 1, 0, none⟩ = false ∧ W.ownsRow (w.heap.size + 1 + 1 + 1 + 1 + 1 + 1) 25 1 v pre.length (pre.map (fun x => Value.slice (some ⟨b', off' + x.1, none⟩) (manyN (aOf A T) m x.1) (c' - x.1))) ∧ W.cell? ⟨w.heap.size, 0, none⟩ = some (.slice (some ⟨b, off, none⟩) n c) ∧ W.cell? ⟨w.heap.size + 1, 0, none⟩ = some (.slice (some ⟨b', off', none⟩) m c') ∧ w.heap.size + 1 + 1 + 1 + 1 + 1 < W.heap.size) ∧ Below w.heap.size w W)
    (fun _ _ _ => False)
    (OwnFrom.and (Own.from (fun s A B row hs hg hr => by
      obtain ⟨v, h1, h2, h3, h4, h5, h6⟩ := hs
      exact ⟨v, cell_kept h1 hg hr, (frozen_kept h1 hg hr).trans h2, ownsRow_staysA h3 hg hr, cell_kept h4 hg hr, cell_kept h5 hg hr, Nat.lt_of_lt_of_le h6 hg.size⟩) _) (ownFrom_below (Nat.le_refl _) (by simp; omega)))
    (fun _ _ _ _ _ hs _ _ => hs)
    ⟨⟨_, (((b2.alloc _).alloc _).alloc _).cell, (((b2.alloc _).alloc _).alloc _).frozen, ⟨rfl, .inl ⟨rfl, rfl⟩⟩, (((((b0.alloc _).alloc _).alloc _).alloc _).alloc _).cell, ((((b1.alloc _).alloc _).alloc _).alloc _).cell, by simp⟩, hB0⟩
    (fun x => { tmps := #[.agg #[.slice (some ⟨b, off, none⟩) n c], .slice (some ⟨b', off', none⟩) m c', .pointer (some ⟨w.heap.size, 0, none⟩), .pointer (some ⟨w.heap.size + 1, 0, none⟩), .slice none 0 0, .pointer (some ⟨w.heap.size + 1 + 1, 0, none⟩), .int .i64 (x.1 : Int), .agg #[.slice (some ⟨b, off, none⟩) n c], .slice (some ⟨b', off', none⟩) m c', .func (.func 108) #[] #[.pointer (some ⟨w.heap.size + 1 + 1 + 1 + 1 + 1, 0, none⟩), .pointer (some ⟨w.heap.size + 1 + 1 + 1, 0, none⟩), .pointer (some ⟨w.heap.size + 1 + 1 + 1 + 1, 0, none⟩)], .int .i64 (x.1 : Int), undef, undef, undef, undef, undef, undef, undef, undef], defers := [] }) ?assign ?body ?done ?stop
  case assign =>
    intro l x W K hK
    gi_wp2
    exact hK
  case body =>
    rintro l pre x W ⟨⟨v, hcx, hfx, hrow, hcs, hct, hsW⟩, hB⟩ hl
    have har2 := HG.out.nods.aOf_le hp
    have HB := hidden hB
    have IC := hidden (termThere_any b off n c b' off' m c' x.1 N A T W.drew (HS.out.keep hB.drew) (HT.out.keep hB.drew) HG.out x.2.2 hc')
    have hX : w.heap.size + 1 + 1 < W.heap.size := World.block_lt_of_cell? W _ hcx
    have BX := hidden (BxA.mk hX hcx hfx)
    have CK := hidden (And.intro hcs hct)
    have CKB := hidden (show ∀ w', Below W.heap.size W w' → (w'.cell? ⟨w.heap.size, 0, none⟩ = some (.slice (some ⟨b, off, none⟩) n c) ∧ w'.cell? ⟨w.heap.size + 1, 0, none⟩ = some (.slice (some ⟨b', off', none⟩) m c')) from fun w' hb => ⟨(hb.cell (p := ⟨w.heap.size, 0, none⟩) (by show w.heap.size < _; omega)).trans hcs, (hb.cell (p := ⟨w.heap.size + 1, 0, none⟩) (by show w.heap.size + 1 < _; omega)).trans hct⟩)
    obtain ⟨k, hk⟩ : ∃ k, k = pre.length := ⟨_, rfl⟩
    have HKL := hidden hk
    have HROW := hidden hrow
    have hkl : k ≤ 2 := by omega
    rw [← hk] at HROW
    clear hB hrow hk hcx hfx hcs hct
    gi_wp2
    refine wpIn_region_heldA (S := fun wz => wz.cell? ⟨w.heap.size, 0, none⟩ = some (.slice (some ⟨b, off, none⟩) n c) ∧ wz.cell? ⟨w.heap.size + 1, 0, none⟩ = some (.slice (some ⟨b', off', none⟩) m c')) hmx (by kernel_rfl) (CKB.out _ (Below.refl W.heap.size W).drew) (fun hHeld => ?_)
    refine wpAnyH_take (i := 1) (oi := { dst := some 12, op := Op.load 35 (Operand.tmp 2), type := 35, pos := "l06_bind.go:210", after := #[], guard := none }) (v := ?_) rfl (by kernel_rfl) (by kernel_rfl) (by kernel_rfl) (fun _ _ _ h => h) (Or.inl ⟨by rfl, ?_⟩) (by assumption) ?_
    rotate_left
    · (intro wv hSw; (try dsimp only at hSw); go_simp; try with_reducible rfl)
    try simp only [Act.put, List.setIfInBounds_toArray, List.set_cons_zero, List.set_cons_succ]
    refine wpAnyH_take (i := 2) (oi := { dst := some 13, op := Op.load 25 (Operand.tmp 3), type := 25, pos := "l06_bind.go:210", after := #[], guard := none }) (v := ?_) rfl (by kernel_rfl) (by kernel_rfl) (by kernel_rfl) (fun _ _ _ h => h) (Or.inl ⟨by rfl, ?_⟩) (by assumption) ?_
    rotate_left
    · (intro wv hSw; (try dsimp only at hSw); go_simp; try with_reducible rfl)
    try simp only [Act.put, List.setIfInBounds_toArray, List.set_cons_zero, List.set_cons_succ]
    refine wpAnyH_take (i := 3) (oi := { dst := some 14, op := Op.move (Operand.tmp 6), type := 2, pos := "l06_bind.go:210", after := #[], guard := none }) (v := ?_) rfl (by kernel_rfl) (by kernel_rfl) (by kernel_rfl) (fun _ _ _ h => h) (Or.inl ⟨by rfl, ?_⟩) (by assumption) ?_
    rotate_left
    · (intro wv hSw; (try dsimp only at hSw); go_simp; try with_reducible rfl)
    try simp only [Act.put, List.setIfInBounds_toArray, List.set_cons_zero, List.set_cons_succ]
    refine wpAnyH_ready (rs := [0, 4]) (by kernel_rfl) (by simp) ?_
    refine AllReadyH.cons (o := { dst := some 11, op := Op.load 27 (Operand.tmp 5), type := 27, pos := "l06_bind.go:210", after := #[], guard := none }) rfl (fun K hK => ?_) (AllReadyH.cons (o := { dst := some 15, op := Op.call { callee := Callee.value (Operand.func 105), args := #[Operand.tmp 12, Operand.tmp 13, Operand.tmp 14], argTypes := #[35, 25, 2] }, type := 25, pos := "l06_bind.go:210", after := #[{ on := 1, ground := Ground.data }, { on := 2, ground := Ground.data }, { on := 3, ground := Ground.data }], guard := none }) rfl (fun K hK => ?_) AllReadyH.nil)
    · have xl := (BX.out.keep (Below.refl W.heap.size W).drew).c0
      go_simp
      refine hK.out _ _ (CKB.out _ (Below.refl W.heap.size W).drew) (fun hHeld => ?_)
      clear hK K xl
      try simp only [Act.put, List.setIfInBounds_toArray, List.set_cons_zero, List.set_cons_succ]
      refine wpAnyH_ready (rs := [4]) (by kernel_rfl) (by simp) ?_
      refine AllReadyH.cons (o := { dst := some 15, op := Op.call { callee := Callee.value (Operand.func 105), args := #[Operand.tmp 12, Operand.tmp 13, Operand.tmp 14], argTypes := #[35, 25, 2] }, type := 25, pos := "l06_bind.go:210", after := #[{ on := 1, ground := Ground.data }, { on := 2, ground := Ground.data }, { on := 3, ground := Ground.data }], guard := none }) rfl (fun K hK => ?_) AllReadyH.nil
      go_simp
      go_at_call 105; with_reducible refine IC.out.mono ?_; rintro e v1 ⟨rfl, bc0⟩
      try go_wp2_with fail
      have bc : Below W.heap.size W v1 := (Below.refl W.heap.size W).drew.trans bc0
      refine hK.out _ _ (CKB.out _ bc) (fun hHeld => ?_)
      clear hK K
      try simp only [Act.put, List.setIfInBounds_toArray, List.set_cons_zero, List.set_cons_succ]
      refine wpAnyH_ready (rs := [5]) (by kernel_rfl) (by simp) ?_
      refine AllReadyH.cons (o := { dst := some 16, op := Op.buildSlice 27 1 #[(0, Operand.tmp 15)], type := 27, pos := "l06_bind.go:210", after := #[{ on := 4, ground := Ground.data }], guard := none }) rfl (fun K hK => ?_) AllReadyH.nil
      go_simp
      have bd : Below W.heap.size W (v1.alloc (.cells #[.slice (some ⟨b', off' + x.1, none⟩) (manyN (aOf A T) m x.1) (c' - x.1)] 25)) := keepB bc (alloc_below _ _)
      refine hK.out _ _ (CKB.out _ bd) (fun hHeld => ?_)
      clear hK K
      try simp only [Act.put, List.setIfInBounds_toArray, List.set_cons_zero, List.set_cons_succ]
      refine wpAnyH_ready (rs := [6]) (by kernel_rfl) (by simp) ?_
      refine AllReadyH.cons (o := { dst := some 17, op := Op.call { callee := Callee.builtin Builtin.append, args := #[Operand.tmp 11, Operand.tmp 16], argTypes := #[27, 27] }, type := 27, pos := "l06_bind.go:210", after := #[{ on := 0, ground := Ground.data }, { on := 5, ground := Ground.data }, { on := 4, ground := Ground.chain }], guard := none }) rfl (fun K hK => ?_) AllReadyH.nil
      have hrw := ownsRow_upon HROW.out bd
      refine step_append_lies _ rfl _ _ 27 rfl (w.heap.size + 1 + 1 + 1 + 1 + 1 + 1) 25 _ (.slice none 0 0) 1 24 Try.underlying27 rfl rfl rfl rfl rfl (by decide) v k _ rfl hrw ⟨v1.heap.size, 0, none⟩ 1 1 [.slice (some ⟨b', off' + x.1, none⟩) (manyN (aOf A T) m x.1) (c' - x.1)] rfl rfl (one_srcI _ _ _) (by intro u hu; simp at hu; rw [hu]; rfl) (by decide) (by unfold maxLen; omega) (by omega) (by have := bc.size; simp; omega) _ rfl ?_
      intro g6 d6 v6 hown hgrow hat hlt6
      have hob := own_baseA hrw
      have bx := (BX.out.keep bd).grownO hgrow (fun ee => by have := (hob _ ee).1; omega)
      have y0 := bx.c0
      have yf := bx.f0
      have RR := hidden (arg_round (nv := .slice (some ⟨g6, 0, none⟩) (k + 1) d6) bd hsW HB.out (by omega) hgrow hob hown y0 yf CK.out.1 CK.out.2)
      have ck6 := (show v6.cell? ⟨w.heap.size, 0, none⟩ = some (.slice (some ⟨b, off, none⟩) n c) ∧ v6.cell? ⟨w.heap.size + 1, 0, none⟩ = some (.slice (some ⟨b', off', none⟩) m c') from arg_cells bd hsW (by omega) hgrow hob CK.out.1 CK.out.2)
      refine hK.out _ _ ck6 (fun hHeld => ?_)
      clear hK K hown hgrow hat hlt6 hob hrw bx
      try simp only [Act.put, List.setIfInBounds_toArray, List.set_cons_zero, List.set_cons_succ]
      refine wpAnyH_ready (rs := [7]) (by kernel_rfl) (by simp) ?_
      refine AllReadyH.cons (o := { dst := none, op := Op.store 27 (Operand.tmp 5) (Operand.tmp 17), type := 0, pos := "l06_bind.go:210", after := #[{ on := 6, ground := Ground.data }, { on := 6, ground := Ground.chain }, { on := 0, ground := Ground.phase }, { on := 1, ground := Ground.phase }, { on := 2, ground := Ground.phase }, { on := 3, ground := Ground.phase }, { on := 4, ground := Ground.phase }, { on := 5, ground := Ground.phase }, { on := 6, ground := Ground.phase }], guard := none }) rfl (fun K hK => ?_) AllReadyH.nil
      go_simp
      refine hK.out _ _ ⟨RR.out.2.2.1.2.2.2.1, RR.out.2.2.1.2.2.2.2.1⟩ (fun hHeld => ?_)
      clear hK K
      try simp only [Act.put, List.setIfInBounds_toArray, List.set_cons_zero, List.set_cons_succ]
      refine wpAnyH_done (by kernel_rfl) ?_ _
      clear hHeld
      gi_wp2
      exact ⟨RR.out.1 _, RR.out.2.1, by dsimp only; rw [List.length_append, List.map_append, ← HKL.out]; exact ⟨⟨_, RR.out.2.2.1⟩, RR.out.2.2.2⟩⟩
    · go_simp
      go_at_call 105; with_reducible refine IC.out.mono ?_; rintro e v1 ⟨rfl, bc0⟩
      try go_wp2_with fail
      have bc : Below W.heap.size W v1 := (Below.refl W.heap.size W).drew.trans bc0
      refine hK.out _ _ (CKB.out _ bc) (fun hHeld => ?_)
      clear hK K
      try simp only [Act.put, List.setIfInBounds_toArray, List.set_cons_zero, List.set_cons_succ]
      refine wpAnyH_ready (rs := [0, 5]) (by kernel_rfl) (by simp) ?_
      refine AllReadyH.cons (o := { dst := some 11, op := Op.load 27 (Operand.tmp 5), type := 27, pos := "l06_bind.go:210", after := #[], guard := none }) rfl (fun K hK => ?_) (AllReadyH.cons (o := { dst := some 16, op := Op.buildSlice 27 1 #[(0, Operand.tmp 15)], type := 27, pos := "l06_bind.go:210", after := #[{ on := 4, ground := Ground.data }], guard := none }) rfl (fun K hK => ?_) AllReadyH.nil)
      · have xl := (BX.out.keep bc).c0
        go_simp
        refine hK.out _ _ (CKB.out _ bc) (fun hHeld => ?_)
        clear hK K xl
        try simp only [Act.put, List.setIfInBounds_toArray, List.set_cons_zero, List.set_cons_succ]
        refine wpAnyH_ready (rs := [5]) (by kernel_rfl) (by simp) ?_
        refine AllReadyH.cons (o := { dst := some 16, op := Op.buildSlice 27 1 #[(0, Operand.tmp 15)], type := 27, pos := "l06_bind.go:210", after := #[{ on := 4, ground := Ground.data }], guard := none }) rfl (fun K hK => ?_) AllReadyH.nil
        go_simp
        have bd : Below W.heap.size W (v1.alloc (.cells #[.slice (some ⟨b', off' + x.1, none⟩) (manyN (aOf A T) m x.1) (c' - x.1)] 25)) := keepB bc (alloc_below _ _)
        refine hK.out _ _ (CKB.out _ bd) (fun hHeld => ?_)
        clear hK K
        try simp only [Act.put, List.setIfInBounds_toArray, List.set_cons_zero, List.set_cons_succ]
        refine wpAnyH_ready (rs := [6]) (by kernel_rfl) (by simp) ?_
        refine AllReadyH.cons (o := { dst := some 17, op := Op.call { callee := Callee.builtin Builtin.append, args := #[Operand.tmp 11, Operand.tmp 16], argTypes := #[27, 27] }, type := 27, pos := "l06_bind.go:210", after := #[{ on := 0, ground := Ground.data }, { on := 5, ground := Ground.data }, { on := 4, ground := Ground.chain }], guard := none }) rfl (fun K hK => ?_) AllReadyH.nil
        have hrw := ownsRow_upon HROW.out bd
        refine step_append_lies _ rfl _ _ 27 rfl (w.heap.size + 1 + 1 + 1 + 1 + 1 + 1) 25 _ (.slice none 0 0) 1 24 Try.underlying27 rfl rfl rfl rfl rfl (by decide) v k _ rfl hrw ⟨v1.heap.size, 0, none⟩ 1 1 [.slice (some ⟨b', off' + x.1, none⟩) (manyN (aOf A T) m x.1) (c' - x.1)] rfl rfl (one_srcI _ _ _) (by intro u hu; simp at hu; rw [hu]; rfl) (by decide) (by unfold maxLen; omega) (by omega) (by have := bc.size; simp; omega) _ rfl ?_
        intro g6 d6 v6 hown hgrow hat hlt6
        have hob := own_baseA hrw
        have bx := (BX.out.keep bd).grownO hgrow (fun ee => by have := (hob _ ee).1; omega)
        have y0 := bx.c0
        have yf := bx.f0
        have RR := hidden (arg_round (nv := .slice (some ⟨g6, 0, none⟩) (k + 1) d6) bd hsW HB.out (by omega) hgrow hob hown y0 yf CK.out.1 CK.out.2)
        have ck6 := (show v6.cell? ⟨w.heap.size, 0, none⟩ = some (.slice (some ⟨b, off, none⟩) n c) ∧ v6.cell? ⟨w.heap.size + 1, 0, none⟩ = some (.slice (some ⟨b', off', none⟩) m c') from arg_cells bd hsW (by omega) hgrow hob CK.out.1 CK.out.2)
        refine hK.out _ _ ck6 (fun hHeld => ?_)
        clear hK K hown hgrow hat hlt6 hob hrw bx
        try simp only [Act.put, List.setIfInBounds_toArray, List.set_cons_zero, List.set_cons_succ]
        refine wpAnyH_ready (rs := [7]) (by kernel_rfl) (by simp) ?_
        refine AllReadyH.cons (o := { dst := none, op := Op.store 27 (Operand.tmp 5) (Operand.tmp 17), type := 0, pos := "l06_bind.go:210", after := #[{ on := 6, ground := Ground.data }, { on := 6, ground := Ground.chain }, { on := 0, ground := Ground.phase }, { on := 1, ground := Ground.phase }, { on := 2, ground := Ground.phase }, { on := 3, ground := Ground.phase }, { on := 4, ground := Ground.phase }, { on := 5, ground := Ground.phase }, { on := 6, ground := Ground.phase }], guard := none }) rfl (fun K hK => ?_) AllReadyH.nil
        go_simp
        refine hK.out _ _ ⟨RR.out.2.2.1.2.2.2.1, RR.out.2.2.1.2.2.2.2.1⟩ (fun hHeld => ?_)
        clear hK K
        try simp only [Act.put, List.setIfInBounds_toArray, List.set_cons_zero, List.set_cons_succ]
        refine wpAnyH_done (by kernel_rfl) ?_ _
        clear hHeld
        gi_wp2
        exact ⟨RR.out.1 _, RR.out.2.1, by dsimp only; rw [List.length_append, List.map_append, ← HKL.out]; exact ⟨⟨_, RR.out.2.2.1⟩, RR.out.2.2.2⟩⟩
      · go_simp
        have bd : Below W.heap.size W (v1.alloc (.cells #[.slice (some ⟨b', off' + x.1, none⟩) (manyN (aOf A T) m x.1) (c' - x.1)] 25)) := keepB bc (alloc_below _ _)
        refine hK.out _ _ (CKB.out _ bd) (fun hHeld => ?_)
        clear hK K
        try simp only [Act.put, List.setIfInBounds_toArray, List.set_cons_zero, List.set_cons_succ]
        refine wpAnyH_ready (rs := [0]) (by kernel_rfl) (by simp) ?_
        refine AllReadyH.cons (o := { dst := some 11, op := Op.load 27 (Operand.tmp 5), type := 27, pos := "l06_bind.go:210", after := #[], guard := none }) rfl (fun K hK => ?_) AllReadyH.nil
        have xl := (BX.out.keep bd).c0
        go_simp
        refine hK.out _ _ (CKB.out _ bd) (fun hHeld => ?_)
        clear hK K xl
        try simp only [Act.put, List.setIfInBounds_toArray, List.set_cons_zero, List.set_cons_succ]
        refine wpAnyH_ready (rs := [6]) (by kernel_rfl) (by simp) ?_
        refine AllReadyH.cons (o := { dst := some 17, op := Op.call { callee := Callee.builtin Builtin.append, args := #[Operand.tmp 11, Operand.tmp 16], argTypes := #[27, 27] }, type := 27, pos := "l06_bind.go:210", after := #[{ on := 0, ground := Ground.data }, { on := 5, ground := Ground.data }, { on := 4, ground := Ground.chain }], guard := none }) rfl (fun K hK => ?_) AllReadyH.nil
        have hrw := ownsRow_upon HROW.out bd
        refine step_append_lies _ rfl _ _ 27 rfl (w.heap.size + 1 + 1 + 1 + 1 + 1 + 1) 25 _ (.slice none 0 0) 1 24 Try.underlying27 rfl rfl rfl rfl rfl (by decide) v k _ rfl hrw ⟨v1.heap.size, 0, none⟩ 1 1 [.slice (some ⟨b', off' + x.1, none⟩) (manyN (aOf A T) m x.1) (c' - x.1)] rfl rfl (one_srcI _ _ _) (by intro u hu; simp at hu; rw [hu]; rfl) (by decide) (by unfold maxLen; omega) (by omega) (by have := bc.size; simp; omega) _ rfl ?_
        intro g6 d6 v6 hown hgrow hat hlt6
        have hob := own_baseA hrw
        have bx := (BX.out.keep bd).grownO hgrow (fun ee => by have := (hob _ ee).1; omega)
        have y0 := bx.c0
        have yf := bx.f0
        have RR := hidden (arg_round (nv := .slice (some ⟨g6, 0, none⟩) (k + 1) d6) bd hsW HB.out (by omega) hgrow hob hown y0 yf CK.out.1 CK.out.2)
        have ck6 := (show v6.cell? ⟨w.heap.size, 0, none⟩ = some (.slice (some ⟨b, off, none⟩) n c) ∧ v6.cell? ⟨w.heap.size + 1, 0, none⟩ = some (.slice (some ⟨b', off', none⟩) m c') from arg_cells bd hsW (by omega) hgrow hob CK.out.1 CK.out.2)
        refine hK.out _ _ ck6 (fun hHeld => ?_)
        clear hK K hown hgrow hat hlt6 hob hrw bx
        try simp only [Act.put, List.setIfInBounds_toArray, List.set_cons_zero, List.set_cons_succ]
        refine wpAnyH_ready (rs := [7]) (by kernel_rfl) (by simp) ?_
        refine AllReadyH.cons (o := { dst := none, op := Op.store 27 (Operand.tmp 5) (Operand.tmp 17), type := 0, pos := "l06_bind.go:210", after := #[{ on := 6, ground := Ground.data }, { on := 6, ground := Ground.chain }, { on := 0, ground := Ground.phase }, { on := 1, ground := Ground.phase }, { on := 2, ground := Ground.phase }, { on := 3, ground := Ground.phase }, { on := 4, ground := Ground.phase }, { on := 5, ground := Ground.phase }, { on := 6, ground := Ground.phase }], guard := none }) rfl (fun K hK => ?_) AllReadyH.nil
        go_simp
        refine hK.out _ _ ⟨RR.out.2.2.1.2.2.2.1, RR.out.2.2.1.2.2.2.2.1⟩ (fun hHeld => ?_)
        clear hK K
        try simp only [Act.put, List.setIfInBounds_toArray, List.set_cons_zero, List.set_cons_succ]
        refine wpAnyH_done (by kernel_rfl) ?_ _
        clear hHeld
        gi_wp2
        exact ⟨RR.out.1 _, RR.out.2.1, by dsimp only; rw [List.length_append, List.map_append, ← HKL.out]; exact ⟨⟨_, RR.out.2.2.1⟩, RR.out.2.2.2⟩⟩
  case done =>
    rintro D ys W hD hys ⟨⟨v, hcx, hfx, hrow, _, _, hsW⟩, hB⟩ hK
    have hyl : ys.length = aOf A T 0 := by
      have := congrArg List.length hys
      rwa [List.length_map, upto_length] at this
    have HYS := hidden hys
    rw [hyl] at hrow
    have HROW := hidden hrow
    have HYL := hidden hyl
    have HB := hidden hB
    have HKD := hidden hK
    clear hrow hys hB hyl
    obtain ⟨en, hen, _, _⟩ := skip_inner HG.out.whole hp
    have HEN := hidden (show skip (aOf A T) m 1 (aOf A T 0) = some en by have h1 := hen; rw [skip_one _ hp] at h1; exact h1)
    clear hen
    have BF := hidden (HB.out.trans (belowK_b (w := w) (Nat.le_refl _) W D _ (.deferred none) (by simp at hD; omega) HKD.out rfl rfl))
    have HRF := hidden (ownsRow_staysA HROW.out (grownBy_putObj' _ D (.deferred none)) (fun r e => by cases e; exact ⟨_, HKD.out, rfl⟩))
    gi_wp2
    refine ⟨by simp, .inl ⟨_, _, rfl, run_takeDeferred HKD.out, ?_⟩⟩
    refine ⟨_, results_tmp rfl _ _ _, ⟨v, rfl, ?_⟩, BF.out⟩
    rcases HRF.out.2 with ⟨hv, h0⟩ | ⟨g, cap, cur, hv, hbg, hg0, _⟩
    · exact Or.inl ⟨by omega, hv⟩
    · subst hv
      have hlt := HRF.out.lt g rfl
      refine Or.inr ⟨g, cap, rfl, by have := HB.out.size; omega, hlt.2, fun i hi => ?_⟩
      obtain ⟨q, r, e1, e2, e3⟩ := skip_arg HEN.out hi
      have hmy := manyN_some e2
      have hyi : ∃ x, ys[i]? = some x ∧ x.1 = q := by
        have h1 : i < ys.length := by rw [HYL.out]; exact hi
        refine ⟨ys[i], List.getElem?_eq_getElem h1, ?_⟩
        have h2 := congrArg (fun l => l[i]?) HYS.out
        simp only [List.getElem?_map, List.getElem?_eq_getElem h1, Option.map_some] at h2
        have h3 : (upto (argP (aOf A T) m 0) (aOf A T 0))[i]? = some (argP (aOf A T) m 0 i) := by simp [upto, hi]
        rw [h3] at h2
        rw [Option.some.inj h2]
        exact argP_some e1
      obtain ⟨x, hx1, hx2⟩ := hyi
      have hc := HRF.out.cellAt (g := g) i (by omega)
      refine hc.trans ?_
      rw [List.getElem?_map, hx1, agP_some e1, agP_some e3]
      simp only [Option.map_some, hx2, hmy]
  case stop =>
    rintro D c pre W _ _ h _
    exact h.elim

end Go.Proofs.Ytenlogljpgdbpaa

/- Contract: argumentPairs: the arguments of two terms side by side, as the program pairs them. -/
namespace Go.Proofs.Ytenlogljpgdbpaa
open Go.RowKit

/-- A list of pairs that grows, of views of memory that was there: the first k of P. -/
structure GrQ (t : TypeId) (w : World) (B : Nat) (K : Nat → Prop) (up : Nat) (v : Value) (k : Nat) (P : Nat → List Int × List Int) : Prop where
  top : B ≤ w.heap.size
  ups : up ≤ B
  row : ∃ xs : List Value, w.ownsRow B t 2 v k xs ∧ ∀ i, i < k → ∃ g1 o1 c1 g2 o2 c2, xs[i * 2]? = some (.slice (some ⟨g1, o1, none⟩) (P i).1.length c1) ∧ xs[i * 2 + 1]? = some (.slice (some ⟨g2, o2, none⟩) (P i).2.length c2) ∧ Ints w g1 o1 (P i).1.length (fnL (P i).1) ∧ Ints w g2 o2 (P i).2.length (fnL (P i).2) ∧ (P i).1.length ≤ c1 ∧ (P i).2.length ≤ c2 ∧ K g1 ∧ K g2 ∧ g1 < up ∧ g2 < up
  slc : (k = 0 ∧ v = .slice none 0 0) ∨ ∃ g c, v = .slice (some ⟨g, 0, none⟩) k c ∧ k ≤ c

theorem ints_below {w w' : World} {B b off n : Nat} {L : Nat → Int} (h : Ints w b off n L) (hb : Below B w w') (hB : b < B) : Ints w' b off n L :=
  ⟨fun h0 => Nat.lt_of_lt_of_le (h.blk h0) hb.size, fun i hi => by rw [hb.cell (p := ⟨b, off + i, none⟩) hB]; exact h.cell i hi⟩

theorem GrQ.keep {t : TypeId} {w w' : World} {B : Nat} {K : Nat → Prop} {up : Nat} {v : Value} {k : Nat} {P : Nat → List Int × List Int} (h : GrQ t w B K up v k P) (hb : Below w.heap.size w w') : GrQ t w' B K up v k P := by
  obtain ⟨ht, hu, ⟨xs, ho, hx⟩, hs⟩ := h
  refine ⟨Nat.le_trans ht hb.size, hu, ⟨xs, ownsRow_up2 ho hb, fun i hi => ?_⟩, hs⟩
  obtain ⟨g1, o1, c1, g2, o2, c2, a1, a2, a3, a4, a5⟩ := hx i hi
  exact ⟨g1, o1, c1, g2, o2, c2, a1, a2, a3.keep hb, a4.keep hb, a5⟩

theorem GrQ.nil (t : TypeId) (w : World) (B : Nat) (K : Nat → Prop) (up : Nat) (P : Nat → List Int × List Int) (hB : B ≤ w.heap.size) (hu : up ≤ B) : GrQ t w B K up (.slice none 0 0) 0 P :=
  ⟨hB, hu, ⟨[], World.ownsRow_nil _ _ _ _, fun e he => by omega⟩, Or.inl ⟨rfl, rfl⟩⟩

theorem GrQ.base {t : TypeId} {w : World} {B B' : Nat} {K : Nat → Prop} {up : Nat} {v : Value} {k : Nat} {P : Nat → List Int × List Int} (h : GrQ t w B K up v k P) (hB : B' ≤ B) (hu : up ≤ B') : GrQ t w B' K up v k P := by
  obtain ⟨ht, _, ⟨xs, ho, hx⟩, hs⟩ := h
  refine ⟨by omega, hu, ⟨xs, ⟨ho.1, ho.2.imp id ?_⟩, hx⟩, hs⟩
  rintro ⟨g', cap, cur, h1, h2, h3, h4⟩
  exact ⟨g', cap, cur, h1, by omega, h3, h4⟩

/-- A cell between is written. -/
theorem GrQ.far {t : TypeId} {w : World} {B : Nat} {K : Nat → Prop} {up : Nat} {v : Value} {k : Nat} {P : Nat → List Int × List Int} (h : GrQ t w B K up v k P) (a : Addr) (u : Value) (h1 : up ≤ a.block) (h2 : a.block < B) : GrQ t (w.setCell a u) B K up v k P := by
  obtain ⟨ht, hu, ⟨xs, ho, hx⟩, hs⟩ := h
  refine ⟨by simpa using ht, hu, ⟨xs, ⟨ho.1, ho.2.imp id ?_⟩, fun i hi => ?_⟩, hs⟩
  · rintro ⟨g', cap, cur, e1, e2, e3, e4⟩
    exact ⟨g', cap, cur, e1, e2, by rw [Below.heap_setCell w a u g' (by omega)]; exact e3, e4⟩
  · obtain ⟨g1, o1, c1, g2, o2, c2, a1, a2, a3, a4, a5, a6, a7, a8, a9, a10⟩ := hx i hi
    exact ⟨g1, o1, c1, g2, o2, c2, a1, a2, intsFar a3 _ _ (by omega), intsFar a4 _ _ (by omega), a5, a6, a7, a8, a9, a10⟩

/-- One pair more. -/
theorem GrQ.put {t : TypeId} {w w' : World} {B : Nat} {K : Nat → Prop} {up : Nat} {v : Value} {k : Nat} {P : Nat → List Int × List Int} (ht : B ≤ w.heap.size) (hu : up ≤ B) (hg : w.grownBy w' v.ownBlock) {g cap g1 o1 c1 g2 o2 c2 : Nat} {xs : List Value}
    (hx1 : w.ownsRow B t 2 v k xs) (hx2 : ∀ i, i < k → ∃ g1 o1 c1 g2 o2 c2, xs[i * 2]? = some (.slice (some ⟨g1, o1, none⟩) (P i).1.length c1) ∧ xs[i * 2 + 1]? = some (.slice (some ⟨g2, o2, none⟩) (P i).2.length c2) ∧ Ints w g1 o1 (P i).1.length (fnL (P i).1) ∧ Ints w g2 o2 (P i).2.length (fnL (P i).2) ∧ (P i).1.length ≤ c1 ∧ (P i).2.length ≤ c2 ∧ K g1 ∧ K g2 ∧ g1 < up ∧ g2 < up)
    (k1 : Ints w g1 o1 (P k).1.length (fnL (P k).1)) (k2 : Ints w g2 o2 (P k).2.length (fnL (P k).2)) (k3 : (P k).1.length ≤ c1 ∧ (P k).2.length ≤ c2) (k4 : K g1 ∧ K g2 ∧ g1 < up ∧ g2 < up)
    (ho : w'.ownsRow B t 2 (.slice (some ⟨g, 0, none⟩) (k + 1) cap) (k + 1) (xs ++ [.slice (some ⟨g1, o1, none⟩) (P k).1.length c1, .slice (some ⟨g2, o2, none⟩) (P k).2.length c2])) :
    GrQ t w' B K up (.slice (some ⟨g, 0, none⟩) (k + 1) cap) (k + 1) P := by
  have hlen : xs.length = k * 2 := hx1.1
  have hBw : Below B w w' := ⟨hg.os, hg.tape, hg.output, hg.size, fun q hq => hg.block q (by omega) (fun e => by have := (hx1.lt q e.symm).1; omega)⟩
  have hcap : k + 1 ≤ cap := by
    rcases ho.2 with ⟨h0, h1⟩ | ⟨g', cap', cur, hv, _, hgg, hc', _⟩
    · omega
    · injection hv with h1 h2 h3; omega
  refine ⟨Nat.le_trans ht hg.size, hu, ⟨_, ho, fun i hi => ?_⟩, Or.inr ⟨_, _, rfl, hcap⟩⟩
  by_cases e : i = k
  · subst e
    exact ⟨g1, o1, c1, g2, o2, c2, by rw [List.getElem?_append_right (by omega)]; simp [hlen], by rw [List.getElem?_append_right (by omega)]; simp [hlen], ints_below k1 hBw (by omega), ints_below k2 hBw (by omega), k3.1, k3.2, k4⟩
  · obtain ⟨g1, o1, c1, g2, o2, c2, a1, a2, a3, a4, a5, a6, a7, a8, a9, a10⟩ := hx2 i (by omega)
    exact ⟨g1, o1, c1, g2, o2, c2, by rw [List.getElem?_append_left (by omega)]; exact a1, by rw [List.getElem?_append_left (by omega)]; exact a2, ints_below a3 hBw (by omega), ints_below a4 hBw (by omega), a5, a6, a7, a8, a9, a10⟩

theorem map_getD {k i : Nat} {P : Nat → List Int × List Int} (hi : i < k) : ((List.range k).map P).getD i ([], []) = P i := by
  rw [List.getD_eq_getElem?_getD, List.getElem?_map, List.getElem?_range hi]; rfl

/-- What has grown, as it is read. -/
theorem GrQ.view {t : TypeId} {w : World} {B : Nat} {K : Nat → Prop} {up : Nat} {v : Value} {k : Nat} {P : Nat → List Int × List Int} (h : GrQ t w B K up v k P) (hl : ∀ g, B ≤ g → K g) : PairV K w v ((List.range k).map P) := by
  obtain ⟨ht, hu, ⟨xs, ho, hx⟩, hs⟩ := h
  rcases hs with ⟨h0, rfl⟩ | ⟨g, c, rfl, hc⟩
  · subst h0
    exact ⟨none, 0, rfl, Nat.le_refl _, fun hn => absurd rfl hn⟩
  · refine ⟨_, c, by simp, by simpa using hc, fun _ => ⟨g, 0, rfl, (ho.lt g rfl).2, hl _ (ho.lt g rfl).1, fun i hi => ?_⟩⟩
    have hi' : i < k := by simpa using hi
    obtain ⟨g1, o1, c1, g2, o2, c2, a1, a2, a3, a4, a5, a6, a7, a8, a9, a10⟩ := hx i hi'
    have hlen : xs.length = k * 2 := ho.1
    rw [map_getD hi']
    exact ⟨g1, o1, c1, g2, o2, c2, by rw [Nat.zero_add, ho.cellAt _ (by omega)]; exact a1, by rw [Nat.zero_add, ho.cellAt _ (by omega)]; exact a2, a3, a4, a5, a6, a7, a8⟩

/-- What is appended, as it is read. -/
theorem append_viewQ {K : Nat → Prop} {up : Nat} {t : TypeId} {w w' : World} {B g cap b off k : Nat} {P : Nat → List Int × List Int} {xs : List Value} {s2 : List (List Int × List Int)}
    (hx : ∀ i, i < k → ∃ g1 o1 c1 g2 o2 c2, xs[i * 2]? = some (.slice (some ⟨g1, o1, none⟩) (P i).1.length c1) ∧ xs[i * 2 + 1]? = some (.slice (some ⟨g2, o2, none⟩) (P i).2.length c2) ∧ Ints w g1 o1 (P i).1.length (fnL (P i).1) ∧ Ints w g2 o2 (P i).2.length (fnL (P i).2) ∧ (P i).1.length ≤ c1 ∧ (P i).2.length ≤ c2 ∧ K g1 ∧ K g2 ∧ g1 < up ∧ g2 < up) (hlen : xs.length = k * 2)
    (hbB : Below B w w')
    (h2 : ∀ i, i < s2.length → PairAt (fun g => K g ∧ g < B) w b (off + i * 2) (s2.getD i ([], [])))
    (ho : w'.ownsRow B t 2 (.slice (some ⟨g, 0, none⟩) (k + s2.length) cap) (k + s2.length) (xs ++ cellsL w b off (s2.length * 2))) (hn : 0 < k + s2.length) (hlo : ∀ g, B ≤ g → K g) (hu : up ≤ B) :
    PairV K w' (.slice (some ⟨g, 0, none⟩) (k + s2.length) cap) ((List.range k).map P ++ s2) := by
  have hcap : k + s2.length ≤ cap := by
    rcases ho.2 with ⟨h0, h1⟩ | ⟨g', cap', cur, hv, _, hgg, hc', _⟩
    · omega
    · injection hv with h1 h2 h3; omega
  have hll : ((List.range k).map P ++ s2).length = k + s2.length := by simp
  refine ⟨_, cap, by rw [hll], by rw [hll]; exact hcap, fun _ => ⟨g, 0, rfl, (ho.lt g rfl).2, hlo _ (ho.lt g rfl).1, fun i hi => ?_⟩⟩
  rw [hll] at hi
  by_cases h1 : i < k
  · have hgd : ((List.range k).map P ++ s2).getD i ([], []) = P i := by
      rw [List.getD_eq_getElem?_getD, List.getElem?_append_left (by simpa using h1), ← List.getD_eq_getElem?_getD, map_getD h1]
    rw [hgd]
    obtain ⟨g1, o1, c1, g2, o2, c2, a1, a2, a3, a4, a5, a6, a7, a8, a9, a10⟩ := hx i h1
    refine ⟨g1, o1, c1, g2, o2, c2, ?_, ?_, ints_below a3 hbB (by omega), ints_below a4 hbB (by omega), a5, a6, a7, a8⟩
    · rw [Nat.zero_add, ho.cellAt _ (by omega), List.getElem?_append_left (by omega)]; exact a1
    · rw [Nat.zero_add, ho.cellAt _ (by omega), List.getElem?_append_left (by omega)]; exact a2
  · obtain ⟨j, rfl⟩ : ∃ j, i = k + j := ⟨i - k, by omega⟩
    have hj : j < s2.length := by omega
    have hgd : ((List.range k).map P ++ s2).getD (k + j) ([], []) = s2.getD j ([], []) := by
      rw [List.getD_eq_getElem?_getD, List.getElem?_append_right (by simp), List.getD_eq_getElem?_getD]
      congr 2; simp
    rw [hgd]
    obtain ⟨g1, o1, c1, g2, o2, c2, k1, k2, k3, k4, k5, k6, k7, k8⟩ := h2 j hj
    refine ⟨g1, o1, c1, g2, o2, c2, ?_, ?_, ints_below k3 hbB k7.2, ints_below k4 hbB k8.2, k5, k6, k7.1, k8.1⟩
    · rw [Nat.zero_add, ho.cellAt _ (by omega), List.getElem?_append_right (by omega), cellsL_at (by omega)]
      rw [show off + ((k + j) * 2 - xs.length) = off + j * 2 by omega, k1]; rfl
    · rw [Nat.zero_add, ho.cellAt _ (by omega), List.getElem?_append_right (by omega), cellsL_at (by omega)]
      rw [show off + ((k + j) * 2 + 1 - xs.length) = off + j * 2 + 1 by omega, k2]; rfl

/-- A cell that no pair lies in is written. -/
theorem GrQ.setK {t : TypeId} {w : World} {B : Nat} {K : Nat → Prop} {up : Nat} {v : Value} {k : Nat} {P : Nat → List Int × List Int} (h : GrQ t w B K up v k P) (a : Addr) (u : Value) (h1 : ¬ K a.block) (h2 : a.block < B) : GrQ t (w.setCell a u) B K up v k P := by
  obtain ⟨ht, hu, ⟨xs, ho, hx⟩, hs⟩ := h
  refine ⟨by simpa using ht, hu, ⟨xs, ⟨ho.1, ho.2.imp id ?_⟩, fun i hi => ?_⟩, hs⟩
  · rintro ⟨g', cap, cur, e1, e2, e3, e4⟩
    exact ⟨g', cap, cur, e1, e2, by rw [Below.heap_setCell w a u g' (by omega)]; exact e3, e4⟩
  · obtain ⟨g1, o1, c1, g2, o2, c2, a1, a2, a3, a4, a5, a6, a7, a8, a9, a10⟩ := hx i hi
    exact ⟨g1, o1, c1, g2, o2, c2, a1, a2, intsFar a3 _ _ (fun e => h1 (by rw [e]; exact a7)), intsFar a4 _ _ (fun e => h1 (by rw [e]; exact a8)), a5, a6, a7, a8, a9, a10⟩

/-- Pairs of right terms lie in memory that is there. -/
theorem PairV.there {K : Nat → Prop} {n : Nat} {A : Nat → Int} {w : World} {v : Value} {s : List (List Int × List Int)} (h : PairV K w v s) (hs : ∀ q, q ∈ s → TrmL n A q.1 ∧ TrmL n A q.2) : PairV (fun g => K g ∧ g < w.heap.size) w v s := by
  obtain ⟨p, c, h1, h2, h3⟩ := h
  refine ⟨p, c, h1, h2, fun hne => ?_⟩
  obtain ⟨b, off, e, hk, hlo, hi⟩ := h3 hne
  refine ⟨b, off, e, hk, ⟨hlo, hk⟩, fun i hi' => ?_⟩
  obtain ⟨g1, o1, c1, g2, o2, c2, k1, k2, k3, k4, k5, k6, k7, k8⟩ := hi i hi'
  have hm : s.getD i ([], []) ∈ s := by rw [List.getD_eq_getElem?_getD, List.getElem?_eq_getElem hi']; exact List.getElem_mem _
  exact ⟨g1, o1, c1, g2, o2, c2, k1, k2, k3, k4, k5, k6, ⟨k7, k3.blk (hs _ hm).1.pos⟩, ⟨k8, k4.blk (hs _ hm).2.pos⟩⟩

/-- An argument, as it lies in its term. -/
theorem argL_ints {n : Nat} {A : Nat → Int} {w : World} {b off i : Nat} {x : List Int} (hg : TrmL n A x) (h : Ints w b off x.length (fnL x)) (hi : i < aOf A (fnL x) 0) : Ints w b (off + agP (aOf A (fnL x)) x.length i) (argL A x i).length (fnL (argL A x i)) := by
  obtain ⟨q, r, _, _, _, h4, h5, h6, h7, h8⟩ := arg_place hg hi
  have hl := argL_len A x i
  rw [h7, h8] at hl
  rw [h7, hl]
  refine ⟨fun _ => h.blk (by omega), fun j hj => ?_⟩
  have := h.cell (q + j) (by omega)
  rw [← Nat.add_assoc] at this
  rw [this]
  have e : fnL (argL A x i) j = fnL x (q + j) := by
    unfold argL
    rw [fnL_upto _ _ _ (by rw [h7, h8]; exact hj), h7]
  rw [e]

set_option maxRecDepth 20000 in
set_option maxHeartbeats 3200000 in
theorem argPairs_any (b off n c g5 o5 d5 g7 o7 d7 up : Nat) (K : Nat → Prop) (N : Nat → ByteArray) (A : Nat → Int) (x y : List Int) (w : World) (h : Syms w b off n N A) (hx : TrmL n A x) (hy : TrmL n A y) (ix : Ints w g5 o5 x.length (fnL x)) (iy : Ints w g7 o7 y.length (fnL y)) (kx : x.length ≤ d5) (ky : y.length ≤ d7) (he : fnL x 0 = fnL y 0) (lx : K g5) (ly : K g7) (ux : g5 < up) (uy : g7 < up) (hup : up ≤ w.heap.size) :
    Calls Try.prog 79 #[.agg #[.slice (some ⟨b, off, none⟩) n c], .slice (some ⟨g5, o5, none⟩) x.length d5, .slice (some ⟨g7, o7, none⟩) y.length d7] w fun e w' => (∃ v, e = .returned v ∧ GrQ 61 w' w.heap.size K up v (aOf A (fnL x) 0) (fun i => (argL A x i, argL A y i))) ∧ Below w.heap.size w w' := by
  have hae : aOf A (fnL y) 0 = aOf A (fnL x) 0 := by unfold aOf; rw [he]
  have har2 := hx.nods.aOf_le hx.pos
  have D := hidden (One.new w (.slice (some ⟨b, off, none⟩) n c) 35)
  have B := hidden (alloc_below w (.cells #[.slice (some ⟨b, off, none⟩) n c] 35))
  have Q := hidden (h.keep B.out)
  have IX := hidden (ix.keep B.out)
  have IY := hidden (iy.keep B.out)
  have LX := hidden (show g5 < w.heap.size from ix.blk hx.pos)
  have LY := hidden (show g7 < w.heap.size from iy.blk hy.pos)
  have HX := hidden hx
  have HY := hidden hy
  have HXT := hidden (show Trm n A x.length (fnL x) from hx)
  have HYT := hidden (show Trm n A y.length (fnL y) from hy)
  clear h hx hy ix iy he
  obtain ⟨ar, har⟩ : ∃ ar, ar = aOf A (fnL x) 0 := ⟨_, rfl⟩
  have HAR := hidden har
  have HAY := hidden (hae.trans har.symm)
  rw [← har] at har2 ⊢
  clear har hae
  have d0 := D.out.c0
  go_enter Try.func79, Try.ntmps79
  go_wp2_with fail
  with_reducible refine (argumentsOf_any _ _ _ _ _ _ _ _ N A (fnL y) HYT.out ky _ Q.out IY.out).mono ?_
  rintro e w1 ⟨⟨v7, rfl, hr⟩, hb⟩
  rw [HAY.out] at hr
  have HR := hidden hr
  replace D := hidden (D.out.keep hb)
  replace B := hidden (keepB B.out hb)
  replace Q := hidden (Q.out.keep hb)
  replace IX := hidden (IX.out.keep hb)
  replace IY := hidden (IY.out.keep hb)
  clear hb d0 hr
  have d0 := D.out.c0
  go_wp2_with fail
  with_reducible refine (argumentsOf_any _ _ _ _ _ _ _ _ N A (fnL x) HXT.out kx _ Q.out IX.out).mono ?_
  rintro e w2 ⟨⟨v16, rfl, hl⟩, hb⟩
  rw [← HAR.out] at hl
  have HL := hidden hl
  have HB2 := hidden hb
  replace B := hidden (keepB B.out hb)
  replace Q := hidden (Q.out.keep hb)
  replace IX := hidden (IX.out.keep hb)
  replace IY := hidden (IY.out.keep hb)
  clear hb d0 D hl
  by_cases h0 : ar = 0
  · subst h0
    rcases HL.out with ⟨_, rfl⟩ | ⟨g, d, rfl, _⟩
    · go_wp2
      refine wp_loop_rounds 1 ?_
      rw [rounds_succ]
      go_wp2
      go_ret
      exact ⟨⟨_, rfl, GrQ.nil _ _ _ _ _ _ B.out.size hup⟩, B.out⟩
    · go_wp2
      refine wp_loop_rounds 1 ?_
      rw [rounds_succ]
      go_wp2
      go_ret
      exact ⟨⟨_, rfl, GrQ.nil _ _ _ _ _ _ B.out.size hup⟩, B.out⟩
  · obtain ⟨gl, dl, rfl, hgl, hgl2, hcl⟩ := HL.out.resolve_left (fun h => h0 h.1)
    obtain ⟨gr, dr, rfl, hgr, hgr2, hcr⟩ := HR.out.resolve_left (fun h => h0 h.1)
    have HCL := hidden hcl
    have HCR := hidden (fun i hi => (HB2.out.cell (p := ⟨gr, i, none⟩) hgr2).trans (hcr i hi))
    have HGB := hidden (And.intro hgl2 (Nat.lt_of_lt_of_le hgr2 HB2.out.size))
    have GN := hidden (GrQ.nil 61 w2 w2.heap.size K up (fun i => (argL A x i, argL A y i)) (Nat.le_refl _) (Nat.le_trans hup B.out.size))
    clear hcl hcr hgl hgl2 hgr hgr2 h0 HL HR
    go_wp2
    go_loopw [8, 18] (fun p i wr => ∃ (k : Nat) (pv : Value), k ≤ ar ∧ i = .int .i64 (k : Int) ∧ pv = p ∧ Hid (GrQ 61 wr w2.heap.size K up pv k (fun i => (argL A x i, argL A y i))) ∧ Hid (Below w2.heap.size w2 wr)) (fun _ i _ => ar - (intOf i).toNat)
    case atStart => exact ⟨0, _, Nat.zero_le _, rfl, rfl, GN, hidden (Below.refl _ _)⟩
    case round =>
      clear GN
      obtain ⟨k, pv, hk, rfl, rfl, GQ, BL⟩ := hrel
      by_cases hlt : k < ar
      · have hcx : wr.cell? ⟨gl, k, none⟩ = _ := (BL.out.cell (p := ⟨gl, k, none⟩) HGB.out.1).trans (HCL.out k hlt)
        have hcy : wr.cell? ⟨gr, k, none⟩ = _ := (BL.out.cell (p := ⟨gr, k, none⟩) HGB.out.2).trans (HCR.out k hlt)
        have hkx : k < aOf A (fnL x) 0 := by rw [← HAR.out]; exact hlt
        have hky : k < aOf A (fnL y) 0 := by rw [HAY.out]; exact hlt
        have JX := hidden ((argL_ints HX.out IX.out hkx).keep BL.out)
        have JY := hidden ((argL_ints HY.out IY.out hky).keep BL.out)
        have CX := hidden (show (argL A x k).length ≤ d5 - agP (aOf A (fnL x)) x.length k ∧ (argL A x k).length ≤ 24 by
          obtain ⟨q, r, _, _, _, h4, h5, h6, h7, h8⟩ := arg_place (show Trm n A x.length (fnL x) from HX.out) hkx
          have hl := argL_len A x k
          have := HX.out.nods.most
          rw [h7, h8] at hl
          rw [h7, hl]; omega)
        have CY := hidden (show (argL A y k).length ≤ d7 - agP (aOf A (fnL y)) y.length k ∧ (argL A y k).length ≤ 24 by
          obtain ⟨q, r, _, _, _, h4, h5, h6, h7, h8⟩ := arg_place (show Trm n A y.length (fnL y) from HY.out) hky
          have hl := argL_len A y k
          have := HY.out.nods.most
          rw [h7, h8] at hl
          rw [h7, hl]; omega)
        rw [← argL_len] at hcx hcy
        obtain ⟨ox, hox⟩ : ∃ ox, ox = o5 + agP (aOf A (fnL x)) x.length k := ⟨_, rfl⟩
        obtain ⟨oy, hoy⟩ : ∃ oy, oy = o7 + agP (aOf A (fnL y)) y.length k := ⟨_, rfl⟩
        obtain ⟨cx, hcx2⟩ : ∃ cx, cx = d5 - agP (aOf A (fnL x)) x.length k := ⟨_, rfl⟩
        obtain ⟨cy, hcy2⟩ : ∃ cy, cy = d7 - agP (aOf A (fnL y)) y.length k := ⟨_, rfl⟩
        rw [← hox] at hcx JX
        rw [← hoy] at hcy JY
        rw [← hcx2] at hcx CX
        rw [← hcy2] at hcy CY
        clear hox hoy hcx2 hcy2
        obtain ⟨lx', hlx'⟩ : ∃ lx', lx' = (argL A x k).length := ⟨_, rfl⟩
        obtain ⟨ly', hly'⟩ : ∃ ly', ly' = (argL A y k).length := ⟨_, rfl⟩
        have HLX := hidden hlx'
        have HLY := hidden hly'
        rw [← hlx'] at hcx JX CX
        rw [← hly'] at hcy JY CY
        have hgl := HGB.out.1
        have hgr := HGB.out.2
        have hws := BL.out.size
        clear hlx' hly' hkx hky
        obtain ⟨xs, hx1, hx2⟩ := GQ.out.row
        have bB := alloc_below wr (.cells #[.slice (some ⟨g5, ox, none⟩) lx' cx, .slice (some ⟨g7, oy, none⟩) ly' cy] 61)
        have XO := hidden (ownsRow_up2 hx1 bB)
        have HX2 := hidden hx2
        have BB := hidden bB
        have htop := GQ.out.top
        have hups := GQ.out.ups
        clear hx1 hx2 bB
        go_wp2_with (at_builtin; refine (fun h => h trivial : (True → _) → _) ?_)
        intro _
        refine wpList_append_lies _ rfl _ _ 71 rfl w2.heap.size 61 _ (.agg #[.slice none 0 0, .slice none 0 0]) 2 48 Try.underlying71 rfl rfl rfl rfl rfl (by decide) pv k xs rfl XO.out ⟨_, 0, none⟩ 1 1 [.slice (some ⟨g5, ox, none⟩) lx' cx, .slice (some ⟨g7, oy, none⟩) ly' cy] rfl rfl (two_srcP _ _ _ _ _ (by simp)) (by intro u hu; simp at hu; rcases hu with rfl | rfl <;> rfl) (by decide) (by unfold maxLen; omega) (by omega) (by simp; omega) _ rfl ?_
        intro g6 d6 w6 hown hgrow hat hlt6
        replace hgrow : World.grownBy _ w6 pv.ownBlock := hgrow
        have NEW := hidden (GrQ.put (P := fun i => (argL A x i, argL A y i)) (k := k) (K := K) (by simp; omega) hups hgrow XO.out (fun i hi => by
          obtain ⟨g1, o1, c1, g2, o2, c2, a1, a2, a3, a4, a5⟩ := HX2.out i hi
          exact ⟨g1, o1, c1, g2, o2, c2, a1, a2, a3.keep BB.out, a4.keep BB.out, a5⟩) (g1 := g5) (o1 := ox) (c1 := cx) (g2 := g7) (o2 := oy) (c2 := cy) (by dsimp only; rw [← HLX.out]; exact JX.out.keep BB.out) (by dsimp only; rw [← HLY.out]; exact JY.out.keep BB.out) (by dsimp only; rw [← HLX.out, ← HLY.out]; exact ⟨CX.out.1, CY.out.1⟩) ⟨lx, ly, ux, uy⟩ (by dsimp only; rw [← HLX.out, ← HLY.out]; exact hown))
        have HB6 := hidden ((BL.out.trans (BB.out.mono hws)).grown hgrow (by simp; omega) (fun z hz => (XO.out.lt z hz).1))
        clear hown hgrow hat hlt6 hcx hcy
        go_wp2
        go_roundw
        case rel => exact ⟨k + 1, _, by omega, by go_num, rfl, NEW, HB6⟩
        case measure => simp [intOf]; omega
      · obtain rfl : k = ar := by omega
        go_wp2
        go_ret
        exact ⟨⟨_, rfl, GQ.out.base B.out.size hup⟩, keepB B.out BL.out⟩

end Go.Proofs.Ytenlogljpgdbpaa
