/- Contracts: the text of a term, as the program tells it. -/
import Derived.Test.YtkaoafdemckagaaTxtV
import Derived.Test.YtkaoafdemckagaaTxtS
import Derived.Test.YtkaoafdemckagaaShelf
import Derived.Deep.AppendLies
namespace Go.Proofs.Ytkaoafdemckagaa
open Go.RowKit Go.Shelf

attribute [local go_sem] Oper.semAt_some

/-- The texts that have come. -/
def txL (N : Nat → ByteArray) (A T : Nat → Int) (m : Nat) {p : Nat} (l : List (Arg p m)) : List Value := l.map (fun x => Value.string (bs (txt N A T m x.1)))

theorem txL_snoc (N : Nat → ByteArray) (A T : Nat → Int) (m : Nat) {p : Nat} (l : List (Arg p m)) (x : Arg p m) : txL N A T m (l ++ [x]) = txL N A T m l ++ [Value.string (bs (txt N A T m x.1))] := by simp [txL]

/-- A row of its own stays while nothing but loops' objects turns. -/
theorem ownsRow_stays {W W' : World} {row : Option Nat} {base : Nat} {e : TypeId} {size : Nat} {v : Value} {k : Nat} {xs : List Value} (h : W.ownsRow base e size v k xs) (hg : W.grownBy W' row)
    (hrow : ∀ r, row = some r → ∃ o : Obj, W.heap[r]? = some o ∧ o.isCells = false) : W'.ownsRow base e size v k xs := by
  refine h.kept hg ?_
  rcases h.2 with ⟨rfl, _⟩ | ⟨g, cap, cur, rfl, _, hgb, _⟩
  · exact .inl rfl
  · refine .inr fun e' => ?_
    obtain ⟨o, ho, hw⟩ := hrow g (by simpa [Value.ownBlock] using e'.symm)
    rw [hgb] at ho; cases ho; cases hw

theorem own_base {W : World} {base : Nat} {e : TypeId} {size : Nat} {v : Value} {k : Nat} {xs : List Value} (h : W.ownsRow base e size v k xs) : ∀ r, v.ownBlock = some r → base ≤ r ∧ ∀ o : Obj, W.heap[r]? = some o → o.isCells = true := by
  intro r hr
  rcases h.2 with ⟨rfl, _⟩ | ⟨g, cap, cur, rfl, hb, hgb, _⟩
  · cases hr
  · have e : g = r := by simpa [Value.ownBlock] using hr
    subst e
    exact ⟨hb, fun o ho => by rw [hgb] at ho; cases ho; rfl⟩

theorem But.grow {X B : Nat} {w w' : World} {row : Option Nat} (h : w.grownBy w' row) (hB : B ≤ w.heap.size) (hr : ∀ r, row = some r → B ≤ r) : But X B w w' :=
  ⟨h.os, h.tape, h.output, h.size, fun k hk _ => h.block k (by omega) (fun e => by have := hr k e.symm; omega)⟩

theorem one_str (s : ByteArray) : ∀ u ∈ [Value.string s], u.oneCell' = true := by intro u hu; simp at hu; rw [hu]; rfl

theorem one_srcS (W : World) (v : Value) (t : TypeId) : ∀ (j : Nat) (u : Value), [v][j]? = some u → (W.alloc (.cells #[v] t)).cell? ((⟨W.heap.size, 0, none⟩ : Addr).add j) = some u := by
  intro j u hj
  match j, hj with
  | 0, hj => simp at hj; subst hj; simp [Addr.add, go_sem]

theorem stepIn_append {F : Fence} {n : Nat} {P : Program} {w w' : World} {ops : Array Oper} {o : Oper} {a : Act} {K : Act → World → Prop} {Q : Exit → Act → World → Prop} {E : Prop}
    (hgd : o.guard = none) (s x : Operand) (t : TypeId) (hop : o.op = Op.call { callee := Callee.builtin Builtin.append, args := #[s, x], argTypes := #[t, t] }) (v y r : Value) (hs : a.eval s = v) (hx : a.eval x = y)
    (hrun : (Builtin.append_ #[t, t] o.type #[v, y]).run P w = .ok r w') (h : K (a.put o.dst r) w') : if Region.wanted o (yielded ops a.tmps) = true then Oper.wpIn F n P o a w K Q else E := by
  have hw : Region.wanted o (yielded ops a.tmps) = true := by simp [Region.wanted, hgd]
  rw [if_pos hw]
  unfold Oper.wpIn
  refine ⟨?_, ?_⟩
  · simp [Oper.about, hop, resolve, Target.leads, Sem.run_pure]
  · rw [Oper.semAt_plain F _ _ (by rw [hop]; intro c hc'; cases hc')]
    simp [execOp, hop, resolve, invoke, builtin, hs, hx, hrun, Result.andThen]
    exact h

set_option maxRecDepth 20000 in
/-- A text is put behind the others. -/
theorem push_text (W : World) (base : Nat) (v : Value) (k : Nat) (xs : List Value) (s : ByteArray) (hown : W.ownsRow base 9 1 v k xs) (hk : k ≤ 24) (hbase : base ≤ W.heap.size) :
    ∃ g cap W2, (Builtin.append_ #[94, 94] 94 #[v, .slice (some ⟨W.heap.size, 0, none⟩) 1 1]).run Try.prog (W.alloc (.cells #[.string s] 9)) = .ok (.slice (some ⟨g, 0, none⟩) (k + 1) cap) W2 ∧
      W2.ownsRow base 9 1 (.slice (some ⟨g, 0, none⟩) (k + 1) cap) (k + 1) (xs ++ [.string s]) ∧ (W.alloc (.cells #[.string s] 9)).grownBy W2 v.ownBlock ∧ ∀ r, v.ownBlock = some r → base ≤ r ∧ ∀ o : Obj, (W.alloc (.cells #[.string s] 9)).heap[r]? = some o → o.isCells = true := by
  have ho : (W.alloc (.cells #[.string s] 9)).ownsRow base 9 1 v k xs := hown.kept (World.grownBy_alloc W _ none) (by
    rcases hown.2 with ⟨rfl, _⟩ | ⟨g, cap, cur, rfl, _⟩
    · exact .inl rfl
    · exact .inr (by simp [Value.ownBlock]))
  obtain ⟨g, cap, W2, h1, h2, h3, _, _⟩ := run_append_lies (P := Try.prog) (W.alloc (.cells #[.string s] 9)) 94 94 base 9 _ (.string ByteArray.empty) 1 16 Try.underlying94 rfl rfl rfl rfl rfl (by decide) v k xs ho ⟨W.heap.size, 0, none⟩ 1 1 [.string s] rfl (one_srcS _ _ _) (one_str _) (by decide) (by unfold maxLen; omega) (by omega) (by simp; omega) _ rfl
  exact ⟨g, cap, W2, h1, h2, h3, own_base ho⟩

theorem bs_two (nm : ByteArray) (a b : List UInt8) : ((nm ++ ⟨#[40]⟩) ++ bs (a ++ [44] ++ b)) ++ ⟨#[41]⟩ = bs (nm.data.toList ++ [40] ++ a ++ [44] ++ b ++ [41]) := by
  have e : nm.data.toList ++ [40] ++ a ++ [44] ++ b ++ [41] = (nm.data.toList ++ [40]) ++ (a ++ [44] ++ b) ++ [41] := by simp [List.append_assoc]
  rw [e, ← bs_append _ [41], ← bs_append (nm.data.toList ++ [40]) (a ++ [44] ++ b), ← bs_append nm.data.toList [40], bs_data]; rfl

theorem len1 {α : Type} {l : List α} (h : l.length = 1) : ∃ a, l = [a] := by
  match l, h with
  | [a], _ => exact ⟨a, rfl⟩

theorem len2 {α : Type} {l : List α} (h : l.length = 2) : ∃ a b, l = [a, b] := by
  match l, h with
  | [a, b], _ => exact ⟨a, b, rfl⟩

/-- What a round leaves. -/
theorem text_round {w W w' w2 : World} {s k BB b off n c b' off' m c' : Nat} {v nv : Value} {xs : List Value} {u : ByteArray} (hbW : Below W.heap.size W w') (hsW : s + 1 + 1 + 1 < W.heap.size) (HB : Below w.heap.size w W) (hbw : w.heap.size + 1 + 1 ≤ s)
    (hgr : (w'.alloc (.cells #[.string u] 9)).grownBy w2 v.ownBlock) (hob : ∀ r, v.ownBlock = some r → s + 1 + 1 + 1 + 1 ≤ r ∧ ∀ o : Obj, (w'.alloc (.cells #[.string u] 9)).heap[r]? = some o → o.isCells = true)
    (how : w2.ownsRow (s + 1 + 1 + 1 + 1) 9 1 nv (k + 1) (xs ++ [.string u])) (cX3 : w2.cell? ⟨s, 0, none⟩ = some v) (fX3 : w2.frozen? ⟨s, 0, none⟩ = false)
    (hcs : W.cell? ⟨w.heap.size, 0, none⟩ = some (.slice (some ⟨b, off, none⟩) n c)) (hct : W.cell? ⟨w.heap.size + 1, 0, none⟩ = some (.slice (some ⟨b', off', none⟩) m c')) :
    KeepsFrom BB W (w2.setCell ⟨s, 0, none⟩ nv) ∧ But s (s + 1 + 1 + 1) W (w2.setCell ⟨s, 0, none⟩ nv) ∧
    ((∃ v, (w2.setCell ⟨s, 0, none⟩ nv).cell? ⟨s, 0, none⟩ = some v ∧ (w2.setCell ⟨s, 0, none⟩ nv).frozen? ⟨s, 0, none⟩ = false ∧ (w2.setCell ⟨s, 0, none⟩ nv).ownsRow (s + 1 + 1 + 1 + 1) 9 1 v (k + 1) (xs ++ [.string u]) ∧ (w2.setCell ⟨s, 0, none⟩ nv).cell? ⟨w.heap.size, 0, none⟩ = some (.slice (some ⟨b, off, none⟩) n c) ∧ (w2.setCell ⟨s, 0, none⟩ nv).cell? ⟨w.heap.size + 1, 0, none⟩ = some (.slice (some ⟨b', off', none⟩) m c') ∧ s + 1 + 1 + 1 < (w2.setCell ⟨s, 0, none⟩ nv).heap.size) ∧ Below w.heap.size w (w2.setCell ⟨s, 0, none⟩ nv)) := by
  have z1 := hbW.size
  have hbut : But s (s + 1 + 1 + 1) W (w2.setCell ⟨s, 0, none⟩ nv) :=
    (((But.of hbW (by omega)).trans (But.of (alloc_below w' (.cells #[.string u] 9)) (by omega))).trans (But.grow hgr (by rw [World.size_alloc]; omega) (fun r e => by have := (hob r e).1; omega))).trans (But.set _ _ _ _)
  refine ⟨(((keepsFrom_below hbW).trans ((KeepsOthers.alloc _ _).from _)).trans ((KeepsOthers.of_grownBy hgr (fun j o e ho => (hob j e).2 o ho)).from _)).trans ((KeepsOthers.setCell _ _ _).from _), hbut, ⟨nv, World.cell?_setCell_same _ _ _ cX3, by rw [World.frozen?_setCell]; exact fX3, ?_, ?_, ?_, ?_⟩, ?_⟩
  · refine how.kept (grownBy_setCell' w2 s nv) ?_
    rcases how.2 with ⟨e, _⟩ | ⟨g, cap, cur, e, hb, _⟩
    · exact .inl (by rw [e]; rfl)
    · refine .inr (by rw [e]; intro h; simp [Value.ownBlock] at h; omega)
  · exact (hbut.cell (by omega) (by omega)).trans hcs
  · exact (hbut.cell (by omega) (by omega)).trans hct
  · have := hbut.size; omega
  · have B2 : Below w.heap.size w (w'.alloc (.cells #[.string u] 9)) := keepB (keepB HB hbW) (alloc_below _ _)
    refine (B2.grown hgr B2.size (fun k e => by have := (hob k e).1; omega)).setCell (by show w.heap.size ≤ s; omega) _

set_option maxRecDepth 100000 in
set_option maxHeartbeats 8000000 in
theorem textThere_any (b off n c b' off' m c' : Nat) (N : Nat → ByteArray) (A T : Nat → Int) (hg : Trm n A m T) (hf : faultF n N A = 0) (hc' : m ≤ c') : ∀ (d p : Nat), m - p ≤ d → p < m → ∀ w : World, Syms w b off n N A → Ints w b' off' m T →
    Calls Try.prog 41 #[.agg #[.slice (some ⟨b, off, none⟩) n c], (.slice (some ⟨b', off', none⟩) m c'), .int .i64 p] w fun e w' => e = .returned (.string (bs (txt N A T m p))) ∧ Below w.heap.size w w' := by
  intro d
  induction d with
  | zero => intro p hd hp; omega
  | succ d ih =>
  intro p hd hp w h h'
  rcases nodeB_cases (hg.nods.node p hp) with ⟨j, hTj, hj⟩ | hv
  rotate_left
  · exact textThere_var b off n c b' off' m c' p N A T w hp h' hv
  refine (callsIn_wide (n := 3)).1 ?_
  refine callsIn_of_wp_marks Try.func41 rfl trivial ?_ rfl
  simp only [Try.ntmps41, List.size_toArray, List.length_cons, List.length_nil, Nat.reduceAdd, Nat.reduceSub, Array.replicate_succ, Array.replicate_zero, List.push_toArray, List.append_toArray, List.nil_append, List.cons_append]
  have hb := h.blk hg.sig.least
  have hb' := h'.blk hg.pos
  have hm24 := hg.nods.most
  have hmx : Try.prog.follows .mixedOrders = true := by kernel_rfl
  obtain ⟨en, hen, _, _⟩ := skip_inner hg.whole hp
  have HEN := hidden hen
  have HG := hidden hg
  have HF := hidden hf
  have IH := hidden ih
  have HJ := hidden hj
  have HTJ := hidden hTj
  have hj6 : j < 6 := by have := hg.nods.few; omega
  have B := hidden (keepB (alloc_below w (.cells #[.slice (some ⟨b, off, none⟩) n c] 32)) (alloc_below _ (.cells #[.slice (some ⟨b', off', none⟩) m c'] 25)))
  have D1 := hidden (One.new (w.alloc (.cells #[.slice (some ⟨b, off, none⟩) n c] 32)) (.slice (some ⟨b', off', none⟩) m c') 25)
  have D0 := hidden ((One.new w (.slice (some ⟨b, off, none⟩) n c) 32).keep (alloc_below _ (.cells #[.slice (some ⟨b', off', none⟩) m c'] 25)))
  simp only [World.size_alloc] at D1
  have HS0 := hidden h
  have HT0 := hidden h'
  have HS := hidden (h.keep B.out)
  have HT := hidden (h'.keep B.out)
  have c1 := HT.out.cell p hp
  rw [hTj] at c1
  have hz : varB (j : Int) = false := by simp [varB]; omega
  have d1 := D1.out.c0
  clear h h' hg ih hen hf hTj
  gi_wp2_with (first
    | (refine ⟨trivial, ?_⟩; gi_at_call 68; refine (callsIn_wide.2 (isVariable_any _ _)).mono ?_; rintro e w1 ⟨rfl, hb1⟩; rw [hz]; replace D0 := hidden (D0.out.keep hb1); replace D1 := hidden (D1.out.keep hb1); replace HS := hidden (HS.out.keep hb1); replace HT := hidden (HT.out.keep hb1); replace B := hidden (keepB B.out hb1); have hbw := hb1.size; simp only [World.size_alloc] at hbw; clear hb1 c1 d1 hz; have d0 := D0.out.c0; have d1 := keepCell D1.out.c0 (.cells #[.slice none 0 0] 94); have d2 := keepCell d0 (.cells #[.slice none 0 0] 94); have c2 := HS.out.name j HJ.out)
    | (refine ⟨trivial, ?_⟩; gi_at_call 70; refine (callsIn_wide.2 (argumentsThere_any _ _ _ _ _ _ _ _)).mono ?_; rintro e w' ⟨rfl, rfl⟩))
  have b2 := Boxed.new w1 94 (.slice none 0 0)
  have b3 := Boxed.new (w1.alloc (.cells #[.slice none 0 0] 94)) 32 (.slice (some ⟨b, off, none⟩) n c)
  have b4 := Boxed.new ((w1.alloc (.cells #[.slice none 0 0] 94)).alloc (.cells #[.slice (some ⟨b, off, none⟩) n c] 32)) 25 (.slice (some ⟨b', off', none⟩) m c')
  have b5 := Boxed.new (((w1.alloc (.cells #[.slice none 0 0] 94)).alloc (.cells #[.slice (some ⟨b, off, none⟩) n c] 32)).alloc (.cells #[.slice (some ⟨b', off', none⟩) m c'] 25)) 2 (.int .i64 p)
  simp only [World.size_alloc] at b3 b4 b5
  have hB1 : Below w1.heap.size w1 ((((w1.alloc (.cells #[.slice none 0 0] 94)).alloc (.cells #[.slice (some ⟨b, off, none⟩) n c] 32)).alloc (.cells #[.slice (some ⟨b', off', none⟩) m c'] 25)).alloc (.cells #[.int .i64 p] 2)) := ((((Below.refl _ w1).alloc (Nat.le_refl _) _).alloc (by simp) _).alloc (by simp; omega) _).alloc (by simp; omega) _
  have hB0 : Below w.heap.size w ((((w1.alloc (.cells #[.slice none 0 0] 94)).alloc (.cells #[.slice (some ⟨b, off, none⟩) n c] 32)).alloc (.cells #[.slice (some ⟨b', off', none⟩) m c'] 25)).alloc (.cells #[.int .i64 p] 2)) := keepB B.out hB1
  have e0 := (D0.out.keep hB1).c0
  have e1 := (D1.out.keep hB1).c0
  refine wpIn_rangeFunc_ownG rfl (by omega) (gf := 94) (lb := #[.pointer (some ⟨w1.heap.size + 1 + 1 + 1, 0, none⟩), .pointer (some ⟨w1.heap.size + 1, 0, none⟩), .pointer (some ⟨w1.heap.size + 1 + 1, 0, none⟩)]) rfl trivial (enters_of Try.func94 (by kernel_rfl) rfl)
    (args_stops _ (by omega) (w1.heap.size + 1 + 1 + 1) (w1.heap.size + 1) (w1.heap.size + 1 + 1) (w1.heap.size) (w1.heap.size + 1 + 1 + 1) b off n c b' off' m c' p (aOf A T p) N A T HG.out hp rfl hc' ⟨by omega, by omega⟩ ⟨by omega, by omega⟩ ⟨by omega, by omega⟩ ⟨by omega, by omega⟩ _ (by simp) (by simp) b5.cell ((b3.alloc _).alloc _).cell (b4.alloc _).cell (HS.out.keep hB1) (HT.out.keep hB1))
    butK_t (butK_b (by simp)) (Below.refl _ _) (fun _ => rfl)
    (fun pre W => (∃ v, W.cell? ⟨w1.heap.size, 0, none⟩ = some v ∧ W.frozen? ⟨w1.heap.size, 0, none⟩ = false ∧ W.ownsRow (w1.heap.size + 1 + 1 + 1 + 1) 9 1 v pre.length (txL N A T m pre) ∧ W.cell? ⟨w.heap.size, 0, none⟩ = some (.slice (some ⟨b, off, none⟩) n c) ∧ W.cell? ⟨w.heap.size + 1, 0, none⟩ = some (.slice (some ⟨b', off', none⟩) m c') ∧ w1.heap.size + 1 + 1 + 1 < W.heap.size) ∧ Below w.heap.size w W)
    (fun _ _ _ => False)
    (OwnFrom.and (Own.from (fun s A B row hs hg hr => by
      obtain ⟨v, h1, h2, h3, h4, h5, h6⟩ := hs
      exact ⟨v, cell_kept h1 hg hr, (frozen_kept h1 hg hr).trans h2, ownsRow_stays h3 hg hr, cell_kept h4 hg hr, cell_kept h5 hg hr, Nat.lt_of_lt_of_le h6 hg.size⟩) _) (ownFrom_below (Nat.le_refl _) (by simp; omega)))
    (fun _ _ _ _ _ hs _ _ => hs)
    ⟨⟨_, (((b2.alloc _).alloc _).alloc _).cell, (((b2.alloc _).alloc _).alloc _).frozen, ⟨rfl, .inl ⟨rfl, rfl⟩⟩, e0, e1, by simp⟩, hB0⟩
    (fun x => { tmps := #[.agg #[.slice (some ⟨b, off, none⟩) n c], .slice (some ⟨b', off', none⟩) m c', .int .i64 p, .pointer (some ⟨w.heap.size, 0, none⟩), .pointer (some ⟨w.heap.size + 1, 0, none⟩), undef, .string ⟨#[]⟩, .int .i64 j, .string (N j), .pointer (some ⟨w1.heap.size, 0, none⟩), .int .i64 (x.1 : Int), .slice (some ⟨b', off', none⟩) m c', .int .i64 p, .pointer (some ⟨b', off' + p, none⟩), .int .i64 j, .int .i64 j, .bool false, undef, undef, undef, undef, undef, .pointer (some ⟨w.heap.size, 0, none⟩), .slice (some ⟨b, off, none⟩) n c, .int .i64 j, .pointer (some ⟨b, off + j * 2, none⟩), .pointer (some ⟨b, off + j * 2, none⟩), .string (N j), .agg #[.slice (some ⟨b, off, none⟩) n c], .slice (some ⟨b', off', none⟩) m c', .int .i64 p, .func (.func 94) #[] #[.pointer (some ⟨w1.heap.size + 1 + 1 + 1, 0, none⟩), .pointer (some ⟨w1.heap.size + 1, 0, none⟩), .pointer (some ⟨w1.heap.size + 1 + 1, 0, none⟩)], .int .i64 (x.1 : Int), undef, undef, undef, undef, undef, undef, undef, undef, undef, undef, undef, undef, undef, undef, undef, undef, undef], defers := [] }) ?assign ?body ?done ?stop
  case assign =>
    intro l x W K hK
    gi_wp2
    exact hK
  case body =>
    rintro l pre x W ⟨⟨v, hcx, hfx, hrow, hcs, hct, hsW⟩, hB⟩ hl
    have har2 := HG.out.nods.aOf_le hp
    have HL := hidden (show pre.length ≤ 24 by omega)
    have HM := hidden (txL_snoc N A T m pre x)
    have HB := hidden hB
    have HROW := hidden hrow
    have IC := hidden (IH.out x.1 (by have := x.2.1; omega) x.2.2 W.drew (HS0.out.keep hB.drew) (HT0.out.keep hB.drew))
    have hX : w1.heap.size < W.heap.size := World.block_lt_of_cell? W _ hcx
    clear hB hrow d0 d1 d2 c2 e0 e1 hB0 hB1 b2 b3 b4 b5
    generalize hpl : pre.length = k at *
    generalize bs (txt N A T m x.1) = u at *
    gi_wp2
    refine wpIn_region_any (by assumption) ?_
    try (change wpAnyIn _ _ _ _ _ _ _ _ _ (World.drew _))
    refine wpAnyIn_ready (rs := [0, 1, 2, 3]) (by kernel_rfl) (by simp) ?_
    refine AllReadyIn.cons rfl (fun K hK => ?_) ?_
    · go_simp
      refine hK _ _ ?_
      clear hK K
      try simp only [Act.put, List.setIfInBounds_toArray, List.set_cons_zero, List.set_cons_succ]
      refine wpAnyIn_ready (rs := [1, 2, 3]) (by kernel_rfl) (by simp) ?_
      refine AllReadyIn.cons rfl (fun K hK => ?_) ?_
      · go_simp
        refine hK _ _ ?_
        clear hK K
        try simp only [Act.put, List.setIfInBounds_toArray, List.set_cons_zero, List.set_cons_succ]
        refine wpAnyIn_ready (rs := [2, 3]) (by kernel_rfl) (by simp) ?_
        refine AllReadyIn.cons rfl (fun K hK => ?_) ?_
        · go_simp
          refine hK _ _ ?_
          clear hK K
          try simp only [Act.put, List.setIfInBounds_toArray, List.set_cons_zero, List.set_cons_succ]
          refine wpAnyIn_ready (rs := [3]) (by kernel_rfl) (by simp) ?_
          refine AllReadyIn.cons rfl (fun K hK => ?_) ?_
          · go_simp
            refine hK _ _ ?_
            clear hK K
            try simp only [Act.put, List.setIfInBounds_toArray, List.set_cons_zero, List.set_cons_succ]
            refine wpAnyIn_ready (rs := [4]) (by kernel_rfl) (by simp) ?_
            refine AllReadyIn.cons rfl (fun K hK => ?_) ?_
            · go_simp
              (refine ⟨trivial, ?_⟩; gi_at_call 41; refine (CallsIn.inRound l (callsIn_wide.2 IC.out)).mono ?_; rintro e w' ⟨rfl, hb1⟩; clear IC; have hbW : Below W.heap.size W w' := (Below.refl _ W).drew.trans hb1; have HBW := hidden hbW; have cX : w'.cell? ⟨w1.heap.size, 0, none⟩ = some v := (hbW.cell (p := ⟨w1.heap.size, 0, none⟩) hX).trans hcx; have fX : w'.frozen? ⟨w1.heap.size, 0, none⟩ = false := (hbW.frozen (p := ⟨w1.heap.size, 0, none⟩) hX).trans hfx; have cX2 := keepCell cX (.cells #[.string u] 9); have hrw := ownsRow_stays HROW.out (Below.by hbW) (fun r e => by cases e); obtain ⟨g, cap, w2, hap, how, hgr, hob⟩ := push_text w' (w1.heap.size + 1 + 1 + 1 + 1) v k (txL N A T m pre) u hrw HL.out (Nat.le_trans hsW hbW.size); have HOB := hidden hob; clear hob; have hw2 : w1.heap.size < w'.heap.size := Nat.lt_of_lt_of_le hX hbW.size; have hbl : w2.heap[w1.heap.size]? = (w'.alloc (.cells #[.string u] 9)).heap[w1.heap.size]? := hgr.block _ (Nat.lt_of_lt_of_le hw2 (by simp)) (fun e => by have := (HOB.out _ e.symm).1; omega); have cX3 : w2.cell? ⟨w1.heap.size, 0, none⟩ = some v := (World.cell?_of_block (a := ⟨w1.heap.size, 0, none⟩) hbl).trans cX2; have fX3 : w2.frozen? ⟨w1.heap.size, 0, none⟩ = false := (World.frozen?_of_block (a := ⟨w1.heap.size, 0, none⟩) hbl).trans (((alloc_below w' _).frozen (p := ⟨w1.heap.size, 0, none⟩) hw2).trans fX); have HOW := hidden how; have HGR := hidden hgr; clear hb1 hbW how hgr hbl hrw)
              dsimp only
              refine hK _ _ ?_
              clear hK K
              try simp only [Act.put, List.setIfInBounds_toArray, List.set_cons_zero, List.set_cons_succ]
              refine wpAnyIn_ready (rs := [5]) (by kernel_rfl) (by simp) ?_
              refine AllReadyIn.cons rfl (fun K hK => ?_) ?_
              · go_simp
                refine hK _ _ ?_
                clear hK K
                try simp only [Act.put, List.setIfInBounds_toArray, List.set_cons_zero, List.set_cons_succ]
                refine wpAnyIn_ready (rs := [6]) (by kernel_rfl) (by simp) ?_
                refine AllReadyIn.cons rfl (fun K hK => ?_) ?_
                · refine stepIn_append rfl _ _ 94 rfl v _ _ rfl rfl hap ?_
                  refine hK _ _ ?_
                  clear hK K
                  try simp only [Act.put, List.setIfInBounds_toArray]
                  refine wpAnyIn_ready (rs := [7]) (by kernel_rfl) (by simp) ?_
                  refine AllReadyIn.cons rfl (fun K hK => ?_) ?_
                  · go_simp
                    refine hK _ _ ?_
                    clear hK K
                    refine wpAnyIn_done (by kernel_rfl) ?_ _
                    gi_wp2
                    have R := text_round (BB := w1.heap.size + 1 + 1 + 1 + 1) HBW.out hsW HB.out hbw HGR.out HOB.out HOW.out cX3 fX3 hcs hct
                    refine ⟨?_, R.2.1, ?_⟩
                    · simp only [World.size_alloc]; exact R.1
                    · dsimp only
                      rw [HM.out, List.length_append, hpl]
                      exact R.2.2
                  exact AllReadyIn.nil
                exact AllReadyIn.nil
              exact AllReadyIn.nil
            exact AllReadyIn.nil
          exact AllReadyIn.nil
        refine AllReadyIn.cons rfl (fun K hK => ?_) ?_
        · go_simp
          refine hK _ _ ?_
          clear hK K
          try simp only [Act.put, List.setIfInBounds_toArray, List.set_cons_zero, List.set_cons_succ]
          refine wpAnyIn_ready (rs := [2]) (by kernel_rfl) (by simp) ?_
          refine AllReadyIn.cons rfl (fun K hK => ?_) ?_
          · go_simp
            refine hK _ _ ?_
            clear hK K
            try simp only [Act.put, List.setIfInBounds_toArray, List.set_cons_zero, List.set_cons_succ]
            refine wpAnyIn_ready (rs := [4]) (by kernel_rfl) (by simp) ?_
            refine AllReadyIn.cons rfl (fun K hK => ?_) ?_
            · go_simp
              (refine ⟨trivial, ?_⟩; gi_at_call 41; refine (CallsIn.inRound l (callsIn_wide.2 IC.out)).mono ?_; rintro e w' ⟨rfl, hb1⟩; clear IC; have hbW : Below W.heap.size W w' := (Below.refl _ W).drew.trans hb1; have HBW := hidden hbW; have cX : w'.cell? ⟨w1.heap.size, 0, none⟩ = some v := (hbW.cell (p := ⟨w1.heap.size, 0, none⟩) hX).trans hcx; have fX : w'.frozen? ⟨w1.heap.size, 0, none⟩ = false := (hbW.frozen (p := ⟨w1.heap.size, 0, none⟩) hX).trans hfx; have cX2 := keepCell cX (.cells #[.string u] 9); have hrw := ownsRow_stays HROW.out (Below.by hbW) (fun r e => by cases e); obtain ⟨g, cap, w2, hap, how, hgr, hob⟩ := push_text w' (w1.heap.size + 1 + 1 + 1 + 1) v k (txL N A T m pre) u hrw HL.out (Nat.le_trans hsW hbW.size); have HOB := hidden hob; clear hob; have hw2 : w1.heap.size < w'.heap.size := Nat.lt_of_lt_of_le hX hbW.size; have hbl : w2.heap[w1.heap.size]? = (w'.alloc (.cells #[.string u] 9)).heap[w1.heap.size]? := hgr.block _ (Nat.lt_of_lt_of_le hw2 (by simp)) (fun e => by have := (HOB.out _ e.symm).1; omega); have cX3 : w2.cell? ⟨w1.heap.size, 0, none⟩ = some v := (World.cell?_of_block (a := ⟨w1.heap.size, 0, none⟩) hbl).trans cX2; have fX3 : w2.frozen? ⟨w1.heap.size, 0, none⟩ = false := (World.frozen?_of_block (a := ⟨w1.heap.size, 0, none⟩) hbl).trans (((alloc_below w' _).frozen (p := ⟨w1.heap.size, 0, none⟩) hw2).trans fX); have HOW := hidden how; have HGR := hidden hgr; clear hb1 hbW how hgr hbl hrw)
              dsimp only
              refine hK _ _ ?_
              clear hK K
              try simp only [Act.put, List.setIfInBounds_toArray, List.set_cons_zero, List.set_cons_succ]
              refine wpAnyIn_ready (rs := [5]) (by kernel_rfl) (by simp) ?_
              refine AllReadyIn.cons rfl (fun K hK => ?_) ?_
              · go_simp
                refine hK _ _ ?_
                clear hK K
                try simp only [Act.put, List.setIfInBounds_toArray, List.set_cons_zero, List.set_cons_succ]
                refine wpAnyIn_ready (rs := [6]) (by kernel_rfl) (by simp) ?_
                refine AllReadyIn.cons rfl (fun K hK => ?_) ?_
                · refine stepIn_append rfl _ _ 94 rfl v _ _ rfl rfl hap ?_
                  refine hK _ _ ?_
                  clear hK K
                  try simp only [Act.put, List.setIfInBounds_toArray]
                  refine wpAnyIn_ready (rs := [7]) (by kernel_rfl) (by simp) ?_
                  refine AllReadyIn.cons rfl (fun K hK => ?_) ?_
                  · go_simp
                    refine hK _ _ ?_
                    clear hK K
                    refine wpAnyIn_done (by kernel_rfl) ?_ _
                    gi_wp2
                    have R := text_round (BB := w1.heap.size + 1 + 1 + 1 + 1) HBW.out hsW HB.out hbw HGR.out HOB.out HOW.out cX3 fX3 hcs hct
                    refine ⟨?_, R.2.1, ?_⟩
                    · simp only [World.size_alloc]; exact R.1
                    · dsimp only
                      rw [HM.out, List.length_append, hpl]
                      exact R.2.2
                  exact AllReadyIn.nil
                exact AllReadyIn.nil
              exact AllReadyIn.nil
            exact AllReadyIn.nil
          exact AllReadyIn.nil
        exact AllReadyIn.nil
      refine AllReadyIn.cons rfl (fun K hK => ?_) ?_
      · go_simp
        refine hK _ _ ?_
        clear hK K
        try simp only [Act.put, List.setIfInBounds_toArray, List.set_cons_zero, List.set_cons_succ]
        refine wpAnyIn_ready (rs := [1, 3]) (by kernel_rfl) (by simp) ?_
        refine AllReadyIn.cons rfl (fun K hK => ?_) ?_
        · go_simp
          refine hK _ _ ?_
          clear hK K
          try simp only [Act.put, List.setIfInBounds_toArray, List.set_cons_zero, List.set_cons_succ]
          refine wpAnyIn_ready (rs := [3]) (by kernel_rfl) (by simp) ?_
          refine AllReadyIn.cons rfl (fun K hK => ?_) ?_
          · go_simp
            refine hK _ _ ?_
            clear hK K
            try simp only [Act.put, List.setIfInBounds_toArray, List.set_cons_zero, List.set_cons_succ]
            refine wpAnyIn_ready (rs := [4]) (by kernel_rfl) (by simp) ?_
            refine AllReadyIn.cons rfl (fun K hK => ?_) ?_
            · go_simp
              (refine ⟨trivial, ?_⟩; gi_at_call 41; refine (CallsIn.inRound l (callsIn_wide.2 IC.out)).mono ?_; rintro e w' ⟨rfl, hb1⟩; clear IC; have hbW : Below W.heap.size W w' := (Below.refl _ W).drew.trans hb1; have HBW := hidden hbW; have cX : w'.cell? ⟨w1.heap.size, 0, none⟩ = some v := (hbW.cell (p := ⟨w1.heap.size, 0, none⟩) hX).trans hcx; have fX : w'.frozen? ⟨w1.heap.size, 0, none⟩ = false := (hbW.frozen (p := ⟨w1.heap.size, 0, none⟩) hX).trans hfx; have cX2 := keepCell cX (.cells #[.string u] 9); have hrw := ownsRow_stays HROW.out (Below.by hbW) (fun r e => by cases e); obtain ⟨g, cap, w2, hap, how, hgr, hob⟩ := push_text w' (w1.heap.size + 1 + 1 + 1 + 1) v k (txL N A T m pre) u hrw HL.out (Nat.le_trans hsW hbW.size); have HOB := hidden hob; clear hob; have hw2 : w1.heap.size < w'.heap.size := Nat.lt_of_lt_of_le hX hbW.size; have hbl : w2.heap[w1.heap.size]? = (w'.alloc (.cells #[.string u] 9)).heap[w1.heap.size]? := hgr.block _ (Nat.lt_of_lt_of_le hw2 (by simp)) (fun e => by have := (HOB.out _ e.symm).1; omega); have cX3 : w2.cell? ⟨w1.heap.size, 0, none⟩ = some v := (World.cell?_of_block (a := ⟨w1.heap.size, 0, none⟩) hbl).trans cX2; have fX3 : w2.frozen? ⟨w1.heap.size, 0, none⟩ = false := (World.frozen?_of_block (a := ⟨w1.heap.size, 0, none⟩) hbl).trans (((alloc_below w' _).frozen (p := ⟨w1.heap.size, 0, none⟩) hw2).trans fX); have HOW := hidden how; have HGR := hidden hgr; clear hb1 hbW how hgr hbl hrw)
              dsimp only
              refine hK _ _ ?_
              clear hK K
              try simp only [Act.put, List.setIfInBounds_toArray, List.set_cons_zero, List.set_cons_succ]
              refine wpAnyIn_ready (rs := [5]) (by kernel_rfl) (by simp) ?_
              refine AllReadyIn.cons rfl (fun K hK => ?_) ?_
              · go_simp
                refine hK _ _ ?_
                clear hK K
                try simp only [Act.put, List.setIfInBounds_toArray, List.set_cons_zero, List.set_cons_succ]
                refine wpAnyIn_ready (rs := [6]) (by kernel_rfl) (by simp) ?_
                refine AllReadyIn.cons rfl (fun K hK => ?_) ?_
                · refine stepIn_append rfl _ _ 94 rfl v _ _ rfl rfl hap ?_
                  refine hK _ _ ?_
                  clear hK K
                  try simp only [Act.put, List.setIfInBounds_toArray]
                  refine wpAnyIn_ready (rs := [7]) (by kernel_rfl) (by simp) ?_
                  refine AllReadyIn.cons rfl (fun K hK => ?_) ?_
                  · go_simp
                    refine hK _ _ ?_
                    clear hK K
                    refine wpAnyIn_done (by kernel_rfl) ?_ _
                    gi_wp2
                    have R := text_round (BB := w1.heap.size + 1 + 1 + 1 + 1) HBW.out hsW HB.out hbw HGR.out HOB.out HOW.out cX3 fX3 hcs hct
                    refine ⟨?_, R.2.1, ?_⟩
                    · simp only [World.size_alloc]; exact R.1
                    · dsimp only
                      rw [HM.out, List.length_append, hpl]
                      exact R.2.2
                  exact AllReadyIn.nil
                exact AllReadyIn.nil
              exact AllReadyIn.nil
            exact AllReadyIn.nil
          exact AllReadyIn.nil
        refine AllReadyIn.cons rfl (fun K hK => ?_) ?_
        · go_simp
          refine hK _ _ ?_
          clear hK K
          try simp only [Act.put, List.setIfInBounds_toArray, List.set_cons_zero, List.set_cons_succ]
          refine wpAnyIn_ready (rs := [1]) (by kernel_rfl) (by simp) ?_
          refine AllReadyIn.cons rfl (fun K hK => ?_) ?_
          · go_simp
            refine hK _ _ ?_
            clear hK K
            try simp only [Act.put, List.setIfInBounds_toArray, List.set_cons_zero, List.set_cons_succ]
            refine wpAnyIn_ready (rs := [4]) (by kernel_rfl) (by simp) ?_
            refine AllReadyIn.cons rfl (fun K hK => ?_) ?_
            · go_simp
              (refine ⟨trivial, ?_⟩; gi_at_call 41; refine (CallsIn.inRound l (callsIn_wide.2 IC.out)).mono ?_; rintro e w' ⟨rfl, hb1⟩; clear IC; have hbW : Below W.heap.size W w' := (Below.refl _ W).drew.trans hb1; have HBW := hidden hbW; have cX : w'.cell? ⟨w1.heap.size, 0, none⟩ = some v := (hbW.cell (p := ⟨w1.heap.size, 0, none⟩) hX).trans hcx; have fX : w'.frozen? ⟨w1.heap.size, 0, none⟩ = false := (hbW.frozen (p := ⟨w1.heap.size, 0, none⟩) hX).trans hfx; have cX2 := keepCell cX (.cells #[.string u] 9); have hrw := ownsRow_stays HROW.out (Below.by hbW) (fun r e => by cases e); obtain ⟨g, cap, w2, hap, how, hgr, hob⟩ := push_text w' (w1.heap.size + 1 + 1 + 1 + 1) v k (txL N A T m pre) u hrw HL.out (Nat.le_trans hsW hbW.size); have HOB := hidden hob; clear hob; have hw2 : w1.heap.size < w'.heap.size := Nat.lt_of_lt_of_le hX hbW.size; have hbl : w2.heap[w1.heap.size]? = (w'.alloc (.cells #[.string u] 9)).heap[w1.heap.size]? := hgr.block _ (Nat.lt_of_lt_of_le hw2 (by simp)) (fun e => by have := (HOB.out _ e.symm).1; omega); have cX3 : w2.cell? ⟨w1.heap.size, 0, none⟩ = some v := (World.cell?_of_block (a := ⟨w1.heap.size, 0, none⟩) hbl).trans cX2; have fX3 : w2.frozen? ⟨w1.heap.size, 0, none⟩ = false := (World.frozen?_of_block (a := ⟨w1.heap.size, 0, none⟩) hbl).trans (((alloc_below w' _).frozen (p := ⟨w1.heap.size, 0, none⟩) hw2).trans fX); have HOW := hidden how; have HGR := hidden hgr; clear hb1 hbW how hgr hbl hrw)
              dsimp only
              refine hK _ _ ?_
              clear hK K
              try simp only [Act.put, List.setIfInBounds_toArray, List.set_cons_zero, List.set_cons_succ]
              refine wpAnyIn_ready (rs := [5]) (by kernel_rfl) (by simp) ?_
              refine AllReadyIn.cons rfl (fun K hK => ?_) ?_
              · go_simp
                refine hK _ _ ?_
                clear hK K
                try simp only [Act.put, List.setIfInBounds_toArray, List.set_cons_zero, List.set_cons_succ]
                refine wpAnyIn_ready (rs := [6]) (by kernel_rfl) (by simp) ?_
                refine AllReadyIn.cons rfl (fun K hK => ?_) ?_
                · refine stepIn_append rfl _ _ 94 rfl v _ _ rfl rfl hap ?_
                  refine hK _ _ ?_
                  clear hK K
                  try simp only [Act.put, List.setIfInBounds_toArray]
                  refine wpAnyIn_ready (rs := [7]) (by kernel_rfl) (by simp) ?_
                  refine AllReadyIn.cons rfl (fun K hK => ?_) ?_
                  · go_simp
                    refine hK _ _ ?_
                    clear hK K
                    refine wpAnyIn_done (by kernel_rfl) ?_ _
                    gi_wp2
                    have R := text_round (BB := w1.heap.size + 1 + 1 + 1 + 1) HBW.out hsW HB.out hbw HGR.out HOB.out HOW.out cX3 fX3 hcs hct
                    refine ⟨?_, R.2.1, ?_⟩
                    · simp only [World.size_alloc]; exact R.1
                    · dsimp only
                      rw [HM.out, List.length_append, hpl]
                      exact R.2.2
                  exact AllReadyIn.nil
                exact AllReadyIn.nil
              exact AllReadyIn.nil
            exact AllReadyIn.nil
          exact AllReadyIn.nil
        exact AllReadyIn.nil
      refine AllReadyIn.cons rfl (fun K hK => ?_) ?_
      · go_simp
        refine hK _ _ ?_
        clear hK K
        try simp only [Act.put, List.setIfInBounds_toArray, List.set_cons_zero, List.set_cons_succ]
        refine wpAnyIn_ready (rs := [1, 2]) (by kernel_rfl) (by simp) ?_
        refine AllReadyIn.cons rfl (fun K hK => ?_) ?_
        · go_simp
          refine hK _ _ ?_
          clear hK K
          try simp only [Act.put, List.setIfInBounds_toArray, List.set_cons_zero, List.set_cons_succ]
          refine wpAnyIn_ready (rs := [2]) (by kernel_rfl) (by simp) ?_
          refine AllReadyIn.cons rfl (fun K hK => ?_) ?_
          · go_simp
            refine hK _ _ ?_
            clear hK K
            try simp only [Act.put, List.setIfInBounds_toArray, List.set_cons_zero, List.set_cons_succ]
            refine wpAnyIn_ready (rs := [4]) (by kernel_rfl) (by simp) ?_
            refine AllReadyIn.cons rfl (fun K hK => ?_) ?_
            · go_simp
              (refine ⟨trivial, ?_⟩; gi_at_call 41; refine (CallsIn.inRound l (callsIn_wide.2 IC.out)).mono ?_; rintro e w' ⟨rfl, hb1⟩; clear IC; have hbW : Below W.heap.size W w' := (Below.refl _ W).drew.trans hb1; have HBW := hidden hbW; have cX : w'.cell? ⟨w1.heap.size, 0, none⟩ = some v := (hbW.cell (p := ⟨w1.heap.size, 0, none⟩) hX).trans hcx; have fX : w'.frozen? ⟨w1.heap.size, 0, none⟩ = false := (hbW.frozen (p := ⟨w1.heap.size, 0, none⟩) hX).trans hfx; have cX2 := keepCell cX (.cells #[.string u] 9); have hrw := ownsRow_stays HROW.out (Below.by hbW) (fun r e => by cases e); obtain ⟨g, cap, w2, hap, how, hgr, hob⟩ := push_text w' (w1.heap.size + 1 + 1 + 1 + 1) v k (txL N A T m pre) u hrw HL.out (Nat.le_trans hsW hbW.size); have HOB := hidden hob; clear hob; have hw2 : w1.heap.size < w'.heap.size := Nat.lt_of_lt_of_le hX hbW.size; have hbl : w2.heap[w1.heap.size]? = (w'.alloc (.cells #[.string u] 9)).heap[w1.heap.size]? := hgr.block _ (Nat.lt_of_lt_of_le hw2 (by simp)) (fun e => by have := (HOB.out _ e.symm).1; omega); have cX3 : w2.cell? ⟨w1.heap.size, 0, none⟩ = some v := (World.cell?_of_block (a := ⟨w1.heap.size, 0, none⟩) hbl).trans cX2; have fX3 : w2.frozen? ⟨w1.heap.size, 0, none⟩ = false := (World.frozen?_of_block (a := ⟨w1.heap.size, 0, none⟩) hbl).trans (((alloc_below w' _).frozen (p := ⟨w1.heap.size, 0, none⟩) hw2).trans fX); have HOW := hidden how; have HGR := hidden hgr; clear hb1 hbW how hgr hbl hrw)
              dsimp only
              refine hK _ _ ?_
              clear hK K
              try simp only [Act.put, List.setIfInBounds_toArray, List.set_cons_zero, List.set_cons_succ]
              refine wpAnyIn_ready (rs := [5]) (by kernel_rfl) (by simp) ?_
              refine AllReadyIn.cons rfl (fun K hK => ?_) ?_
              · go_simp
                refine hK _ _ ?_
                clear hK K
                try simp only [Act.put, List.setIfInBounds_toArray, List.set_cons_zero, List.set_cons_succ]
                refine wpAnyIn_ready (rs := [6]) (by kernel_rfl) (by simp) ?_
                refine AllReadyIn.cons rfl (fun K hK => ?_) ?_
                · refine stepIn_append rfl _ _ 94 rfl v _ _ rfl rfl hap ?_
                  refine hK _ _ ?_
                  clear hK K
                  try simp only [Act.put, List.setIfInBounds_toArray]
                  refine wpAnyIn_ready (rs := [7]) (by kernel_rfl) (by simp) ?_
                  refine AllReadyIn.cons rfl (fun K hK => ?_) ?_
                  · go_simp
                    refine hK _ _ ?_
                    clear hK K
                    refine wpAnyIn_done (by kernel_rfl) ?_ _
                    gi_wp2
                    have R := text_round (BB := w1.heap.size + 1 + 1 + 1 + 1) HBW.out hsW HB.out hbw HGR.out HOB.out HOW.out cX3 fX3 hcs hct
                    refine ⟨?_, R.2.1, ?_⟩
                    · simp only [World.size_alloc]; exact R.1
                    · dsimp only
                      rw [HM.out, List.length_append, hpl]
                      exact R.2.2
                  exact AllReadyIn.nil
                exact AllReadyIn.nil
              exact AllReadyIn.nil
            exact AllReadyIn.nil
          exact AllReadyIn.nil
        refine AllReadyIn.cons rfl (fun K hK => ?_) ?_
        · go_simp
          refine hK _ _ ?_
          clear hK K
          try simp only [Act.put, List.setIfInBounds_toArray, List.set_cons_zero, List.set_cons_succ]
          refine wpAnyIn_ready (rs := [1]) (by kernel_rfl) (by simp) ?_
          refine AllReadyIn.cons rfl (fun K hK => ?_) ?_
          · go_simp
            refine hK _ _ ?_
            clear hK K
            try simp only [Act.put, List.setIfInBounds_toArray, List.set_cons_zero, List.set_cons_succ]
            refine wpAnyIn_ready (rs := [4]) (by kernel_rfl) (by simp) ?_
            refine AllReadyIn.cons rfl (fun K hK => ?_) ?_
            · go_simp
              (refine ⟨trivial, ?_⟩; gi_at_call 41; refine (CallsIn.inRound l (callsIn_wide.2 IC.out)).mono ?_; rintro e w' ⟨rfl, hb1⟩; clear IC; have hbW : Below W.heap.size W w' := (Below.refl _ W).drew.trans hb1; have HBW := hidden hbW; have cX : w'.cell? ⟨w1.heap.size, 0, none⟩ = some v := (hbW.cell (p := ⟨w1.heap.size, 0, none⟩) hX).trans hcx; have fX : w'.frozen? ⟨w1.heap.size, 0, none⟩ = false := (hbW.frozen (p := ⟨w1.heap.size, 0, none⟩) hX).trans hfx; have cX2 := keepCell cX (.cells #[.string u] 9); have hrw := ownsRow_stays HROW.out (Below.by hbW) (fun r e => by cases e); obtain ⟨g, cap, w2, hap, how, hgr, hob⟩ := push_text w' (w1.heap.size + 1 + 1 + 1 + 1) v k (txL N A T m pre) u hrw HL.out (Nat.le_trans hsW hbW.size); have HOB := hidden hob; clear hob; have hw2 : w1.heap.size < w'.heap.size := Nat.lt_of_lt_of_le hX hbW.size; have hbl : w2.heap[w1.heap.size]? = (w'.alloc (.cells #[.string u] 9)).heap[w1.heap.size]? := hgr.block _ (Nat.lt_of_lt_of_le hw2 (by simp)) (fun e => by have := (HOB.out _ e.symm).1; omega); have cX3 : w2.cell? ⟨w1.heap.size, 0, none⟩ = some v := (World.cell?_of_block (a := ⟨w1.heap.size, 0, none⟩) hbl).trans cX2; have fX3 : w2.frozen? ⟨w1.heap.size, 0, none⟩ = false := (World.frozen?_of_block (a := ⟨w1.heap.size, 0, none⟩) hbl).trans (((alloc_below w' _).frozen (p := ⟨w1.heap.size, 0, none⟩) hw2).trans fX); have HOW := hidden how; have HGR := hidden hgr; clear hb1 hbW how hgr hbl hrw)
              dsimp only
              refine hK _ _ ?_
              clear hK K
              try simp only [Act.put, List.setIfInBounds_toArray, List.set_cons_zero, List.set_cons_succ]
              refine wpAnyIn_ready (rs := [5]) (by kernel_rfl) (by simp) ?_
              refine AllReadyIn.cons rfl (fun K hK => ?_) ?_
              · go_simp
                refine hK _ _ ?_
                clear hK K
                try simp only [Act.put, List.setIfInBounds_toArray, List.set_cons_zero, List.set_cons_succ]
                refine wpAnyIn_ready (rs := [6]) (by kernel_rfl) (by simp) ?_
                refine AllReadyIn.cons rfl (fun K hK => ?_) ?_
                · refine stepIn_append rfl _ _ 94 rfl v _ _ rfl rfl hap ?_
                  refine hK _ _ ?_
                  clear hK K
                  try simp only [Act.put, List.setIfInBounds_toArray]
                  refine wpAnyIn_ready (rs := [7]) (by kernel_rfl) (by simp) ?_
                  refine AllReadyIn.cons rfl (fun K hK => ?_) ?_
                  · go_simp
                    refine hK _ _ ?_
                    clear hK K
                    refine wpAnyIn_done (by kernel_rfl) ?_ _
                    gi_wp2
                    have R := text_round (BB := w1.heap.size + 1 + 1 + 1 + 1) HBW.out hsW HB.out hbw HGR.out HOB.out HOW.out cX3 fX3 hcs hct
                    refine ⟨?_, R.2.1, ?_⟩
                    · simp only [World.size_alloc]; exact R.1
                    · dsimp only
                      rw [HM.out, List.length_append, hpl]
                      exact R.2.2
                  exact AllReadyIn.nil
                exact AllReadyIn.nil
              exact AllReadyIn.nil
            exact AllReadyIn.nil
          exact AllReadyIn.nil
        exact AllReadyIn.nil
      exact AllReadyIn.nil
    refine AllReadyIn.cons rfl (fun K hK => ?_) ?_
    · go_simp
      refine hK _ _ ?_
      clear hK K
      try simp only [Act.put, List.setIfInBounds_toArray, List.set_cons_zero, List.set_cons_succ]
      refine wpAnyIn_ready (rs := [0, 2, 3]) (by kernel_rfl) (by simp) ?_
      refine AllReadyIn.cons rfl (fun K hK => ?_) ?_
      · go_simp
        refine hK _ _ ?_
        clear hK K
        try simp only [Act.put, List.setIfInBounds_toArray, List.set_cons_zero, List.set_cons_succ]
        refine wpAnyIn_ready (rs := [2, 3]) (by kernel_rfl) (by simp) ?_
        refine AllReadyIn.cons rfl (fun K hK => ?_) ?_
        · go_simp
          refine hK _ _ ?_
          clear hK K
          try simp only [Act.put, List.setIfInBounds_toArray, List.set_cons_zero, List.set_cons_succ]
          refine wpAnyIn_ready (rs := [3]) (by kernel_rfl) (by simp) ?_
          refine AllReadyIn.cons rfl (fun K hK => ?_) ?_
          · go_simp
            refine hK _ _ ?_
            clear hK K
            try simp only [Act.put, List.setIfInBounds_toArray, List.set_cons_zero, List.set_cons_succ]
            refine wpAnyIn_ready (rs := [4]) (by kernel_rfl) (by simp) ?_
            refine AllReadyIn.cons rfl (fun K hK => ?_) ?_
            · go_simp
              (refine ⟨trivial, ?_⟩; gi_at_call 41; refine (CallsIn.inRound l (callsIn_wide.2 IC.out)).mono ?_; rintro e w' ⟨rfl, hb1⟩; clear IC; have hbW : Below W.heap.size W w' := (Below.refl _ W).drew.trans hb1; have HBW := hidden hbW; have cX : w'.cell? ⟨w1.heap.size, 0, none⟩ = some v := (hbW.cell (p := ⟨w1.heap.size, 0, none⟩) hX).trans hcx; have fX : w'.frozen? ⟨w1.heap.size, 0, none⟩ = false := (hbW.frozen (p := ⟨w1.heap.size, 0, none⟩) hX).trans hfx; have cX2 := keepCell cX (.cells #[.string u] 9); have hrw := ownsRow_stays HROW.out (Below.by hbW) (fun r e => by cases e); obtain ⟨g, cap, w2, hap, how, hgr, hob⟩ := push_text w' (w1.heap.size + 1 + 1 + 1 + 1) v k (txL N A T m pre) u hrw HL.out (Nat.le_trans hsW hbW.size); have HOB := hidden hob; clear hob; have hw2 : w1.heap.size < w'.heap.size := Nat.lt_of_lt_of_le hX hbW.size; have hbl : w2.heap[w1.heap.size]? = (w'.alloc (.cells #[.string u] 9)).heap[w1.heap.size]? := hgr.block _ (Nat.lt_of_lt_of_le hw2 (by simp)) (fun e => by have := (HOB.out _ e.symm).1; omega); have cX3 : w2.cell? ⟨w1.heap.size, 0, none⟩ = some v := (World.cell?_of_block (a := ⟨w1.heap.size, 0, none⟩) hbl).trans cX2; have fX3 : w2.frozen? ⟨w1.heap.size, 0, none⟩ = false := (World.frozen?_of_block (a := ⟨w1.heap.size, 0, none⟩) hbl).trans (((alloc_below w' _).frozen (p := ⟨w1.heap.size, 0, none⟩) hw2).trans fX); have HOW := hidden how; have HGR := hidden hgr; clear hb1 hbW how hgr hbl hrw)
              dsimp only
              refine hK _ _ ?_
              clear hK K
              try simp only [Act.put, List.setIfInBounds_toArray, List.set_cons_zero, List.set_cons_succ]
              refine wpAnyIn_ready (rs := [5]) (by kernel_rfl) (by simp) ?_
              refine AllReadyIn.cons rfl (fun K hK => ?_) ?_
              · go_simp
                refine hK _ _ ?_
                clear hK K
                try simp only [Act.put, List.setIfInBounds_toArray, List.set_cons_zero, List.set_cons_succ]
                refine wpAnyIn_ready (rs := [6]) (by kernel_rfl) (by simp) ?_
                refine AllReadyIn.cons rfl (fun K hK => ?_) ?_
                · refine stepIn_append rfl _ _ 94 rfl v _ _ rfl rfl hap ?_
                  refine hK _ _ ?_
                  clear hK K
                  try simp only [Act.put, List.setIfInBounds_toArray]
                  refine wpAnyIn_ready (rs := [7]) (by kernel_rfl) (by simp) ?_
                  refine AllReadyIn.cons rfl (fun K hK => ?_) ?_
                  · go_simp
                    refine hK _ _ ?_
                    clear hK K
                    refine wpAnyIn_done (by kernel_rfl) ?_ _
                    gi_wp2
                    have R := text_round (BB := w1.heap.size + 1 + 1 + 1 + 1) HBW.out hsW HB.out hbw HGR.out HOB.out HOW.out cX3 fX3 hcs hct
                    refine ⟨?_, R.2.1, ?_⟩
                    · simp only [World.size_alloc]; exact R.1
                    · dsimp only
                      rw [HM.out, List.length_append, hpl]
                      exact R.2.2
                  exact AllReadyIn.nil
                exact AllReadyIn.nil
              exact AllReadyIn.nil
            exact AllReadyIn.nil
          exact AllReadyIn.nil
        refine AllReadyIn.cons rfl (fun K hK => ?_) ?_
        · go_simp
          refine hK _ _ ?_
          clear hK K
          try simp only [Act.put, List.setIfInBounds_toArray, List.set_cons_zero, List.set_cons_succ]
          refine wpAnyIn_ready (rs := [2]) (by kernel_rfl) (by simp) ?_
          refine AllReadyIn.cons rfl (fun K hK => ?_) ?_
          · go_simp
            refine hK _ _ ?_
            clear hK K
            try simp only [Act.put, List.setIfInBounds_toArray, List.set_cons_zero, List.set_cons_succ]
            refine wpAnyIn_ready (rs := [4]) (by kernel_rfl) (by simp) ?_
            refine AllReadyIn.cons rfl (fun K hK => ?_) ?_
            · go_simp
              (refine ⟨trivial, ?_⟩; gi_at_call 41; refine (CallsIn.inRound l (callsIn_wide.2 IC.out)).mono ?_; rintro e w' ⟨rfl, hb1⟩; clear IC; have hbW : Below W.heap.size W w' := (Below.refl _ W).drew.trans hb1; have HBW := hidden hbW; have cX : w'.cell? ⟨w1.heap.size, 0, none⟩ = some v := (hbW.cell (p := ⟨w1.heap.size, 0, none⟩) hX).trans hcx; have fX : w'.frozen? ⟨w1.heap.size, 0, none⟩ = false := (hbW.frozen (p := ⟨w1.heap.size, 0, none⟩) hX).trans hfx; have cX2 := keepCell cX (.cells #[.string u] 9); have hrw := ownsRow_stays HROW.out (Below.by hbW) (fun r e => by cases e); obtain ⟨g, cap, w2, hap, how, hgr, hob⟩ := push_text w' (w1.heap.size + 1 + 1 + 1 + 1) v k (txL N A T m pre) u hrw HL.out (Nat.le_trans hsW hbW.size); have HOB := hidden hob; clear hob; have hw2 : w1.heap.size < w'.heap.size := Nat.lt_of_lt_of_le hX hbW.size; have hbl : w2.heap[w1.heap.size]? = (w'.alloc (.cells #[.string u] 9)).heap[w1.heap.size]? := hgr.block _ (Nat.lt_of_lt_of_le hw2 (by simp)) (fun e => by have := (HOB.out _ e.symm).1; omega); have cX3 : w2.cell? ⟨w1.heap.size, 0, none⟩ = some v := (World.cell?_of_block (a := ⟨w1.heap.size, 0, none⟩) hbl).trans cX2; have fX3 : w2.frozen? ⟨w1.heap.size, 0, none⟩ = false := (World.frozen?_of_block (a := ⟨w1.heap.size, 0, none⟩) hbl).trans (((alloc_below w' _).frozen (p := ⟨w1.heap.size, 0, none⟩) hw2).trans fX); have HOW := hidden how; have HGR := hidden hgr; clear hb1 hbW how hgr hbl hrw)
              dsimp only
              refine hK _ _ ?_
              clear hK K
              try simp only [Act.put, List.setIfInBounds_toArray, List.set_cons_zero, List.set_cons_succ]
              refine wpAnyIn_ready (rs := [5]) (by kernel_rfl) (by simp) ?_
              refine AllReadyIn.cons rfl (fun K hK => ?_) ?_
              · go_simp
                refine hK _ _ ?_
                clear hK K
                try simp only [Act.put, List.setIfInBounds_toArray, List.set_cons_zero, List.set_cons_succ]
                refine wpAnyIn_ready (rs := [6]) (by kernel_rfl) (by simp) ?_
                refine AllReadyIn.cons rfl (fun K hK => ?_) ?_
                · refine stepIn_append rfl _ _ 94 rfl v _ _ rfl rfl hap ?_
                  refine hK _ _ ?_
                  clear hK K
                  try simp only [Act.put, List.setIfInBounds_toArray]
                  refine wpAnyIn_ready (rs := [7]) (by kernel_rfl) (by simp) ?_
                  refine AllReadyIn.cons rfl (fun K hK => ?_) ?_
                  · go_simp
                    refine hK _ _ ?_
                    clear hK K
                    refine wpAnyIn_done (by kernel_rfl) ?_ _
                    gi_wp2
                    have R := text_round (BB := w1.heap.size + 1 + 1 + 1 + 1) HBW.out hsW HB.out hbw HGR.out HOB.out HOW.out cX3 fX3 hcs hct
                    refine ⟨?_, R.2.1, ?_⟩
                    · simp only [World.size_alloc]; exact R.1
                    · dsimp only
                      rw [HM.out, List.length_append, hpl]
                      exact R.2.2
                  exact AllReadyIn.nil
                exact AllReadyIn.nil
              exact AllReadyIn.nil
            exact AllReadyIn.nil
          exact AllReadyIn.nil
        exact AllReadyIn.nil
      refine AllReadyIn.cons rfl (fun K hK => ?_) ?_
      · go_simp
        refine hK _ _ ?_
        clear hK K
        try simp only [Act.put, List.setIfInBounds_toArray, List.set_cons_zero, List.set_cons_succ]
        refine wpAnyIn_ready (rs := [0, 3]) (by kernel_rfl) (by simp) ?_
        refine AllReadyIn.cons rfl (fun K hK => ?_) ?_
        · go_simp
          refine hK _ _ ?_
          clear hK K
          try simp only [Act.put, List.setIfInBounds_toArray, List.set_cons_zero, List.set_cons_succ]
          refine wpAnyIn_ready (rs := [3]) (by kernel_rfl) (by simp) ?_
          refine AllReadyIn.cons rfl (fun K hK => ?_) ?_
          · go_simp
            refine hK _ _ ?_
            clear hK K
            try simp only [Act.put, List.setIfInBounds_toArray, List.set_cons_zero, List.set_cons_succ]
            refine wpAnyIn_ready (rs := [4]) (by kernel_rfl) (by simp) ?_
            refine AllReadyIn.cons rfl (fun K hK => ?_) ?_
            · go_simp
              (refine ⟨trivial, ?_⟩; gi_at_call 41; refine (CallsIn.inRound l (callsIn_wide.2 IC.out)).mono ?_; rintro e w' ⟨rfl, hb1⟩; clear IC; have hbW : Below W.heap.size W w' := (Below.refl _ W).drew.trans hb1; have HBW := hidden hbW; have cX : w'.cell? ⟨w1.heap.size, 0, none⟩ = some v := (hbW.cell (p := ⟨w1.heap.size, 0, none⟩) hX).trans hcx; have fX : w'.frozen? ⟨w1.heap.size, 0, none⟩ = false := (hbW.frozen (p := ⟨w1.heap.size, 0, none⟩) hX).trans hfx; have cX2 := keepCell cX (.cells #[.string u] 9); have hrw := ownsRow_stays HROW.out (Below.by hbW) (fun r e => by cases e); obtain ⟨g, cap, w2, hap, how, hgr, hob⟩ := push_text w' (w1.heap.size + 1 + 1 + 1 + 1) v k (txL N A T m pre) u hrw HL.out (Nat.le_trans hsW hbW.size); have HOB := hidden hob; clear hob; have hw2 : w1.heap.size < w'.heap.size := Nat.lt_of_lt_of_le hX hbW.size; have hbl : w2.heap[w1.heap.size]? = (w'.alloc (.cells #[.string u] 9)).heap[w1.heap.size]? := hgr.block _ (Nat.lt_of_lt_of_le hw2 (by simp)) (fun e => by have := (HOB.out _ e.symm).1; omega); have cX3 : w2.cell? ⟨w1.heap.size, 0, none⟩ = some v := (World.cell?_of_block (a := ⟨w1.heap.size, 0, none⟩) hbl).trans cX2; have fX3 : w2.frozen? ⟨w1.heap.size, 0, none⟩ = false := (World.frozen?_of_block (a := ⟨w1.heap.size, 0, none⟩) hbl).trans (((alloc_below w' _).frozen (p := ⟨w1.heap.size, 0, none⟩) hw2).trans fX); have HOW := hidden how; have HGR := hidden hgr; clear hb1 hbW how hgr hbl hrw)
              dsimp only
              refine hK _ _ ?_
              clear hK K
              try simp only [Act.put, List.setIfInBounds_toArray, List.set_cons_zero, List.set_cons_succ]
              refine wpAnyIn_ready (rs := [5]) (by kernel_rfl) (by simp) ?_
              refine AllReadyIn.cons rfl (fun K hK => ?_) ?_
              · go_simp
                refine hK _ _ ?_
                clear hK K
                try simp only [Act.put, List.setIfInBounds_toArray, List.set_cons_zero, List.set_cons_succ]
                refine wpAnyIn_ready (rs := [6]) (by kernel_rfl) (by simp) ?_
                refine AllReadyIn.cons rfl (fun K hK => ?_) ?_
                · refine stepIn_append rfl _ _ 94 rfl v _ _ rfl rfl hap ?_
                  refine hK _ _ ?_
                  clear hK K
                  try simp only [Act.put, List.setIfInBounds_toArray]
                  refine wpAnyIn_ready (rs := [7]) (by kernel_rfl) (by simp) ?_
                  refine AllReadyIn.cons rfl (fun K hK => ?_) ?_
                  · go_simp
                    refine hK _ _ ?_
                    clear hK K
                    refine wpAnyIn_done (by kernel_rfl) ?_ _
                    gi_wp2
                    have R := text_round (BB := w1.heap.size + 1 + 1 + 1 + 1) HBW.out hsW HB.out hbw HGR.out HOB.out HOW.out cX3 fX3 hcs hct
                    refine ⟨?_, R.2.1, ?_⟩
                    · simp only [World.size_alloc]; exact R.1
                    · dsimp only
                      rw [HM.out, List.length_append, hpl]
                      exact R.2.2
                  exact AllReadyIn.nil
                exact AllReadyIn.nil
              exact AllReadyIn.nil
            exact AllReadyIn.nil
          exact AllReadyIn.nil
        refine AllReadyIn.cons rfl (fun K hK => ?_) ?_
        · go_simp
          refine hK _ _ ?_
          clear hK K
          try simp only [Act.put, List.setIfInBounds_toArray, List.set_cons_zero, List.set_cons_succ]
          refine wpAnyIn_ready (rs := [0, 4]) (by kernel_rfl) (by simp) ?_
          refine AllReadyIn.cons rfl (fun K hK => ?_) ?_
          · go_simp
            refine hK _ _ ?_
            clear hK K
            try simp only [Act.put, List.setIfInBounds_toArray, List.set_cons_zero, List.set_cons_succ]
            refine wpAnyIn_ready (rs := [4]) (by kernel_rfl) (by simp) ?_
            refine AllReadyIn.cons rfl (fun K hK => ?_) ?_
            · go_simp
              (refine ⟨trivial, ?_⟩; gi_at_call 41; refine (CallsIn.inRound l (callsIn_wide.2 IC.out)).mono ?_; rintro e w' ⟨rfl, hb1⟩; clear IC; have hbW : Below W.heap.size W w' := (Below.refl _ W).drew.trans hb1; have HBW := hidden hbW; have cX : w'.cell? ⟨w1.heap.size, 0, none⟩ = some v := (hbW.cell (p := ⟨w1.heap.size, 0, none⟩) hX).trans hcx; have fX : w'.frozen? ⟨w1.heap.size, 0, none⟩ = false := (hbW.frozen (p := ⟨w1.heap.size, 0, none⟩) hX).trans hfx; have cX2 := keepCell cX (.cells #[.string u] 9); have hrw := ownsRow_stays HROW.out (Below.by hbW) (fun r e => by cases e); obtain ⟨g, cap, w2, hap, how, hgr, hob⟩ := push_text w' (w1.heap.size + 1 + 1 + 1 + 1) v k (txL N A T m pre) u hrw HL.out (Nat.le_trans hsW hbW.size); have HOB := hidden hob; clear hob; have hw2 : w1.heap.size < w'.heap.size := Nat.lt_of_lt_of_le hX hbW.size; have hbl : w2.heap[w1.heap.size]? = (w'.alloc (.cells #[.string u] 9)).heap[w1.heap.size]? := hgr.block _ (Nat.lt_of_lt_of_le hw2 (by simp)) (fun e => by have := (HOB.out _ e.symm).1; omega); have cX3 : w2.cell? ⟨w1.heap.size, 0, none⟩ = some v := (World.cell?_of_block (a := ⟨w1.heap.size, 0, none⟩) hbl).trans cX2; have fX3 : w2.frozen? ⟨w1.heap.size, 0, none⟩ = false := (World.frozen?_of_block (a := ⟨w1.heap.size, 0, none⟩) hbl).trans (((alloc_below w' _).frozen (p := ⟨w1.heap.size, 0, none⟩) hw2).trans fX); have HOW := hidden how; have HGR := hidden hgr; clear hb1 hbW how hgr hbl hrw)
              dsimp only
              refine hK _ _ ?_
              clear hK K
              try simp only [Act.put, List.setIfInBounds_toArray, List.set_cons_zero, List.set_cons_succ]
              refine wpAnyIn_ready (rs := [5]) (by kernel_rfl) (by simp) ?_
              refine AllReadyIn.cons rfl (fun K hK => ?_) ?_
              · go_simp
                refine hK _ _ ?_
                clear hK K
                try simp only [Act.put, List.setIfInBounds_toArray, List.set_cons_zero, List.set_cons_succ]
                refine wpAnyIn_ready (rs := [6]) (by kernel_rfl) (by simp) ?_
                refine AllReadyIn.cons rfl (fun K hK => ?_) ?_
                · refine stepIn_append rfl _ _ 94 rfl v _ _ rfl rfl hap ?_
                  refine hK _ _ ?_
                  clear hK K
                  try simp only [Act.put, List.setIfInBounds_toArray]
                  refine wpAnyIn_ready (rs := [7]) (by kernel_rfl) (by simp) ?_
                  refine AllReadyIn.cons rfl (fun K hK => ?_) ?_
                  · go_simp
                    refine hK _ _ ?_
                    clear hK K
                    refine wpAnyIn_done (by kernel_rfl) ?_ _
                    gi_wp2
                    have R := text_round (BB := w1.heap.size + 1 + 1 + 1 + 1) HBW.out hsW HB.out hbw HGR.out HOB.out HOW.out cX3 fX3 hcs hct
                    refine ⟨?_, R.2.1, ?_⟩
                    · simp only [World.size_alloc]; exact R.1
                    · dsimp only
                      rw [HM.out, List.length_append, hpl]
                      exact R.2.2
                  exact AllReadyIn.nil
                exact AllReadyIn.nil
              exact AllReadyIn.nil
            exact AllReadyIn.nil
          refine AllReadyIn.cons rfl (fun K hK => ?_) ?_
          · go_simp
            (refine ⟨trivial, ?_⟩; gi_at_call 41; refine (CallsIn.inRound l (callsIn_wide.2 IC.out)).mono ?_; rintro e w' ⟨rfl, hb1⟩; clear IC; have hbW : Below W.heap.size W w' := (Below.refl _ W).drew.trans hb1; have HBW := hidden hbW; have cX : w'.cell? ⟨w1.heap.size, 0, none⟩ = some v := (hbW.cell (p := ⟨w1.heap.size, 0, none⟩) hX).trans hcx; have fX : w'.frozen? ⟨w1.heap.size, 0, none⟩ = false := (hbW.frozen (p := ⟨w1.heap.size, 0, none⟩) hX).trans hfx; have cX2 := keepCell cX (.cells #[.string u] 9); have hrw := ownsRow_stays HROW.out (Below.by hbW) (fun r e => by cases e); obtain ⟨g, cap, w2, hap, how, hgr, hob⟩ := push_text w' (w1.heap.size + 1 + 1 + 1 + 1) v k (txL N A T m pre) u hrw HL.out (Nat.le_trans hsW hbW.size); have HOB := hidden hob; clear hob; have hw2 : w1.heap.size < w'.heap.size := Nat.lt_of_lt_of_le hX hbW.size; have hbl : w2.heap[w1.heap.size]? = (w'.alloc (.cells #[.string u] 9)).heap[w1.heap.size]? := hgr.block _ (Nat.lt_of_lt_of_le hw2 (by simp)) (fun e => by have := (HOB.out _ e.symm).1; omega); have cX3 : w2.cell? ⟨w1.heap.size, 0, none⟩ = some v := (World.cell?_of_block (a := ⟨w1.heap.size, 0, none⟩) hbl).trans cX2; have fX3 : w2.frozen? ⟨w1.heap.size, 0, none⟩ = false := (World.frozen?_of_block (a := ⟨w1.heap.size, 0, none⟩) hbl).trans (((alloc_below w' _).frozen (p := ⟨w1.heap.size, 0, none⟩) hw2).trans fX); have HOW := hidden how; have HGR := hidden hgr; clear hb1 hbW how hgr hbl hrw)
            dsimp only
            refine hK _ _ ?_
            clear hK K
            try simp only [Act.put, List.setIfInBounds_toArray, List.set_cons_zero, List.set_cons_succ]
            refine wpAnyIn_ready (rs := [0, 5]) (by kernel_rfl) (by simp) ?_
            refine AllReadyIn.cons rfl (fun K hK => ?_) ?_
            · go_simp
              refine hK _ _ ?_
              clear hK K
              try simp only [Act.put, List.setIfInBounds_toArray, List.set_cons_zero, List.set_cons_succ]
              refine wpAnyIn_ready (rs := [5]) (by kernel_rfl) (by simp) ?_
              refine AllReadyIn.cons rfl (fun K hK => ?_) ?_
              · go_simp
                refine hK _ _ ?_
                clear hK K
                try simp only [Act.put, List.setIfInBounds_toArray, List.set_cons_zero, List.set_cons_succ]
                refine wpAnyIn_ready (rs := [6]) (by kernel_rfl) (by simp) ?_
                refine AllReadyIn.cons rfl (fun K hK => ?_) ?_
                · refine stepIn_append rfl _ _ 94 rfl v _ _ rfl rfl hap ?_
                  refine hK _ _ ?_
                  clear hK K
                  try simp only [Act.put, List.setIfInBounds_toArray]
                  refine wpAnyIn_ready (rs := [7]) (by kernel_rfl) (by simp) ?_
                  refine AllReadyIn.cons rfl (fun K hK => ?_) ?_
                  · go_simp
                    refine hK _ _ ?_
                    clear hK K
                    refine wpAnyIn_done (by kernel_rfl) ?_ _
                    gi_wp2
                    have R := text_round (BB := w1.heap.size + 1 + 1 + 1 + 1) HBW.out hsW HB.out hbw HGR.out HOB.out HOW.out cX3 fX3 hcs hct
                    refine ⟨?_, R.2.1, ?_⟩
                    · simp only [World.size_alloc]; exact R.1
                    · dsimp only
                      rw [HM.out, List.length_append, hpl]
                      exact R.2.2
                  exact AllReadyIn.nil
                exact AllReadyIn.nil
              exact AllReadyIn.nil
            refine AllReadyIn.cons rfl (fun K hK => ?_) ?_
            · go_simp
              refine hK _ _ ?_
              clear hK K
              try simp only [Act.put, List.setIfInBounds_toArray, List.set_cons_zero, List.set_cons_succ]
              refine wpAnyIn_ready (rs := [0]) (by kernel_rfl) (by simp) ?_
              refine AllReadyIn.cons rfl (fun K hK => ?_) ?_
              · go_simp
                refine hK _ _ ?_
                clear hK K
                try simp only [Act.put, List.setIfInBounds_toArray, List.set_cons_zero, List.set_cons_succ]
                refine wpAnyIn_ready (rs := [6]) (by kernel_rfl) (by simp) ?_
                refine AllReadyIn.cons rfl (fun K hK => ?_) ?_
                · refine stepIn_append rfl _ _ 94 rfl v _ _ rfl rfl hap ?_
                  refine hK _ _ ?_
                  clear hK K
                  try simp only [Act.put, List.setIfInBounds_toArray]
                  refine wpAnyIn_ready (rs := [7]) (by kernel_rfl) (by simp) ?_
                  refine AllReadyIn.cons rfl (fun K hK => ?_) ?_
                  · go_simp
                    refine hK _ _ ?_
                    clear hK K
                    refine wpAnyIn_done (by kernel_rfl) ?_ _
                    gi_wp2
                    have R := text_round (BB := w1.heap.size + 1 + 1 + 1 + 1) HBW.out hsW HB.out hbw HGR.out HOB.out HOW.out cX3 fX3 hcs hct
                    refine ⟨?_, R.2.1, ?_⟩
                    · simp only [World.size_alloc]; exact R.1
                    · dsimp only
                      rw [HM.out, List.length_append, hpl]
                      exact R.2.2
                  exact AllReadyIn.nil
                exact AllReadyIn.nil
              exact AllReadyIn.nil
            exact AllReadyIn.nil
          exact AllReadyIn.nil
        exact AllReadyIn.nil
      refine AllReadyIn.cons rfl (fun K hK => ?_) ?_
      · go_simp
        refine hK _ _ ?_
        clear hK K
        try simp only [Act.put, List.setIfInBounds_toArray, List.set_cons_zero, List.set_cons_succ]
        refine wpAnyIn_ready (rs := [0, 2]) (by kernel_rfl) (by simp) ?_
        refine AllReadyIn.cons rfl (fun K hK => ?_) ?_
        · go_simp
          refine hK _ _ ?_
          clear hK K
          try simp only [Act.put, List.setIfInBounds_toArray, List.set_cons_zero, List.set_cons_succ]
          refine wpAnyIn_ready (rs := [2]) (by kernel_rfl) (by simp) ?_
          refine AllReadyIn.cons rfl (fun K hK => ?_) ?_
          · go_simp
            refine hK _ _ ?_
            clear hK K
            try simp only [Act.put, List.setIfInBounds_toArray, List.set_cons_zero, List.set_cons_succ]
            refine wpAnyIn_ready (rs := [4]) (by kernel_rfl) (by simp) ?_
            refine AllReadyIn.cons rfl (fun K hK => ?_) ?_
            · go_simp
              (refine ⟨trivial, ?_⟩; gi_at_call 41; refine (CallsIn.inRound l (callsIn_wide.2 IC.out)).mono ?_; rintro e w' ⟨rfl, hb1⟩; clear IC; have hbW : Below W.heap.size W w' := (Below.refl _ W).drew.trans hb1; have HBW := hidden hbW; have cX : w'.cell? ⟨w1.heap.size, 0, none⟩ = some v := (hbW.cell (p := ⟨w1.heap.size, 0, none⟩) hX).trans hcx; have fX : w'.frozen? ⟨w1.heap.size, 0, none⟩ = false := (hbW.frozen (p := ⟨w1.heap.size, 0, none⟩) hX).trans hfx; have cX2 := keepCell cX (.cells #[.string u] 9); have hrw := ownsRow_stays HROW.out (Below.by hbW) (fun r e => by cases e); obtain ⟨g, cap, w2, hap, how, hgr, hob⟩ := push_text w' (w1.heap.size + 1 + 1 + 1 + 1) v k (txL N A T m pre) u hrw HL.out (Nat.le_trans hsW hbW.size); have HOB := hidden hob; clear hob; have hw2 : w1.heap.size < w'.heap.size := Nat.lt_of_lt_of_le hX hbW.size; have hbl : w2.heap[w1.heap.size]? = (w'.alloc (.cells #[.string u] 9)).heap[w1.heap.size]? := hgr.block _ (Nat.lt_of_lt_of_le hw2 (by simp)) (fun e => by have := (HOB.out _ e.symm).1; omega); have cX3 : w2.cell? ⟨w1.heap.size, 0, none⟩ = some v := (World.cell?_of_block (a := ⟨w1.heap.size, 0, none⟩) hbl).trans cX2; have fX3 : w2.frozen? ⟨w1.heap.size, 0, none⟩ = false := (World.frozen?_of_block (a := ⟨w1.heap.size, 0, none⟩) hbl).trans (((alloc_below w' _).frozen (p := ⟨w1.heap.size, 0, none⟩) hw2).trans fX); have HOW := hidden how; have HGR := hidden hgr; clear hb1 hbW how hgr hbl hrw)
              dsimp only
              refine hK _ _ ?_
              clear hK K
              try simp only [Act.put, List.setIfInBounds_toArray, List.set_cons_zero, List.set_cons_succ]
              refine wpAnyIn_ready (rs := [5]) (by kernel_rfl) (by simp) ?_
              refine AllReadyIn.cons rfl (fun K hK => ?_) ?_
              · go_simp
                refine hK _ _ ?_
                clear hK K
                try simp only [Act.put, List.setIfInBounds_toArray, List.set_cons_zero, List.set_cons_succ]
                refine wpAnyIn_ready (rs := [6]) (by kernel_rfl) (by simp) ?_
                refine AllReadyIn.cons rfl (fun K hK => ?_) ?_
                · refine stepIn_append rfl _ _ 94 rfl v _ _ rfl rfl hap ?_
                  refine hK _ _ ?_
                  clear hK K
                  try simp only [Act.put, List.setIfInBounds_toArray]
                  refine wpAnyIn_ready (rs := [7]) (by kernel_rfl) (by simp) ?_
                  refine AllReadyIn.cons rfl (fun K hK => ?_) ?_
                  · go_simp
                    refine hK _ _ ?_
                    clear hK K
                    refine wpAnyIn_done (by kernel_rfl) ?_ _
                    gi_wp2
                    have R := text_round (BB := w1.heap.size + 1 + 1 + 1 + 1) HBW.out hsW HB.out hbw HGR.out HOB.out HOW.out cX3 fX3 hcs hct
                    refine ⟨?_, R.2.1, ?_⟩
                    · simp only [World.size_alloc]; exact R.1
                    · dsimp only
                      rw [HM.out, List.length_append, hpl]
                      exact R.2.2
                  exact AllReadyIn.nil
                exact AllReadyIn.nil
              exact AllReadyIn.nil
            exact AllReadyIn.nil
          exact AllReadyIn.nil
        refine AllReadyIn.cons rfl (fun K hK => ?_) ?_
        · go_simp
          refine hK _ _ ?_
          clear hK K
          try simp only [Act.put, List.setIfInBounds_toArray, List.set_cons_zero, List.set_cons_succ]
          refine wpAnyIn_ready (rs := [0, 4]) (by kernel_rfl) (by simp) ?_
          refine AllReadyIn.cons rfl (fun K hK => ?_) ?_
          · go_simp
            refine hK _ _ ?_
            clear hK K
            try simp only [Act.put, List.setIfInBounds_toArray, List.set_cons_zero, List.set_cons_succ]
            refine wpAnyIn_ready (rs := [4]) (by kernel_rfl) (by simp) ?_
            refine AllReadyIn.cons rfl (fun K hK => ?_) ?_
            · go_simp
              (refine ⟨trivial, ?_⟩; gi_at_call 41; refine (CallsIn.inRound l (callsIn_wide.2 IC.out)).mono ?_; rintro e w' ⟨rfl, hb1⟩; clear IC; have hbW : Below W.heap.size W w' := (Below.refl _ W).drew.trans hb1; have HBW := hidden hbW; have cX : w'.cell? ⟨w1.heap.size, 0, none⟩ = some v := (hbW.cell (p := ⟨w1.heap.size, 0, none⟩) hX).trans hcx; have fX : w'.frozen? ⟨w1.heap.size, 0, none⟩ = false := (hbW.frozen (p := ⟨w1.heap.size, 0, none⟩) hX).trans hfx; have cX2 := keepCell cX (.cells #[.string u] 9); have hrw := ownsRow_stays HROW.out (Below.by hbW) (fun r e => by cases e); obtain ⟨g, cap, w2, hap, how, hgr, hob⟩ := push_text w' (w1.heap.size + 1 + 1 + 1 + 1) v k (txL N A T m pre) u hrw HL.out (Nat.le_trans hsW hbW.size); have HOB := hidden hob; clear hob; have hw2 : w1.heap.size < w'.heap.size := Nat.lt_of_lt_of_le hX hbW.size; have hbl : w2.heap[w1.heap.size]? = (w'.alloc (.cells #[.string u] 9)).heap[w1.heap.size]? := hgr.block _ (Nat.lt_of_lt_of_le hw2 (by simp)) (fun e => by have := (HOB.out _ e.symm).1; omega); have cX3 : w2.cell? ⟨w1.heap.size, 0, none⟩ = some v := (World.cell?_of_block (a := ⟨w1.heap.size, 0, none⟩) hbl).trans cX2; have fX3 : w2.frozen? ⟨w1.heap.size, 0, none⟩ = false := (World.frozen?_of_block (a := ⟨w1.heap.size, 0, none⟩) hbl).trans (((alloc_below w' _).frozen (p := ⟨w1.heap.size, 0, none⟩) hw2).trans fX); have HOW := hidden how; have HGR := hidden hgr; clear hb1 hbW how hgr hbl hrw)
              dsimp only
              refine hK _ _ ?_
              clear hK K
              try simp only [Act.put, List.setIfInBounds_toArray, List.set_cons_zero, List.set_cons_succ]
              refine wpAnyIn_ready (rs := [5]) (by kernel_rfl) (by simp) ?_
              refine AllReadyIn.cons rfl (fun K hK => ?_) ?_
              · go_simp
                refine hK _ _ ?_
                clear hK K
                try simp only [Act.put, List.setIfInBounds_toArray, List.set_cons_zero, List.set_cons_succ]
                refine wpAnyIn_ready (rs := [6]) (by kernel_rfl) (by simp) ?_
                refine AllReadyIn.cons rfl (fun K hK => ?_) ?_
                · refine stepIn_append rfl _ _ 94 rfl v _ _ rfl rfl hap ?_
                  refine hK _ _ ?_
                  clear hK K
                  try simp only [Act.put, List.setIfInBounds_toArray]
                  refine wpAnyIn_ready (rs := [7]) (by kernel_rfl) (by simp) ?_
                  refine AllReadyIn.cons rfl (fun K hK => ?_) ?_
                  · go_simp
                    refine hK _ _ ?_
                    clear hK K
                    refine wpAnyIn_done (by kernel_rfl) ?_ _
                    gi_wp2
                    have R := text_round (BB := w1.heap.size + 1 + 1 + 1 + 1) HBW.out hsW HB.out hbw HGR.out HOB.out HOW.out cX3 fX3 hcs hct
                    refine ⟨?_, R.2.1, ?_⟩
                    · simp only [World.size_alloc]; exact R.1
                    · dsimp only
                      rw [HM.out, List.length_append, hpl]
                      exact R.2.2
                  exact AllReadyIn.nil
                exact AllReadyIn.nil
              exact AllReadyIn.nil
            exact AllReadyIn.nil
          refine AllReadyIn.cons rfl (fun K hK => ?_) ?_
          · go_simp
            (refine ⟨trivial, ?_⟩; gi_at_call 41; refine (CallsIn.inRound l (callsIn_wide.2 IC.out)).mono ?_; rintro e w' ⟨rfl, hb1⟩; clear IC; have hbW : Below W.heap.size W w' := (Below.refl _ W).drew.trans hb1; have HBW := hidden hbW; have cX : w'.cell? ⟨w1.heap.size, 0, none⟩ = some v := (hbW.cell (p := ⟨w1.heap.size, 0, none⟩) hX).trans hcx; have fX : w'.frozen? ⟨w1.heap.size, 0, none⟩ = false := (hbW.frozen (p := ⟨w1.heap.size, 0, none⟩) hX).trans hfx; have cX2 := keepCell cX (.cells #[.string u] 9); have hrw := ownsRow_stays HROW.out (Below.by hbW) (fun r e => by cases e); obtain ⟨g, cap, w2, hap, how, hgr, hob⟩ := push_text w' (w1.heap.size + 1 + 1 + 1 + 1) v k (txL N A T m pre) u hrw HL.out (Nat.le_trans hsW hbW.size); have HOB := hidden hob; clear hob; have hw2 : w1.heap.size < w'.heap.size := Nat.lt_of_lt_of_le hX hbW.size; have hbl : w2.heap[w1.heap.size]? = (w'.alloc (.cells #[.string u] 9)).heap[w1.heap.size]? := hgr.block _ (Nat.lt_of_lt_of_le hw2 (by simp)) (fun e => by have := (HOB.out _ e.symm).1; omega); have cX3 : w2.cell? ⟨w1.heap.size, 0, none⟩ = some v := (World.cell?_of_block (a := ⟨w1.heap.size, 0, none⟩) hbl).trans cX2; have fX3 : w2.frozen? ⟨w1.heap.size, 0, none⟩ = false := (World.frozen?_of_block (a := ⟨w1.heap.size, 0, none⟩) hbl).trans (((alloc_below w' _).frozen (p := ⟨w1.heap.size, 0, none⟩) hw2).trans fX); have HOW := hidden how; have HGR := hidden hgr; clear hb1 hbW how hgr hbl hrw)
            dsimp only
            refine hK _ _ ?_
            clear hK K
            try simp only [Act.put, List.setIfInBounds_toArray, List.set_cons_zero, List.set_cons_succ]
            refine wpAnyIn_ready (rs := [0, 5]) (by kernel_rfl) (by simp) ?_
            refine AllReadyIn.cons rfl (fun K hK => ?_) ?_
            · go_simp
              refine hK _ _ ?_
              clear hK K
              try simp only [Act.put, List.setIfInBounds_toArray, List.set_cons_zero, List.set_cons_succ]
              refine wpAnyIn_ready (rs := [5]) (by kernel_rfl) (by simp) ?_
              refine AllReadyIn.cons rfl (fun K hK => ?_) ?_
              · go_simp
                refine hK _ _ ?_
                clear hK K
                try simp only [Act.put, List.setIfInBounds_toArray, List.set_cons_zero, List.set_cons_succ]
                refine wpAnyIn_ready (rs := [6]) (by kernel_rfl) (by simp) ?_
                refine AllReadyIn.cons rfl (fun K hK => ?_) ?_
                · refine stepIn_append rfl _ _ 94 rfl v _ _ rfl rfl hap ?_
                  refine hK _ _ ?_
                  clear hK K
                  try simp only [Act.put, List.setIfInBounds_toArray]
                  refine wpAnyIn_ready (rs := [7]) (by kernel_rfl) (by simp) ?_
                  refine AllReadyIn.cons rfl (fun K hK => ?_) ?_
                  · go_simp
                    refine hK _ _ ?_
                    clear hK K
                    refine wpAnyIn_done (by kernel_rfl) ?_ _
                    gi_wp2
                    have R := text_round (BB := w1.heap.size + 1 + 1 + 1 + 1) HBW.out hsW HB.out hbw HGR.out HOB.out HOW.out cX3 fX3 hcs hct
                    refine ⟨?_, R.2.1, ?_⟩
                    · simp only [World.size_alloc]; exact R.1
                    · dsimp only
                      rw [HM.out, List.length_append, hpl]
                      exact R.2.2
                  exact AllReadyIn.nil
                exact AllReadyIn.nil
              exact AllReadyIn.nil
            refine AllReadyIn.cons rfl (fun K hK => ?_) ?_
            · go_simp
              refine hK _ _ ?_
              clear hK K
              try simp only [Act.put, List.setIfInBounds_toArray, List.set_cons_zero, List.set_cons_succ]
              refine wpAnyIn_ready (rs := [0]) (by kernel_rfl) (by simp) ?_
              refine AllReadyIn.cons rfl (fun K hK => ?_) ?_
              · go_simp
                refine hK _ _ ?_
                clear hK K
                try simp only [Act.put, List.setIfInBounds_toArray, List.set_cons_zero, List.set_cons_succ]
                refine wpAnyIn_ready (rs := [6]) (by kernel_rfl) (by simp) ?_
                refine AllReadyIn.cons rfl (fun K hK => ?_) ?_
                · refine stepIn_append rfl _ _ 94 rfl v _ _ rfl rfl hap ?_
                  refine hK _ _ ?_
                  clear hK K
                  try simp only [Act.put, List.setIfInBounds_toArray]
                  refine wpAnyIn_ready (rs := [7]) (by kernel_rfl) (by simp) ?_
                  refine AllReadyIn.cons rfl (fun K hK => ?_) ?_
                  · go_simp
                    refine hK _ _ ?_
                    clear hK K
                    refine wpAnyIn_done (by kernel_rfl) ?_ _
                    gi_wp2
                    have R := text_round (BB := w1.heap.size + 1 + 1 + 1 + 1) HBW.out hsW HB.out hbw HGR.out HOB.out HOW.out cX3 fX3 hcs hct
                    refine ⟨?_, R.2.1, ?_⟩
                    · simp only [World.size_alloc]; exact R.1
                    · dsimp only
                      rw [HM.out, List.length_append, hpl]
                      exact R.2.2
                  exact AllReadyIn.nil
                exact AllReadyIn.nil
              exact AllReadyIn.nil
            exact AllReadyIn.nil
          exact AllReadyIn.nil
        exact AllReadyIn.nil
      exact AllReadyIn.nil
    refine AllReadyIn.cons rfl (fun K hK => ?_) ?_
    · go_simp
      refine hK _ _ ?_
      clear hK K
      try simp only [Act.put, List.setIfInBounds_toArray, List.set_cons_zero, List.set_cons_succ]
      refine wpAnyIn_ready (rs := [0, 1, 3]) (by kernel_rfl) (by simp) ?_
      refine AllReadyIn.cons rfl (fun K hK => ?_) ?_
      · go_simp
        refine hK _ _ ?_
        clear hK K
        try simp only [Act.put, List.setIfInBounds_toArray, List.set_cons_zero, List.set_cons_succ]
        refine wpAnyIn_ready (rs := [1, 3]) (by kernel_rfl) (by simp) ?_
        refine AllReadyIn.cons rfl (fun K hK => ?_) ?_
        · go_simp
          refine hK _ _ ?_
          clear hK K
          try simp only [Act.put, List.setIfInBounds_toArray, List.set_cons_zero, List.set_cons_succ]
          refine wpAnyIn_ready (rs := [3]) (by kernel_rfl) (by simp) ?_
          refine AllReadyIn.cons rfl (fun K hK => ?_) ?_
          · go_simp
            refine hK _ _ ?_
            clear hK K
            try simp only [Act.put, List.setIfInBounds_toArray, List.set_cons_zero, List.set_cons_succ]
            refine wpAnyIn_ready (rs := [4]) (by kernel_rfl) (by simp) ?_
            refine AllReadyIn.cons rfl (fun K hK => ?_) ?_
            · go_simp
              (refine ⟨trivial, ?_⟩; gi_at_call 41; refine (CallsIn.inRound l (callsIn_wide.2 IC.out)).mono ?_; rintro e w' ⟨rfl, hb1⟩; clear IC; have hbW : Below W.heap.size W w' := (Below.refl _ W).drew.trans hb1; have HBW := hidden hbW; have cX : w'.cell? ⟨w1.heap.size, 0, none⟩ = some v := (hbW.cell (p := ⟨w1.heap.size, 0, none⟩) hX).trans hcx; have fX : w'.frozen? ⟨w1.heap.size, 0, none⟩ = false := (hbW.frozen (p := ⟨w1.heap.size, 0, none⟩) hX).trans hfx; have cX2 := keepCell cX (.cells #[.string u] 9); have hrw := ownsRow_stays HROW.out (Below.by hbW) (fun r e => by cases e); obtain ⟨g, cap, w2, hap, how, hgr, hob⟩ := push_text w' (w1.heap.size + 1 + 1 + 1 + 1) v k (txL N A T m pre) u hrw HL.out (Nat.le_trans hsW hbW.size); have HOB := hidden hob; clear hob; have hw2 : w1.heap.size < w'.heap.size := Nat.lt_of_lt_of_le hX hbW.size; have hbl : w2.heap[w1.heap.size]? = (w'.alloc (.cells #[.string u] 9)).heap[w1.heap.size]? := hgr.block _ (Nat.lt_of_lt_of_le hw2 (by simp)) (fun e => by have := (HOB.out _ e.symm).1; omega); have cX3 : w2.cell? ⟨w1.heap.size, 0, none⟩ = some v := (World.cell?_of_block (a := ⟨w1.heap.size, 0, none⟩) hbl).trans cX2; have fX3 : w2.frozen? ⟨w1.heap.size, 0, none⟩ = false := (World.frozen?_of_block (a := ⟨w1.heap.size, 0, none⟩) hbl).trans (((alloc_below w' _).frozen (p := ⟨w1.heap.size, 0, none⟩) hw2).trans fX); have HOW := hidden how; have HGR := hidden hgr; clear hb1 hbW how hgr hbl hrw)
              dsimp only
              refine hK _ _ ?_
              clear hK K
              try simp only [Act.put, List.setIfInBounds_toArray, List.set_cons_zero, List.set_cons_succ]
              refine wpAnyIn_ready (rs := [5]) (by kernel_rfl) (by simp) ?_
              refine AllReadyIn.cons rfl (fun K hK => ?_) ?_
              · go_simp
                refine hK _ _ ?_
                clear hK K
                try simp only [Act.put, List.setIfInBounds_toArray, List.set_cons_zero, List.set_cons_succ]
                refine wpAnyIn_ready (rs := [6]) (by kernel_rfl) (by simp) ?_
                refine AllReadyIn.cons rfl (fun K hK => ?_) ?_
                · refine stepIn_append rfl _ _ 94 rfl v _ _ rfl rfl hap ?_
                  refine hK _ _ ?_
                  clear hK K
                  try simp only [Act.put, List.setIfInBounds_toArray]
                  refine wpAnyIn_ready (rs := [7]) (by kernel_rfl) (by simp) ?_
                  refine AllReadyIn.cons rfl (fun K hK => ?_) ?_
                  · go_simp
                    refine hK _ _ ?_
                    clear hK K
                    refine wpAnyIn_done (by kernel_rfl) ?_ _
                    gi_wp2
                    have R := text_round (BB := w1.heap.size + 1 + 1 + 1 + 1) HBW.out hsW HB.out hbw HGR.out HOB.out HOW.out cX3 fX3 hcs hct
                    refine ⟨?_, R.2.1, ?_⟩
                    · simp only [World.size_alloc]; exact R.1
                    · dsimp only
                      rw [HM.out, List.length_append, hpl]
                      exact R.2.2
                  exact AllReadyIn.nil
                exact AllReadyIn.nil
              exact AllReadyIn.nil
            exact AllReadyIn.nil
          exact AllReadyIn.nil
        refine AllReadyIn.cons rfl (fun K hK => ?_) ?_
        · go_simp
          refine hK _ _ ?_
          clear hK K
          try simp only [Act.put, List.setIfInBounds_toArray, List.set_cons_zero, List.set_cons_succ]
          refine wpAnyIn_ready (rs := [1]) (by kernel_rfl) (by simp) ?_
          refine AllReadyIn.cons rfl (fun K hK => ?_) ?_
          · go_simp
            refine hK _ _ ?_
            clear hK K
            try simp only [Act.put, List.setIfInBounds_toArray, List.set_cons_zero, List.set_cons_succ]
            refine wpAnyIn_ready (rs := [4]) (by kernel_rfl) (by simp) ?_
            refine AllReadyIn.cons rfl (fun K hK => ?_) ?_
            · go_simp
              (refine ⟨trivial, ?_⟩; gi_at_call 41; refine (CallsIn.inRound l (callsIn_wide.2 IC.out)).mono ?_; rintro e w' ⟨rfl, hb1⟩; clear IC; have hbW : Below W.heap.size W w' := (Below.refl _ W).drew.trans hb1; have HBW := hidden hbW; have cX : w'.cell? ⟨w1.heap.size, 0, none⟩ = some v := (hbW.cell (p := ⟨w1.heap.size, 0, none⟩) hX).trans hcx; have fX : w'.frozen? ⟨w1.heap.size, 0, none⟩ = false := (hbW.frozen (p := ⟨w1.heap.size, 0, none⟩) hX).trans hfx; have cX2 := keepCell cX (.cells #[.string u] 9); have hrw := ownsRow_stays HROW.out (Below.by hbW) (fun r e => by cases e); obtain ⟨g, cap, w2, hap, how, hgr, hob⟩ := push_text w' (w1.heap.size + 1 + 1 + 1 + 1) v k (txL N A T m pre) u hrw HL.out (Nat.le_trans hsW hbW.size); have HOB := hidden hob; clear hob; have hw2 : w1.heap.size < w'.heap.size := Nat.lt_of_lt_of_le hX hbW.size; have hbl : w2.heap[w1.heap.size]? = (w'.alloc (.cells #[.string u] 9)).heap[w1.heap.size]? := hgr.block _ (Nat.lt_of_lt_of_le hw2 (by simp)) (fun e => by have := (HOB.out _ e.symm).1; omega); have cX3 : w2.cell? ⟨w1.heap.size, 0, none⟩ = some v := (World.cell?_of_block (a := ⟨w1.heap.size, 0, none⟩) hbl).trans cX2; have fX3 : w2.frozen? ⟨w1.heap.size, 0, none⟩ = false := (World.frozen?_of_block (a := ⟨w1.heap.size, 0, none⟩) hbl).trans (((alloc_below w' _).frozen (p := ⟨w1.heap.size, 0, none⟩) hw2).trans fX); have HOW := hidden how; have HGR := hidden hgr; clear hb1 hbW how hgr hbl hrw)
              dsimp only
              refine hK _ _ ?_
              clear hK K
              try simp only [Act.put, List.setIfInBounds_toArray, List.set_cons_zero, List.set_cons_succ]
              refine wpAnyIn_ready (rs := [5]) (by kernel_rfl) (by simp) ?_
              refine AllReadyIn.cons rfl (fun K hK => ?_) ?_
              · go_simp
                refine hK _ _ ?_
                clear hK K
                try simp only [Act.put, List.setIfInBounds_toArray, List.set_cons_zero, List.set_cons_succ]
                refine wpAnyIn_ready (rs := [6]) (by kernel_rfl) (by simp) ?_
                refine AllReadyIn.cons rfl (fun K hK => ?_) ?_
                · refine stepIn_append rfl _ _ 94 rfl v _ _ rfl rfl hap ?_
                  refine hK _ _ ?_
                  clear hK K
                  try simp only [Act.put, List.setIfInBounds_toArray]
                  refine wpAnyIn_ready (rs := [7]) (by kernel_rfl) (by simp) ?_
                  refine AllReadyIn.cons rfl (fun K hK => ?_) ?_
                  · go_simp
                    refine hK _ _ ?_
                    clear hK K
                    refine wpAnyIn_done (by kernel_rfl) ?_ _
                    gi_wp2
                    have R := text_round (BB := w1.heap.size + 1 + 1 + 1 + 1) HBW.out hsW HB.out hbw HGR.out HOB.out HOW.out cX3 fX3 hcs hct
                    refine ⟨?_, R.2.1, ?_⟩
                    · simp only [World.size_alloc]; exact R.1
                    · dsimp only
                      rw [HM.out, List.length_append, hpl]
                      exact R.2.2
                  exact AllReadyIn.nil
                exact AllReadyIn.nil
              exact AllReadyIn.nil
            exact AllReadyIn.nil
          exact AllReadyIn.nil
        exact AllReadyIn.nil
      refine AllReadyIn.cons rfl (fun K hK => ?_) ?_
      · go_simp
        refine hK _ _ ?_
        clear hK K
        try simp only [Act.put, List.setIfInBounds_toArray, List.set_cons_zero, List.set_cons_succ]
        refine wpAnyIn_ready (rs := [0, 3]) (by kernel_rfl) (by simp) ?_
        refine AllReadyIn.cons rfl (fun K hK => ?_) ?_
        · go_simp
          refine hK _ _ ?_
          clear hK K
          try simp only [Act.put, List.setIfInBounds_toArray, List.set_cons_zero, List.set_cons_succ]
          refine wpAnyIn_ready (rs := [3]) (by kernel_rfl) (by simp) ?_
          refine AllReadyIn.cons rfl (fun K hK => ?_) ?_
          · go_simp
            refine hK _ _ ?_
            clear hK K
            try simp only [Act.put, List.setIfInBounds_toArray, List.set_cons_zero, List.set_cons_succ]
            refine wpAnyIn_ready (rs := [4]) (by kernel_rfl) (by simp) ?_
            refine AllReadyIn.cons rfl (fun K hK => ?_) ?_
            · go_simp
              (refine ⟨trivial, ?_⟩; gi_at_call 41; refine (CallsIn.inRound l (callsIn_wide.2 IC.out)).mono ?_; rintro e w' ⟨rfl, hb1⟩; clear IC; have hbW : Below W.heap.size W w' := (Below.refl _ W).drew.trans hb1; have HBW := hidden hbW; have cX : w'.cell? ⟨w1.heap.size, 0, none⟩ = some v := (hbW.cell (p := ⟨w1.heap.size, 0, none⟩) hX).trans hcx; have fX : w'.frozen? ⟨w1.heap.size, 0, none⟩ = false := (hbW.frozen (p := ⟨w1.heap.size, 0, none⟩) hX).trans hfx; have cX2 := keepCell cX (.cells #[.string u] 9); have hrw := ownsRow_stays HROW.out (Below.by hbW) (fun r e => by cases e); obtain ⟨g, cap, w2, hap, how, hgr, hob⟩ := push_text w' (w1.heap.size + 1 + 1 + 1 + 1) v k (txL N A T m pre) u hrw HL.out (Nat.le_trans hsW hbW.size); have HOB := hidden hob; clear hob; have hw2 : w1.heap.size < w'.heap.size := Nat.lt_of_lt_of_le hX hbW.size; have hbl : w2.heap[w1.heap.size]? = (w'.alloc (.cells #[.string u] 9)).heap[w1.heap.size]? := hgr.block _ (Nat.lt_of_lt_of_le hw2 (by simp)) (fun e => by have := (HOB.out _ e.symm).1; omega); have cX3 : w2.cell? ⟨w1.heap.size, 0, none⟩ = some v := (World.cell?_of_block (a := ⟨w1.heap.size, 0, none⟩) hbl).trans cX2; have fX3 : w2.frozen? ⟨w1.heap.size, 0, none⟩ = false := (World.frozen?_of_block (a := ⟨w1.heap.size, 0, none⟩) hbl).trans (((alloc_below w' _).frozen (p := ⟨w1.heap.size, 0, none⟩) hw2).trans fX); have HOW := hidden how; have HGR := hidden hgr; clear hb1 hbW how hgr hbl hrw)
              dsimp only
              refine hK _ _ ?_
              clear hK K
              try simp only [Act.put, List.setIfInBounds_toArray, List.set_cons_zero, List.set_cons_succ]
              refine wpAnyIn_ready (rs := [5]) (by kernel_rfl) (by simp) ?_
              refine AllReadyIn.cons rfl (fun K hK => ?_) ?_
              · go_simp
                refine hK _ _ ?_
                clear hK K
                try simp only [Act.put, List.setIfInBounds_toArray, List.set_cons_zero, List.set_cons_succ]
                refine wpAnyIn_ready (rs := [6]) (by kernel_rfl) (by simp) ?_
                refine AllReadyIn.cons rfl (fun K hK => ?_) ?_
                · refine stepIn_append rfl _ _ 94 rfl v _ _ rfl rfl hap ?_
                  refine hK _ _ ?_
                  clear hK K
                  try simp only [Act.put, List.setIfInBounds_toArray]
                  refine wpAnyIn_ready (rs := [7]) (by kernel_rfl) (by simp) ?_
                  refine AllReadyIn.cons rfl (fun K hK => ?_) ?_
                  · go_simp
                    refine hK _ _ ?_
                    clear hK K
                    refine wpAnyIn_done (by kernel_rfl) ?_ _
                    gi_wp2
                    have R := text_round (BB := w1.heap.size + 1 + 1 + 1 + 1) HBW.out hsW HB.out hbw HGR.out HOB.out HOW.out cX3 fX3 hcs hct
                    refine ⟨?_, R.2.1, ?_⟩
                    · simp only [World.size_alloc]; exact R.1
                    · dsimp only
                      rw [HM.out, List.length_append, hpl]
                      exact R.2.2
                  exact AllReadyIn.nil
                exact AllReadyIn.nil
              exact AllReadyIn.nil
            exact AllReadyIn.nil
          exact AllReadyIn.nil
        refine AllReadyIn.cons rfl (fun K hK => ?_) ?_
        · go_simp
          refine hK _ _ ?_
          clear hK K
          try simp only [Act.put, List.setIfInBounds_toArray, List.set_cons_zero, List.set_cons_succ]
          refine wpAnyIn_ready (rs := [0, 4]) (by kernel_rfl) (by simp) ?_
          refine AllReadyIn.cons rfl (fun K hK => ?_) ?_
          · go_simp
            refine hK _ _ ?_
            clear hK K
            try simp only [Act.put, List.setIfInBounds_toArray, List.set_cons_zero, List.set_cons_succ]
            refine wpAnyIn_ready (rs := [4]) (by kernel_rfl) (by simp) ?_
            refine AllReadyIn.cons rfl (fun K hK => ?_) ?_
            · go_simp
              (refine ⟨trivial, ?_⟩; gi_at_call 41; refine (CallsIn.inRound l (callsIn_wide.2 IC.out)).mono ?_; rintro e w' ⟨rfl, hb1⟩; clear IC; have hbW : Below W.heap.size W w' := (Below.refl _ W).drew.trans hb1; have HBW := hidden hbW; have cX : w'.cell? ⟨w1.heap.size, 0, none⟩ = some v := (hbW.cell (p := ⟨w1.heap.size, 0, none⟩) hX).trans hcx; have fX : w'.frozen? ⟨w1.heap.size, 0, none⟩ = false := (hbW.frozen (p := ⟨w1.heap.size, 0, none⟩) hX).trans hfx; have cX2 := keepCell cX (.cells #[.string u] 9); have hrw := ownsRow_stays HROW.out (Below.by hbW) (fun r e => by cases e); obtain ⟨g, cap, w2, hap, how, hgr, hob⟩ := push_text w' (w1.heap.size + 1 + 1 + 1 + 1) v k (txL N A T m pre) u hrw HL.out (Nat.le_trans hsW hbW.size); have HOB := hidden hob; clear hob; have hw2 : w1.heap.size < w'.heap.size := Nat.lt_of_lt_of_le hX hbW.size; have hbl : w2.heap[w1.heap.size]? = (w'.alloc (.cells #[.string u] 9)).heap[w1.heap.size]? := hgr.block _ (Nat.lt_of_lt_of_le hw2 (by simp)) (fun e => by have := (HOB.out _ e.symm).1; omega); have cX3 : w2.cell? ⟨w1.heap.size, 0, none⟩ = some v := (World.cell?_of_block (a := ⟨w1.heap.size, 0, none⟩) hbl).trans cX2; have fX3 : w2.frozen? ⟨w1.heap.size, 0, none⟩ = false := (World.frozen?_of_block (a := ⟨w1.heap.size, 0, none⟩) hbl).trans (((alloc_below w' _).frozen (p := ⟨w1.heap.size, 0, none⟩) hw2).trans fX); have HOW := hidden how; have HGR := hidden hgr; clear hb1 hbW how hgr hbl hrw)
              dsimp only
              refine hK _ _ ?_
              clear hK K
              try simp only [Act.put, List.setIfInBounds_toArray, List.set_cons_zero, List.set_cons_succ]
              refine wpAnyIn_ready (rs := [5]) (by kernel_rfl) (by simp) ?_
              refine AllReadyIn.cons rfl (fun K hK => ?_) ?_
              · go_simp
                refine hK _ _ ?_
                clear hK K
                try simp only [Act.put, List.setIfInBounds_toArray, List.set_cons_zero, List.set_cons_succ]
                refine wpAnyIn_ready (rs := [6]) (by kernel_rfl) (by simp) ?_
                refine AllReadyIn.cons rfl (fun K hK => ?_) ?_
                · refine stepIn_append rfl _ _ 94 rfl v _ _ rfl rfl hap ?_
                  refine hK _ _ ?_
                  clear hK K
                  try simp only [Act.put, List.setIfInBounds_toArray]
                  refine wpAnyIn_ready (rs := [7]) (by kernel_rfl) (by simp) ?_
                  refine AllReadyIn.cons rfl (fun K hK => ?_) ?_
                  · go_simp
                    refine hK _ _ ?_
                    clear hK K
                    refine wpAnyIn_done (by kernel_rfl) ?_ _
                    gi_wp2
                    have R := text_round (BB := w1.heap.size + 1 + 1 + 1 + 1) HBW.out hsW HB.out hbw HGR.out HOB.out HOW.out cX3 fX3 hcs hct
                    refine ⟨?_, R.2.1, ?_⟩
                    · simp only [World.size_alloc]; exact R.1
                    · dsimp only
                      rw [HM.out, List.length_append, hpl]
                      exact R.2.2
                  exact AllReadyIn.nil
                exact AllReadyIn.nil
              exact AllReadyIn.nil
            exact AllReadyIn.nil
          refine AllReadyIn.cons rfl (fun K hK => ?_) ?_
          · go_simp
            (refine ⟨trivial, ?_⟩; gi_at_call 41; refine (CallsIn.inRound l (callsIn_wide.2 IC.out)).mono ?_; rintro e w' ⟨rfl, hb1⟩; clear IC; have hbW : Below W.heap.size W w' := (Below.refl _ W).drew.trans hb1; have HBW := hidden hbW; have cX : w'.cell? ⟨w1.heap.size, 0, none⟩ = some v := (hbW.cell (p := ⟨w1.heap.size, 0, none⟩) hX).trans hcx; have fX : w'.frozen? ⟨w1.heap.size, 0, none⟩ = false := (hbW.frozen (p := ⟨w1.heap.size, 0, none⟩) hX).trans hfx; have cX2 := keepCell cX (.cells #[.string u] 9); have hrw := ownsRow_stays HROW.out (Below.by hbW) (fun r e => by cases e); obtain ⟨g, cap, w2, hap, how, hgr, hob⟩ := push_text w' (w1.heap.size + 1 + 1 + 1 + 1) v k (txL N A T m pre) u hrw HL.out (Nat.le_trans hsW hbW.size); have HOB := hidden hob; clear hob; have hw2 : w1.heap.size < w'.heap.size := Nat.lt_of_lt_of_le hX hbW.size; have hbl : w2.heap[w1.heap.size]? = (w'.alloc (.cells #[.string u] 9)).heap[w1.heap.size]? := hgr.block _ (Nat.lt_of_lt_of_le hw2 (by simp)) (fun e => by have := (HOB.out _ e.symm).1; omega); have cX3 : w2.cell? ⟨w1.heap.size, 0, none⟩ = some v := (World.cell?_of_block (a := ⟨w1.heap.size, 0, none⟩) hbl).trans cX2; have fX3 : w2.frozen? ⟨w1.heap.size, 0, none⟩ = false := (World.frozen?_of_block (a := ⟨w1.heap.size, 0, none⟩) hbl).trans (((alloc_below w' _).frozen (p := ⟨w1.heap.size, 0, none⟩) hw2).trans fX); have HOW := hidden how; have HGR := hidden hgr; clear hb1 hbW how hgr hbl hrw)
            dsimp only
            refine hK _ _ ?_
            clear hK K
            try simp only [Act.put, List.setIfInBounds_toArray, List.set_cons_zero, List.set_cons_succ]
            refine wpAnyIn_ready (rs := [0, 5]) (by kernel_rfl) (by simp) ?_
            refine AllReadyIn.cons rfl (fun K hK => ?_) ?_
            · go_simp
              refine hK _ _ ?_
              clear hK K
              try simp only [Act.put, List.setIfInBounds_toArray, List.set_cons_zero, List.set_cons_succ]
              refine wpAnyIn_ready (rs := [5]) (by kernel_rfl) (by simp) ?_
              refine AllReadyIn.cons rfl (fun K hK => ?_) ?_
              · go_simp
                refine hK _ _ ?_
                clear hK K
                try simp only [Act.put, List.setIfInBounds_toArray, List.set_cons_zero, List.set_cons_succ]
                refine wpAnyIn_ready (rs := [6]) (by kernel_rfl) (by simp) ?_
                refine AllReadyIn.cons rfl (fun K hK => ?_) ?_
                · refine stepIn_append rfl _ _ 94 rfl v _ _ rfl rfl hap ?_
                  refine hK _ _ ?_
                  clear hK K
                  try simp only [Act.put, List.setIfInBounds_toArray]
                  refine wpAnyIn_ready (rs := [7]) (by kernel_rfl) (by simp) ?_
                  refine AllReadyIn.cons rfl (fun K hK => ?_) ?_
                  · go_simp
                    refine hK _ _ ?_
                    clear hK K
                    refine wpAnyIn_done (by kernel_rfl) ?_ _
                    gi_wp2
                    have R := text_round (BB := w1.heap.size + 1 + 1 + 1 + 1) HBW.out hsW HB.out hbw HGR.out HOB.out HOW.out cX3 fX3 hcs hct
                    refine ⟨?_, R.2.1, ?_⟩
                    · simp only [World.size_alloc]; exact R.1
                    · dsimp only
                      rw [HM.out, List.length_append, hpl]
                      exact R.2.2
                  exact AllReadyIn.nil
                exact AllReadyIn.nil
              exact AllReadyIn.nil
            refine AllReadyIn.cons rfl (fun K hK => ?_) ?_
            · go_simp
              refine hK _ _ ?_
              clear hK K
              try simp only [Act.put, List.setIfInBounds_toArray, List.set_cons_zero, List.set_cons_succ]
              refine wpAnyIn_ready (rs := [0]) (by kernel_rfl) (by simp) ?_
              refine AllReadyIn.cons rfl (fun K hK => ?_) ?_
              · go_simp
                refine hK _ _ ?_
                clear hK K
                try simp only [Act.put, List.setIfInBounds_toArray, List.set_cons_zero, List.set_cons_succ]
                refine wpAnyIn_ready (rs := [6]) (by kernel_rfl) (by simp) ?_
                refine AllReadyIn.cons rfl (fun K hK => ?_) ?_
                · refine stepIn_append rfl _ _ 94 rfl v _ _ rfl rfl hap ?_
                  refine hK _ _ ?_
                  clear hK K
                  try simp only [Act.put, List.setIfInBounds_toArray]
                  refine wpAnyIn_ready (rs := [7]) (by kernel_rfl) (by simp) ?_
                  refine AllReadyIn.cons rfl (fun K hK => ?_) ?_
                  · go_simp
                    refine hK _ _ ?_
                    clear hK K
                    refine wpAnyIn_done (by kernel_rfl) ?_ _
                    gi_wp2
                    have R := text_round (BB := w1.heap.size + 1 + 1 + 1 + 1) HBW.out hsW HB.out hbw HGR.out HOB.out HOW.out cX3 fX3 hcs hct
                    refine ⟨?_, R.2.1, ?_⟩
                    · simp only [World.size_alloc]; exact R.1
                    · dsimp only
                      rw [HM.out, List.length_append, hpl]
                      exact R.2.2
                  exact AllReadyIn.nil
                exact AllReadyIn.nil
              exact AllReadyIn.nil
            exact AllReadyIn.nil
          exact AllReadyIn.nil
        exact AllReadyIn.nil
      refine AllReadyIn.cons rfl (fun K hK => ?_) ?_
      · go_simp
        refine hK _ _ ?_
        clear hK K
        try simp only [Act.put, List.setIfInBounds_toArray, List.set_cons_zero, List.set_cons_succ]
        refine wpAnyIn_ready (rs := [0, 1]) (by kernel_rfl) (by simp) ?_
        refine AllReadyIn.cons rfl (fun K hK => ?_) ?_
        · go_simp
          refine hK _ _ ?_
          clear hK K
          try simp only [Act.put, List.setIfInBounds_toArray, List.set_cons_zero, List.set_cons_succ]
          refine wpAnyIn_ready (rs := [1]) (by kernel_rfl) (by simp) ?_
          refine AllReadyIn.cons rfl (fun K hK => ?_) ?_
          · go_simp
            refine hK _ _ ?_
            clear hK K
            try simp only [Act.put, List.setIfInBounds_toArray, List.set_cons_zero, List.set_cons_succ]
            refine wpAnyIn_ready (rs := [4]) (by kernel_rfl) (by simp) ?_
            refine AllReadyIn.cons rfl (fun K hK => ?_) ?_
            · go_simp
              (refine ⟨trivial, ?_⟩; gi_at_call 41; refine (CallsIn.inRound l (callsIn_wide.2 IC.out)).mono ?_; rintro e w' ⟨rfl, hb1⟩; clear IC; have hbW : Below W.heap.size W w' := (Below.refl _ W).drew.trans hb1; have HBW := hidden hbW; have cX : w'.cell? ⟨w1.heap.size, 0, none⟩ = some v := (hbW.cell (p := ⟨w1.heap.size, 0, none⟩) hX).trans hcx; have fX : w'.frozen? ⟨w1.heap.size, 0, none⟩ = false := (hbW.frozen (p := ⟨w1.heap.size, 0, none⟩) hX).trans hfx; have cX2 := keepCell cX (.cells #[.string u] 9); have hrw := ownsRow_stays HROW.out (Below.by hbW) (fun r e => by cases e); obtain ⟨g, cap, w2, hap, how, hgr, hob⟩ := push_text w' (w1.heap.size + 1 + 1 + 1 + 1) v k (txL N A T m pre) u hrw HL.out (Nat.le_trans hsW hbW.size); have HOB := hidden hob; clear hob; have hw2 : w1.heap.size < w'.heap.size := Nat.lt_of_lt_of_le hX hbW.size; have hbl : w2.heap[w1.heap.size]? = (w'.alloc (.cells #[.string u] 9)).heap[w1.heap.size]? := hgr.block _ (Nat.lt_of_lt_of_le hw2 (by simp)) (fun e => by have := (HOB.out _ e.symm).1; omega); have cX3 : w2.cell? ⟨w1.heap.size, 0, none⟩ = some v := (World.cell?_of_block (a := ⟨w1.heap.size, 0, none⟩) hbl).trans cX2; have fX3 : w2.frozen? ⟨w1.heap.size, 0, none⟩ = false := (World.frozen?_of_block (a := ⟨w1.heap.size, 0, none⟩) hbl).trans (((alloc_below w' _).frozen (p := ⟨w1.heap.size, 0, none⟩) hw2).trans fX); have HOW := hidden how; have HGR := hidden hgr; clear hb1 hbW how hgr hbl hrw)
              dsimp only
              refine hK _ _ ?_
              clear hK K
              try simp only [Act.put, List.setIfInBounds_toArray, List.set_cons_zero, List.set_cons_succ]
              refine wpAnyIn_ready (rs := [5]) (by kernel_rfl) (by simp) ?_
              refine AllReadyIn.cons rfl (fun K hK => ?_) ?_
              · go_simp
                refine hK _ _ ?_
                clear hK K
                try simp only [Act.put, List.setIfInBounds_toArray, List.set_cons_zero, List.set_cons_succ]
                refine wpAnyIn_ready (rs := [6]) (by kernel_rfl) (by simp) ?_
                refine AllReadyIn.cons rfl (fun K hK => ?_) ?_
                · refine stepIn_append rfl _ _ 94 rfl v _ _ rfl rfl hap ?_
                  refine hK _ _ ?_
                  clear hK K
                  try simp only [Act.put, List.setIfInBounds_toArray]
                  refine wpAnyIn_ready (rs := [7]) (by kernel_rfl) (by simp) ?_
                  refine AllReadyIn.cons rfl (fun K hK => ?_) ?_
                  · go_simp
                    refine hK _ _ ?_
                    clear hK K
                    refine wpAnyIn_done (by kernel_rfl) ?_ _
                    gi_wp2
                    have R := text_round (BB := w1.heap.size + 1 + 1 + 1 + 1) HBW.out hsW HB.out hbw HGR.out HOB.out HOW.out cX3 fX3 hcs hct
                    refine ⟨?_, R.2.1, ?_⟩
                    · simp only [World.size_alloc]; exact R.1
                    · dsimp only
                      rw [HM.out, List.length_append, hpl]
                      exact R.2.2
                  exact AllReadyIn.nil
                exact AllReadyIn.nil
              exact AllReadyIn.nil
            exact AllReadyIn.nil
          exact AllReadyIn.nil
        refine AllReadyIn.cons rfl (fun K hK => ?_) ?_
        · go_simp
          refine hK _ _ ?_
          clear hK K
          try simp only [Act.put, List.setIfInBounds_toArray, List.set_cons_zero, List.set_cons_succ]
          refine wpAnyIn_ready (rs := [0, 4]) (by kernel_rfl) (by simp) ?_
          refine AllReadyIn.cons rfl (fun K hK => ?_) ?_
          · go_simp
            refine hK _ _ ?_
            clear hK K
            try simp only [Act.put, List.setIfInBounds_toArray, List.set_cons_zero, List.set_cons_succ]
            refine wpAnyIn_ready (rs := [4]) (by kernel_rfl) (by simp) ?_
            refine AllReadyIn.cons rfl (fun K hK => ?_) ?_
            · go_simp
              (refine ⟨trivial, ?_⟩; gi_at_call 41; refine (CallsIn.inRound l (callsIn_wide.2 IC.out)).mono ?_; rintro e w' ⟨rfl, hb1⟩; clear IC; have hbW : Below W.heap.size W w' := (Below.refl _ W).drew.trans hb1; have HBW := hidden hbW; have cX : w'.cell? ⟨w1.heap.size, 0, none⟩ = some v := (hbW.cell (p := ⟨w1.heap.size, 0, none⟩) hX).trans hcx; have fX : w'.frozen? ⟨w1.heap.size, 0, none⟩ = false := (hbW.frozen (p := ⟨w1.heap.size, 0, none⟩) hX).trans hfx; have cX2 := keepCell cX (.cells #[.string u] 9); have hrw := ownsRow_stays HROW.out (Below.by hbW) (fun r e => by cases e); obtain ⟨g, cap, w2, hap, how, hgr, hob⟩ := push_text w' (w1.heap.size + 1 + 1 + 1 + 1) v k (txL N A T m pre) u hrw HL.out (Nat.le_trans hsW hbW.size); have HOB := hidden hob; clear hob; have hw2 : w1.heap.size < w'.heap.size := Nat.lt_of_lt_of_le hX hbW.size; have hbl : w2.heap[w1.heap.size]? = (w'.alloc (.cells #[.string u] 9)).heap[w1.heap.size]? := hgr.block _ (Nat.lt_of_lt_of_le hw2 (by simp)) (fun e => by have := (HOB.out _ e.symm).1; omega); have cX3 : w2.cell? ⟨w1.heap.size, 0, none⟩ = some v := (World.cell?_of_block (a := ⟨w1.heap.size, 0, none⟩) hbl).trans cX2; have fX3 : w2.frozen? ⟨w1.heap.size, 0, none⟩ = false := (World.frozen?_of_block (a := ⟨w1.heap.size, 0, none⟩) hbl).trans (((alloc_below w' _).frozen (p := ⟨w1.heap.size, 0, none⟩) hw2).trans fX); have HOW := hidden how; have HGR := hidden hgr; clear hb1 hbW how hgr hbl hrw)
              dsimp only
              refine hK _ _ ?_
              clear hK K
              try simp only [Act.put, List.setIfInBounds_toArray, List.set_cons_zero, List.set_cons_succ]
              refine wpAnyIn_ready (rs := [5]) (by kernel_rfl) (by simp) ?_
              refine AllReadyIn.cons rfl (fun K hK => ?_) ?_
              · go_simp
                refine hK _ _ ?_
                clear hK K
                try simp only [Act.put, List.setIfInBounds_toArray, List.set_cons_zero, List.set_cons_succ]
                refine wpAnyIn_ready (rs := [6]) (by kernel_rfl) (by simp) ?_
                refine AllReadyIn.cons rfl (fun K hK => ?_) ?_
                · refine stepIn_append rfl _ _ 94 rfl v _ _ rfl rfl hap ?_
                  refine hK _ _ ?_
                  clear hK K
                  try simp only [Act.put, List.setIfInBounds_toArray]
                  refine wpAnyIn_ready (rs := [7]) (by kernel_rfl) (by simp) ?_
                  refine AllReadyIn.cons rfl (fun K hK => ?_) ?_
                  · go_simp
                    refine hK _ _ ?_
                    clear hK K
                    refine wpAnyIn_done (by kernel_rfl) ?_ _
                    gi_wp2
                    have R := text_round (BB := w1.heap.size + 1 + 1 + 1 + 1) HBW.out hsW HB.out hbw HGR.out HOB.out HOW.out cX3 fX3 hcs hct
                    refine ⟨?_, R.2.1, ?_⟩
                    · simp only [World.size_alloc]; exact R.1
                    · dsimp only
                      rw [HM.out, List.length_append, hpl]
                      exact R.2.2
                  exact AllReadyIn.nil
                exact AllReadyIn.nil
              exact AllReadyIn.nil
            exact AllReadyIn.nil
          refine AllReadyIn.cons rfl (fun K hK => ?_) ?_
          · go_simp
            (refine ⟨trivial, ?_⟩; gi_at_call 41; refine (CallsIn.inRound l (callsIn_wide.2 IC.out)).mono ?_; rintro e w' ⟨rfl, hb1⟩; clear IC; have hbW : Below W.heap.size W w' := (Below.refl _ W).drew.trans hb1; have HBW := hidden hbW; have cX : w'.cell? ⟨w1.heap.size, 0, none⟩ = some v := (hbW.cell (p := ⟨w1.heap.size, 0, none⟩) hX).trans hcx; have fX : w'.frozen? ⟨w1.heap.size, 0, none⟩ = false := (hbW.frozen (p := ⟨w1.heap.size, 0, none⟩) hX).trans hfx; have cX2 := keepCell cX (.cells #[.string u] 9); have hrw := ownsRow_stays HROW.out (Below.by hbW) (fun r e => by cases e); obtain ⟨g, cap, w2, hap, how, hgr, hob⟩ := push_text w' (w1.heap.size + 1 + 1 + 1 + 1) v k (txL N A T m pre) u hrw HL.out (Nat.le_trans hsW hbW.size); have HOB := hidden hob; clear hob; have hw2 : w1.heap.size < w'.heap.size := Nat.lt_of_lt_of_le hX hbW.size; have hbl : w2.heap[w1.heap.size]? = (w'.alloc (.cells #[.string u] 9)).heap[w1.heap.size]? := hgr.block _ (Nat.lt_of_lt_of_le hw2 (by simp)) (fun e => by have := (HOB.out _ e.symm).1; omega); have cX3 : w2.cell? ⟨w1.heap.size, 0, none⟩ = some v := (World.cell?_of_block (a := ⟨w1.heap.size, 0, none⟩) hbl).trans cX2; have fX3 : w2.frozen? ⟨w1.heap.size, 0, none⟩ = false := (World.frozen?_of_block (a := ⟨w1.heap.size, 0, none⟩) hbl).trans (((alloc_below w' _).frozen (p := ⟨w1.heap.size, 0, none⟩) hw2).trans fX); have HOW := hidden how; have HGR := hidden hgr; clear hb1 hbW how hgr hbl hrw)
            dsimp only
            refine hK _ _ ?_
            clear hK K
            try simp only [Act.put, List.setIfInBounds_toArray, List.set_cons_zero, List.set_cons_succ]
            refine wpAnyIn_ready (rs := [0, 5]) (by kernel_rfl) (by simp) ?_
            refine AllReadyIn.cons rfl (fun K hK => ?_) ?_
            · go_simp
              refine hK _ _ ?_
              clear hK K
              try simp only [Act.put, List.setIfInBounds_toArray, List.set_cons_zero, List.set_cons_succ]
              refine wpAnyIn_ready (rs := [5]) (by kernel_rfl) (by simp) ?_
              refine AllReadyIn.cons rfl (fun K hK => ?_) ?_
              · go_simp
                refine hK _ _ ?_
                clear hK K
                try simp only [Act.put, List.setIfInBounds_toArray, List.set_cons_zero, List.set_cons_succ]
                refine wpAnyIn_ready (rs := [6]) (by kernel_rfl) (by simp) ?_
                refine AllReadyIn.cons rfl (fun K hK => ?_) ?_
                · refine stepIn_append rfl _ _ 94 rfl v _ _ rfl rfl hap ?_
                  refine hK _ _ ?_
                  clear hK K
                  try simp only [Act.put, List.setIfInBounds_toArray]
                  refine wpAnyIn_ready (rs := [7]) (by kernel_rfl) (by simp) ?_
                  refine AllReadyIn.cons rfl (fun K hK => ?_) ?_
                  · go_simp
                    refine hK _ _ ?_
                    clear hK K
                    refine wpAnyIn_done (by kernel_rfl) ?_ _
                    gi_wp2
                    have R := text_round (BB := w1.heap.size + 1 + 1 + 1 + 1) HBW.out hsW HB.out hbw HGR.out HOB.out HOW.out cX3 fX3 hcs hct
                    refine ⟨?_, R.2.1, ?_⟩
                    · simp only [World.size_alloc]; exact R.1
                    · dsimp only
                      rw [HM.out, List.length_append, hpl]
                      exact R.2.2
                  exact AllReadyIn.nil
                exact AllReadyIn.nil
              exact AllReadyIn.nil
            refine AllReadyIn.cons rfl (fun K hK => ?_) ?_
            · go_simp
              refine hK _ _ ?_
              clear hK K
              try simp only [Act.put, List.setIfInBounds_toArray, List.set_cons_zero, List.set_cons_succ]
              refine wpAnyIn_ready (rs := [0]) (by kernel_rfl) (by simp) ?_
              refine AllReadyIn.cons rfl (fun K hK => ?_) ?_
              · go_simp
                refine hK _ _ ?_
                clear hK K
                try simp only [Act.put, List.setIfInBounds_toArray, List.set_cons_zero, List.set_cons_succ]
                refine wpAnyIn_ready (rs := [6]) (by kernel_rfl) (by simp) ?_
                refine AllReadyIn.cons rfl (fun K hK => ?_) ?_
                · refine stepIn_append rfl _ _ 94 rfl v _ _ rfl rfl hap ?_
                  refine hK _ _ ?_
                  clear hK K
                  try simp only [Act.put, List.setIfInBounds_toArray]
                  refine wpAnyIn_ready (rs := [7]) (by kernel_rfl) (by simp) ?_
                  refine AllReadyIn.cons rfl (fun K hK => ?_) ?_
                  · go_simp
                    refine hK _ _ ?_
                    clear hK K
                    refine wpAnyIn_done (by kernel_rfl) ?_ _
                    gi_wp2
                    have R := text_round (BB := w1.heap.size + 1 + 1 + 1 + 1) HBW.out hsW HB.out hbw HGR.out HOB.out HOW.out cX3 fX3 hcs hct
                    refine ⟨?_, R.2.1, ?_⟩
                    · simp only [World.size_alloc]; exact R.1
                    · dsimp only
                      rw [HM.out, List.length_append, hpl]
                      exact R.2.2
                  exact AllReadyIn.nil
                exact AllReadyIn.nil
              exact AllReadyIn.nil
            exact AllReadyIn.nil
          exact AllReadyIn.nil
        exact AllReadyIn.nil
      exact AllReadyIn.nil
    refine AllReadyIn.cons rfl (fun K hK => ?_) ?_
    · go_simp
      refine hK _ _ ?_
      clear hK K
      try simp only [Act.put, List.setIfInBounds_toArray, List.set_cons_zero, List.set_cons_succ]
      refine wpAnyIn_ready (rs := [0, 1, 2]) (by kernel_rfl) (by simp) ?_
      refine AllReadyIn.cons rfl (fun K hK => ?_) ?_
      · go_simp
        refine hK _ _ ?_
        clear hK K
        try simp only [Act.put, List.setIfInBounds_toArray, List.set_cons_zero, List.set_cons_succ]
        refine wpAnyIn_ready (rs := [1, 2]) (by kernel_rfl) (by simp) ?_
        refine AllReadyIn.cons rfl (fun K hK => ?_) ?_
        · go_simp
          refine hK _ _ ?_
          clear hK K
          try simp only [Act.put, List.setIfInBounds_toArray, List.set_cons_zero, List.set_cons_succ]
          refine wpAnyIn_ready (rs := [2]) (by kernel_rfl) (by simp) ?_
          refine AllReadyIn.cons rfl (fun K hK => ?_) ?_
          · go_simp
            refine hK _ _ ?_
            clear hK K
            try simp only [Act.put, List.setIfInBounds_toArray, List.set_cons_zero, List.set_cons_succ]
            refine wpAnyIn_ready (rs := [4]) (by kernel_rfl) (by simp) ?_
            refine AllReadyIn.cons rfl (fun K hK => ?_) ?_
            · go_simp
              (refine ⟨trivial, ?_⟩; gi_at_call 41; refine (CallsIn.inRound l (callsIn_wide.2 IC.out)).mono ?_; rintro e w' ⟨rfl, hb1⟩; clear IC; have hbW : Below W.heap.size W w' := (Below.refl _ W).drew.trans hb1; have HBW := hidden hbW; have cX : w'.cell? ⟨w1.heap.size, 0, none⟩ = some v := (hbW.cell (p := ⟨w1.heap.size, 0, none⟩) hX).trans hcx; have fX : w'.frozen? ⟨w1.heap.size, 0, none⟩ = false := (hbW.frozen (p := ⟨w1.heap.size, 0, none⟩) hX).trans hfx; have cX2 := keepCell cX (.cells #[.string u] 9); have hrw := ownsRow_stays HROW.out (Below.by hbW) (fun r e => by cases e); obtain ⟨g, cap, w2, hap, how, hgr, hob⟩ := push_text w' (w1.heap.size + 1 + 1 + 1 + 1) v k (txL N A T m pre) u hrw HL.out (Nat.le_trans hsW hbW.size); have HOB := hidden hob; clear hob; have hw2 : w1.heap.size < w'.heap.size := Nat.lt_of_lt_of_le hX hbW.size; have hbl : w2.heap[w1.heap.size]? = (w'.alloc (.cells #[.string u] 9)).heap[w1.heap.size]? := hgr.block _ (Nat.lt_of_lt_of_le hw2 (by simp)) (fun e => by have := (HOB.out _ e.symm).1; omega); have cX3 : w2.cell? ⟨w1.heap.size, 0, none⟩ = some v := (World.cell?_of_block (a := ⟨w1.heap.size, 0, none⟩) hbl).trans cX2; have fX3 : w2.frozen? ⟨w1.heap.size, 0, none⟩ = false := (World.frozen?_of_block (a := ⟨w1.heap.size, 0, none⟩) hbl).trans (((alloc_below w' _).frozen (p := ⟨w1.heap.size, 0, none⟩) hw2).trans fX); have HOW := hidden how; have HGR := hidden hgr; clear hb1 hbW how hgr hbl hrw)
              dsimp only
              refine hK _ _ ?_
              clear hK K
              try simp only [Act.put, List.setIfInBounds_toArray, List.set_cons_zero, List.set_cons_succ]
              refine wpAnyIn_ready (rs := [5]) (by kernel_rfl) (by simp) ?_
              refine AllReadyIn.cons rfl (fun K hK => ?_) ?_
              · go_simp
                refine hK _ _ ?_
                clear hK K
                try simp only [Act.put, List.setIfInBounds_toArray, List.set_cons_zero, List.set_cons_succ]
                refine wpAnyIn_ready (rs := [6]) (by kernel_rfl) (by simp) ?_
                refine AllReadyIn.cons rfl (fun K hK => ?_) ?_
                · refine stepIn_append rfl _ _ 94 rfl v _ _ rfl rfl hap ?_
                  refine hK _ _ ?_
                  clear hK K
                  try simp only [Act.put, List.setIfInBounds_toArray]
                  refine wpAnyIn_ready (rs := [7]) (by kernel_rfl) (by simp) ?_
                  refine AllReadyIn.cons rfl (fun K hK => ?_) ?_
                  · go_simp
                    refine hK _ _ ?_
                    clear hK K
                    refine wpAnyIn_done (by kernel_rfl) ?_ _
                    gi_wp2
                    have R := text_round (BB := w1.heap.size + 1 + 1 + 1 + 1) HBW.out hsW HB.out hbw HGR.out HOB.out HOW.out cX3 fX3 hcs hct
                    refine ⟨?_, R.2.1, ?_⟩
                    · simp only [World.size_alloc]; exact R.1
                    · dsimp only
                      rw [HM.out, List.length_append, hpl]
                      exact R.2.2
                  exact AllReadyIn.nil
                exact AllReadyIn.nil
              exact AllReadyIn.nil
            exact AllReadyIn.nil
          exact AllReadyIn.nil
        refine AllReadyIn.cons rfl (fun K hK => ?_) ?_
        · go_simp
          refine hK _ _ ?_
          clear hK K
          try simp only [Act.put, List.setIfInBounds_toArray, List.set_cons_zero, List.set_cons_succ]
          refine wpAnyIn_ready (rs := [1]) (by kernel_rfl) (by simp) ?_
          refine AllReadyIn.cons rfl (fun K hK => ?_) ?_
          · go_simp
            refine hK _ _ ?_
            clear hK K
            try simp only [Act.put, List.setIfInBounds_toArray, List.set_cons_zero, List.set_cons_succ]
            refine wpAnyIn_ready (rs := [4]) (by kernel_rfl) (by simp) ?_
            refine AllReadyIn.cons rfl (fun K hK => ?_) ?_
            · go_simp
              (refine ⟨trivial, ?_⟩; gi_at_call 41; refine (CallsIn.inRound l (callsIn_wide.2 IC.out)).mono ?_; rintro e w' ⟨rfl, hb1⟩; clear IC; have hbW : Below W.heap.size W w' := (Below.refl _ W).drew.trans hb1; have HBW := hidden hbW; have cX : w'.cell? ⟨w1.heap.size, 0, none⟩ = some v := (hbW.cell (p := ⟨w1.heap.size, 0, none⟩) hX).trans hcx; have fX : w'.frozen? ⟨w1.heap.size, 0, none⟩ = false := (hbW.frozen (p := ⟨w1.heap.size, 0, none⟩) hX).trans hfx; have cX2 := keepCell cX (.cells #[.string u] 9); have hrw := ownsRow_stays HROW.out (Below.by hbW) (fun r e => by cases e); obtain ⟨g, cap, w2, hap, how, hgr, hob⟩ := push_text w' (w1.heap.size + 1 + 1 + 1 + 1) v k (txL N A T m pre) u hrw HL.out (Nat.le_trans hsW hbW.size); have HOB := hidden hob; clear hob; have hw2 : w1.heap.size < w'.heap.size := Nat.lt_of_lt_of_le hX hbW.size; have hbl : w2.heap[w1.heap.size]? = (w'.alloc (.cells #[.string u] 9)).heap[w1.heap.size]? := hgr.block _ (Nat.lt_of_lt_of_le hw2 (by simp)) (fun e => by have := (HOB.out _ e.symm).1; omega); have cX3 : w2.cell? ⟨w1.heap.size, 0, none⟩ = some v := (World.cell?_of_block (a := ⟨w1.heap.size, 0, none⟩) hbl).trans cX2; have fX3 : w2.frozen? ⟨w1.heap.size, 0, none⟩ = false := (World.frozen?_of_block (a := ⟨w1.heap.size, 0, none⟩) hbl).trans (((alloc_below w' _).frozen (p := ⟨w1.heap.size, 0, none⟩) hw2).trans fX); have HOW := hidden how; have HGR := hidden hgr; clear hb1 hbW how hgr hbl hrw)
              dsimp only
              refine hK _ _ ?_
              clear hK K
              try simp only [Act.put, List.setIfInBounds_toArray, List.set_cons_zero, List.set_cons_succ]
              refine wpAnyIn_ready (rs := [5]) (by kernel_rfl) (by simp) ?_
              refine AllReadyIn.cons rfl (fun K hK => ?_) ?_
              · go_simp
                refine hK _ _ ?_
                clear hK K
                try simp only [Act.put, List.setIfInBounds_toArray, List.set_cons_zero, List.set_cons_succ]
                refine wpAnyIn_ready (rs := [6]) (by kernel_rfl) (by simp) ?_
                refine AllReadyIn.cons rfl (fun K hK => ?_) ?_
                · refine stepIn_append rfl _ _ 94 rfl v _ _ rfl rfl hap ?_
                  refine hK _ _ ?_
                  clear hK K
                  try simp only [Act.put, List.setIfInBounds_toArray]
                  refine wpAnyIn_ready (rs := [7]) (by kernel_rfl) (by simp) ?_
                  refine AllReadyIn.cons rfl (fun K hK => ?_) ?_
                  · go_simp
                    refine hK _ _ ?_
                    clear hK K
                    refine wpAnyIn_done (by kernel_rfl) ?_ _
                    gi_wp2
                    have R := text_round (BB := w1.heap.size + 1 + 1 + 1 + 1) HBW.out hsW HB.out hbw HGR.out HOB.out HOW.out cX3 fX3 hcs hct
                    refine ⟨?_, R.2.1, ?_⟩
                    · simp only [World.size_alloc]; exact R.1
                    · dsimp only
                      rw [HM.out, List.length_append, hpl]
                      exact R.2.2
                  exact AllReadyIn.nil
                exact AllReadyIn.nil
              exact AllReadyIn.nil
            exact AllReadyIn.nil
          exact AllReadyIn.nil
        exact AllReadyIn.nil
      refine AllReadyIn.cons rfl (fun K hK => ?_) ?_
      · go_simp
        refine hK _ _ ?_
        clear hK K
        try simp only [Act.put, List.setIfInBounds_toArray, List.set_cons_zero, List.set_cons_succ]
        refine wpAnyIn_ready (rs := [0, 2]) (by kernel_rfl) (by simp) ?_
        refine AllReadyIn.cons rfl (fun K hK => ?_) ?_
        · go_simp
          refine hK _ _ ?_
          clear hK K
          try simp only [Act.put, List.setIfInBounds_toArray, List.set_cons_zero, List.set_cons_succ]
          refine wpAnyIn_ready (rs := [2]) (by kernel_rfl) (by simp) ?_
          refine AllReadyIn.cons rfl (fun K hK => ?_) ?_
          · go_simp
            refine hK _ _ ?_
            clear hK K
            try simp only [Act.put, List.setIfInBounds_toArray, List.set_cons_zero, List.set_cons_succ]
            refine wpAnyIn_ready (rs := [4]) (by kernel_rfl) (by simp) ?_
            refine AllReadyIn.cons rfl (fun K hK => ?_) ?_
            · go_simp
              (refine ⟨trivial, ?_⟩; gi_at_call 41; refine (CallsIn.inRound l (callsIn_wide.2 IC.out)).mono ?_; rintro e w' ⟨rfl, hb1⟩; clear IC; have hbW : Below W.heap.size W w' := (Below.refl _ W).drew.trans hb1; have HBW := hidden hbW; have cX : w'.cell? ⟨w1.heap.size, 0, none⟩ = some v := (hbW.cell (p := ⟨w1.heap.size, 0, none⟩) hX).trans hcx; have fX : w'.frozen? ⟨w1.heap.size, 0, none⟩ = false := (hbW.frozen (p := ⟨w1.heap.size, 0, none⟩) hX).trans hfx; have cX2 := keepCell cX (.cells #[.string u] 9); have hrw := ownsRow_stays HROW.out (Below.by hbW) (fun r e => by cases e); obtain ⟨g, cap, w2, hap, how, hgr, hob⟩ := push_text w' (w1.heap.size + 1 + 1 + 1 + 1) v k (txL N A T m pre) u hrw HL.out (Nat.le_trans hsW hbW.size); have HOB := hidden hob; clear hob; have hw2 : w1.heap.size < w'.heap.size := Nat.lt_of_lt_of_le hX hbW.size; have hbl : w2.heap[w1.heap.size]? = (w'.alloc (.cells #[.string u] 9)).heap[w1.heap.size]? := hgr.block _ (Nat.lt_of_lt_of_le hw2 (by simp)) (fun e => by have := (HOB.out _ e.symm).1; omega); have cX3 : w2.cell? ⟨w1.heap.size, 0, none⟩ = some v := (World.cell?_of_block (a := ⟨w1.heap.size, 0, none⟩) hbl).trans cX2; have fX3 : w2.frozen? ⟨w1.heap.size, 0, none⟩ = false := (World.frozen?_of_block (a := ⟨w1.heap.size, 0, none⟩) hbl).trans (((alloc_below w' _).frozen (p := ⟨w1.heap.size, 0, none⟩) hw2).trans fX); have HOW := hidden how; have HGR := hidden hgr; clear hb1 hbW how hgr hbl hrw)
              dsimp only
              refine hK _ _ ?_
              clear hK K
              try simp only [Act.put, List.setIfInBounds_toArray, List.set_cons_zero, List.set_cons_succ]
              refine wpAnyIn_ready (rs := [5]) (by kernel_rfl) (by simp) ?_
              refine AllReadyIn.cons rfl (fun K hK => ?_) ?_
              · go_simp
                refine hK _ _ ?_
                clear hK K
                try simp only [Act.put, List.setIfInBounds_toArray, List.set_cons_zero, List.set_cons_succ]
                refine wpAnyIn_ready (rs := [6]) (by kernel_rfl) (by simp) ?_
                refine AllReadyIn.cons rfl (fun K hK => ?_) ?_
                · refine stepIn_append rfl _ _ 94 rfl v _ _ rfl rfl hap ?_
                  refine hK _ _ ?_
                  clear hK K
                  try simp only [Act.put, List.setIfInBounds_toArray]
                  refine wpAnyIn_ready (rs := [7]) (by kernel_rfl) (by simp) ?_
                  refine AllReadyIn.cons rfl (fun K hK => ?_) ?_
                  · go_simp
                    refine hK _ _ ?_
                    clear hK K
                    refine wpAnyIn_done (by kernel_rfl) ?_ _
                    gi_wp2
                    have R := text_round (BB := w1.heap.size + 1 + 1 + 1 + 1) HBW.out hsW HB.out hbw HGR.out HOB.out HOW.out cX3 fX3 hcs hct
                    refine ⟨?_, R.2.1, ?_⟩
                    · simp only [World.size_alloc]; exact R.1
                    · dsimp only
                      rw [HM.out, List.length_append, hpl]
                      exact R.2.2
                  exact AllReadyIn.nil
                exact AllReadyIn.nil
              exact AllReadyIn.nil
            exact AllReadyIn.nil
          exact AllReadyIn.nil
        refine AllReadyIn.cons rfl (fun K hK => ?_) ?_
        · go_simp
          refine hK _ _ ?_
          clear hK K
          try simp only [Act.put, List.setIfInBounds_toArray, List.set_cons_zero, List.set_cons_succ]
          refine wpAnyIn_ready (rs := [0, 4]) (by kernel_rfl) (by simp) ?_
          refine AllReadyIn.cons rfl (fun K hK => ?_) ?_
          · go_simp
            refine hK _ _ ?_
            clear hK K
            try simp only [Act.put, List.setIfInBounds_toArray, List.set_cons_zero, List.set_cons_succ]
            refine wpAnyIn_ready (rs := [4]) (by kernel_rfl) (by simp) ?_
            refine AllReadyIn.cons rfl (fun K hK => ?_) ?_
            · go_simp
              (refine ⟨trivial, ?_⟩; gi_at_call 41; refine (CallsIn.inRound l (callsIn_wide.2 IC.out)).mono ?_; rintro e w' ⟨rfl, hb1⟩; clear IC; have hbW : Below W.heap.size W w' := (Below.refl _ W).drew.trans hb1; have HBW := hidden hbW; have cX : w'.cell? ⟨w1.heap.size, 0, none⟩ = some v := (hbW.cell (p := ⟨w1.heap.size, 0, none⟩) hX).trans hcx; have fX : w'.frozen? ⟨w1.heap.size, 0, none⟩ = false := (hbW.frozen (p := ⟨w1.heap.size, 0, none⟩) hX).trans hfx; have cX2 := keepCell cX (.cells #[.string u] 9); have hrw := ownsRow_stays HROW.out (Below.by hbW) (fun r e => by cases e); obtain ⟨g, cap, w2, hap, how, hgr, hob⟩ := push_text w' (w1.heap.size + 1 + 1 + 1 + 1) v k (txL N A T m pre) u hrw HL.out (Nat.le_trans hsW hbW.size); have HOB := hidden hob; clear hob; have hw2 : w1.heap.size < w'.heap.size := Nat.lt_of_lt_of_le hX hbW.size; have hbl : w2.heap[w1.heap.size]? = (w'.alloc (.cells #[.string u] 9)).heap[w1.heap.size]? := hgr.block _ (Nat.lt_of_lt_of_le hw2 (by simp)) (fun e => by have := (HOB.out _ e.symm).1; omega); have cX3 : w2.cell? ⟨w1.heap.size, 0, none⟩ = some v := (World.cell?_of_block (a := ⟨w1.heap.size, 0, none⟩) hbl).trans cX2; have fX3 : w2.frozen? ⟨w1.heap.size, 0, none⟩ = false := (World.frozen?_of_block (a := ⟨w1.heap.size, 0, none⟩) hbl).trans (((alloc_below w' _).frozen (p := ⟨w1.heap.size, 0, none⟩) hw2).trans fX); have HOW := hidden how; have HGR := hidden hgr; clear hb1 hbW how hgr hbl hrw)
              dsimp only
              refine hK _ _ ?_
              clear hK K
              try simp only [Act.put, List.setIfInBounds_toArray, List.set_cons_zero, List.set_cons_succ]
              refine wpAnyIn_ready (rs := [5]) (by kernel_rfl) (by simp) ?_
              refine AllReadyIn.cons rfl (fun K hK => ?_) ?_
              · go_simp
                refine hK _ _ ?_
                clear hK K
                try simp only [Act.put, List.setIfInBounds_toArray, List.set_cons_zero, List.set_cons_succ]
                refine wpAnyIn_ready (rs := [6]) (by kernel_rfl) (by simp) ?_
                refine AllReadyIn.cons rfl (fun K hK => ?_) ?_
                · refine stepIn_append rfl _ _ 94 rfl v _ _ rfl rfl hap ?_
                  refine hK _ _ ?_
                  clear hK K
                  try simp only [Act.put, List.setIfInBounds_toArray]
                  refine wpAnyIn_ready (rs := [7]) (by kernel_rfl) (by simp) ?_
                  refine AllReadyIn.cons rfl (fun K hK => ?_) ?_
                  · go_simp
                    refine hK _ _ ?_
                    clear hK K
                    refine wpAnyIn_done (by kernel_rfl) ?_ _
                    gi_wp2
                    have R := text_round (BB := w1.heap.size + 1 + 1 + 1 + 1) HBW.out hsW HB.out hbw HGR.out HOB.out HOW.out cX3 fX3 hcs hct
                    refine ⟨?_, R.2.1, ?_⟩
                    · simp only [World.size_alloc]; exact R.1
                    · dsimp only
                      rw [HM.out, List.length_append, hpl]
                      exact R.2.2
                  exact AllReadyIn.nil
                exact AllReadyIn.nil
              exact AllReadyIn.nil
            exact AllReadyIn.nil
          refine AllReadyIn.cons rfl (fun K hK => ?_) ?_
          · go_simp
            (refine ⟨trivial, ?_⟩; gi_at_call 41; refine (CallsIn.inRound l (callsIn_wide.2 IC.out)).mono ?_; rintro e w' ⟨rfl, hb1⟩; clear IC; have hbW : Below W.heap.size W w' := (Below.refl _ W).drew.trans hb1; have HBW := hidden hbW; have cX : w'.cell? ⟨w1.heap.size, 0, none⟩ = some v := (hbW.cell (p := ⟨w1.heap.size, 0, none⟩) hX).trans hcx; have fX : w'.frozen? ⟨w1.heap.size, 0, none⟩ = false := (hbW.frozen (p := ⟨w1.heap.size, 0, none⟩) hX).trans hfx; have cX2 := keepCell cX (.cells #[.string u] 9); have hrw := ownsRow_stays HROW.out (Below.by hbW) (fun r e => by cases e); obtain ⟨g, cap, w2, hap, how, hgr, hob⟩ := push_text w' (w1.heap.size + 1 + 1 + 1 + 1) v k (txL N A T m pre) u hrw HL.out (Nat.le_trans hsW hbW.size); have HOB := hidden hob; clear hob; have hw2 : w1.heap.size < w'.heap.size := Nat.lt_of_lt_of_le hX hbW.size; have hbl : w2.heap[w1.heap.size]? = (w'.alloc (.cells #[.string u] 9)).heap[w1.heap.size]? := hgr.block _ (Nat.lt_of_lt_of_le hw2 (by simp)) (fun e => by have := (HOB.out _ e.symm).1; omega); have cX3 : w2.cell? ⟨w1.heap.size, 0, none⟩ = some v := (World.cell?_of_block (a := ⟨w1.heap.size, 0, none⟩) hbl).trans cX2; have fX3 : w2.frozen? ⟨w1.heap.size, 0, none⟩ = false := (World.frozen?_of_block (a := ⟨w1.heap.size, 0, none⟩) hbl).trans (((alloc_below w' _).frozen (p := ⟨w1.heap.size, 0, none⟩) hw2).trans fX); have HOW := hidden how; have HGR := hidden hgr; clear hb1 hbW how hgr hbl hrw)
            dsimp only
            refine hK _ _ ?_
            clear hK K
            try simp only [Act.put, List.setIfInBounds_toArray, List.set_cons_zero, List.set_cons_succ]
            refine wpAnyIn_ready (rs := [0, 5]) (by kernel_rfl) (by simp) ?_
            refine AllReadyIn.cons rfl (fun K hK => ?_) ?_
            · go_simp
              refine hK _ _ ?_
              clear hK K
              try simp only [Act.put, List.setIfInBounds_toArray, List.set_cons_zero, List.set_cons_succ]
              refine wpAnyIn_ready (rs := [5]) (by kernel_rfl) (by simp) ?_
              refine AllReadyIn.cons rfl (fun K hK => ?_) ?_
              · go_simp
                refine hK _ _ ?_
                clear hK K
                try simp only [Act.put, List.setIfInBounds_toArray, List.set_cons_zero, List.set_cons_succ]
                refine wpAnyIn_ready (rs := [6]) (by kernel_rfl) (by simp) ?_
                refine AllReadyIn.cons rfl (fun K hK => ?_) ?_
                · refine stepIn_append rfl _ _ 94 rfl v _ _ rfl rfl hap ?_
                  refine hK _ _ ?_
                  clear hK K
                  try simp only [Act.put, List.setIfInBounds_toArray]
                  refine wpAnyIn_ready (rs := [7]) (by kernel_rfl) (by simp) ?_
                  refine AllReadyIn.cons rfl (fun K hK => ?_) ?_
                  · go_simp
                    refine hK _ _ ?_
                    clear hK K
                    refine wpAnyIn_done (by kernel_rfl) ?_ _
                    gi_wp2
                    have R := text_round (BB := w1.heap.size + 1 + 1 + 1 + 1) HBW.out hsW HB.out hbw HGR.out HOB.out HOW.out cX3 fX3 hcs hct
                    refine ⟨?_, R.2.1, ?_⟩
                    · simp only [World.size_alloc]; exact R.1
                    · dsimp only
                      rw [HM.out, List.length_append, hpl]
                      exact R.2.2
                  exact AllReadyIn.nil
                exact AllReadyIn.nil
              exact AllReadyIn.nil
            refine AllReadyIn.cons rfl (fun K hK => ?_) ?_
            · go_simp
              refine hK _ _ ?_
              clear hK K
              try simp only [Act.put, List.setIfInBounds_toArray, List.set_cons_zero, List.set_cons_succ]
              refine wpAnyIn_ready (rs := [0]) (by kernel_rfl) (by simp) ?_
              refine AllReadyIn.cons rfl (fun K hK => ?_) ?_
              · go_simp
                refine hK _ _ ?_
                clear hK K
                try simp only [Act.put, List.setIfInBounds_toArray, List.set_cons_zero, List.set_cons_succ]
                refine wpAnyIn_ready (rs := [6]) (by kernel_rfl) (by simp) ?_
                refine AllReadyIn.cons rfl (fun K hK => ?_) ?_
                · refine stepIn_append rfl _ _ 94 rfl v _ _ rfl rfl hap ?_
                  refine hK _ _ ?_
                  clear hK K
                  try simp only [Act.put, List.setIfInBounds_toArray]
                  refine wpAnyIn_ready (rs := [7]) (by kernel_rfl) (by simp) ?_
                  refine AllReadyIn.cons rfl (fun K hK => ?_) ?_
                  · go_simp
                    refine hK _ _ ?_
                    clear hK K
                    refine wpAnyIn_done (by kernel_rfl) ?_ _
                    gi_wp2
                    have R := text_round (BB := w1.heap.size + 1 + 1 + 1 + 1) HBW.out hsW HB.out hbw HGR.out HOB.out HOW.out cX3 fX3 hcs hct
                    refine ⟨?_, R.2.1, ?_⟩
                    · simp only [World.size_alloc]; exact R.1
                    · dsimp only
                      rw [HM.out, List.length_append, hpl]
                      exact R.2.2
                  exact AllReadyIn.nil
                exact AllReadyIn.nil
              exact AllReadyIn.nil
            exact AllReadyIn.nil
          exact AllReadyIn.nil
        exact AllReadyIn.nil
      refine AllReadyIn.cons rfl (fun K hK => ?_) ?_
      · go_simp
        refine hK _ _ ?_
        clear hK K
        try simp only [Act.put, List.setIfInBounds_toArray, List.set_cons_zero, List.set_cons_succ]
        refine wpAnyIn_ready (rs := [0, 1]) (by kernel_rfl) (by simp) ?_
        refine AllReadyIn.cons rfl (fun K hK => ?_) ?_
        · go_simp
          refine hK _ _ ?_
          clear hK K
          try simp only [Act.put, List.setIfInBounds_toArray, List.set_cons_zero, List.set_cons_succ]
          refine wpAnyIn_ready (rs := [1]) (by kernel_rfl) (by simp) ?_
          refine AllReadyIn.cons rfl (fun K hK => ?_) ?_
          · go_simp
            refine hK _ _ ?_
            clear hK K
            try simp only [Act.put, List.setIfInBounds_toArray, List.set_cons_zero, List.set_cons_succ]
            refine wpAnyIn_ready (rs := [4]) (by kernel_rfl) (by simp) ?_
            refine AllReadyIn.cons rfl (fun K hK => ?_) ?_
            · go_simp
              (refine ⟨trivial, ?_⟩; gi_at_call 41; refine (CallsIn.inRound l (callsIn_wide.2 IC.out)).mono ?_; rintro e w' ⟨rfl, hb1⟩; clear IC; have hbW : Below W.heap.size W w' := (Below.refl _ W).drew.trans hb1; have HBW := hidden hbW; have cX : w'.cell? ⟨w1.heap.size, 0, none⟩ = some v := (hbW.cell (p := ⟨w1.heap.size, 0, none⟩) hX).trans hcx; have fX : w'.frozen? ⟨w1.heap.size, 0, none⟩ = false := (hbW.frozen (p := ⟨w1.heap.size, 0, none⟩) hX).trans hfx; have cX2 := keepCell cX (.cells #[.string u] 9); have hrw := ownsRow_stays HROW.out (Below.by hbW) (fun r e => by cases e); obtain ⟨g, cap, w2, hap, how, hgr, hob⟩ := push_text w' (w1.heap.size + 1 + 1 + 1 + 1) v k (txL N A T m pre) u hrw HL.out (Nat.le_trans hsW hbW.size); have HOB := hidden hob; clear hob; have hw2 : w1.heap.size < w'.heap.size := Nat.lt_of_lt_of_le hX hbW.size; have hbl : w2.heap[w1.heap.size]? = (w'.alloc (.cells #[.string u] 9)).heap[w1.heap.size]? := hgr.block _ (Nat.lt_of_lt_of_le hw2 (by simp)) (fun e => by have := (HOB.out _ e.symm).1; omega); have cX3 : w2.cell? ⟨w1.heap.size, 0, none⟩ = some v := (World.cell?_of_block (a := ⟨w1.heap.size, 0, none⟩) hbl).trans cX2; have fX3 : w2.frozen? ⟨w1.heap.size, 0, none⟩ = false := (World.frozen?_of_block (a := ⟨w1.heap.size, 0, none⟩) hbl).trans (((alloc_below w' _).frozen (p := ⟨w1.heap.size, 0, none⟩) hw2).trans fX); have HOW := hidden how; have HGR := hidden hgr; clear hb1 hbW how hgr hbl hrw)
              dsimp only
              refine hK _ _ ?_
              clear hK K
              try simp only [Act.put, List.setIfInBounds_toArray, List.set_cons_zero, List.set_cons_succ]
              refine wpAnyIn_ready (rs := [5]) (by kernel_rfl) (by simp) ?_
              refine AllReadyIn.cons rfl (fun K hK => ?_) ?_
              · go_simp
                refine hK _ _ ?_
                clear hK K
                try simp only [Act.put, List.setIfInBounds_toArray, List.set_cons_zero, List.set_cons_succ]
                refine wpAnyIn_ready (rs := [6]) (by kernel_rfl) (by simp) ?_
                refine AllReadyIn.cons rfl (fun K hK => ?_) ?_
                · refine stepIn_append rfl _ _ 94 rfl v _ _ rfl rfl hap ?_
                  refine hK _ _ ?_
                  clear hK K
                  try simp only [Act.put, List.setIfInBounds_toArray]
                  refine wpAnyIn_ready (rs := [7]) (by kernel_rfl) (by simp) ?_
                  refine AllReadyIn.cons rfl (fun K hK => ?_) ?_
                  · go_simp
                    refine hK _ _ ?_
                    clear hK K
                    refine wpAnyIn_done (by kernel_rfl) ?_ _
                    gi_wp2
                    have R := text_round (BB := w1.heap.size + 1 + 1 + 1 + 1) HBW.out hsW HB.out hbw HGR.out HOB.out HOW.out cX3 fX3 hcs hct
                    refine ⟨?_, R.2.1, ?_⟩
                    · simp only [World.size_alloc]; exact R.1
                    · dsimp only
                      rw [HM.out, List.length_append, hpl]
                      exact R.2.2
                  exact AllReadyIn.nil
                exact AllReadyIn.nil
              exact AllReadyIn.nil
            exact AllReadyIn.nil
          exact AllReadyIn.nil
        refine AllReadyIn.cons rfl (fun K hK => ?_) ?_
        · go_simp
          refine hK _ _ ?_
          clear hK K
          try simp only [Act.put, List.setIfInBounds_toArray, List.set_cons_zero, List.set_cons_succ]
          refine wpAnyIn_ready (rs := [0, 4]) (by kernel_rfl) (by simp) ?_
          refine AllReadyIn.cons rfl (fun K hK => ?_) ?_
          · go_simp
            refine hK _ _ ?_
            clear hK K
            try simp only [Act.put, List.setIfInBounds_toArray, List.set_cons_zero, List.set_cons_succ]
            refine wpAnyIn_ready (rs := [4]) (by kernel_rfl) (by simp) ?_
            refine AllReadyIn.cons rfl (fun K hK => ?_) ?_
            · go_simp
              (refine ⟨trivial, ?_⟩; gi_at_call 41; refine (CallsIn.inRound l (callsIn_wide.2 IC.out)).mono ?_; rintro e w' ⟨rfl, hb1⟩; clear IC; have hbW : Below W.heap.size W w' := (Below.refl _ W).drew.trans hb1; have HBW := hidden hbW; have cX : w'.cell? ⟨w1.heap.size, 0, none⟩ = some v := (hbW.cell (p := ⟨w1.heap.size, 0, none⟩) hX).trans hcx; have fX : w'.frozen? ⟨w1.heap.size, 0, none⟩ = false := (hbW.frozen (p := ⟨w1.heap.size, 0, none⟩) hX).trans hfx; have cX2 := keepCell cX (.cells #[.string u] 9); have hrw := ownsRow_stays HROW.out (Below.by hbW) (fun r e => by cases e); obtain ⟨g, cap, w2, hap, how, hgr, hob⟩ := push_text w' (w1.heap.size + 1 + 1 + 1 + 1) v k (txL N A T m pre) u hrw HL.out (Nat.le_trans hsW hbW.size); have HOB := hidden hob; clear hob; have hw2 : w1.heap.size < w'.heap.size := Nat.lt_of_lt_of_le hX hbW.size; have hbl : w2.heap[w1.heap.size]? = (w'.alloc (.cells #[.string u] 9)).heap[w1.heap.size]? := hgr.block _ (Nat.lt_of_lt_of_le hw2 (by simp)) (fun e => by have := (HOB.out _ e.symm).1; omega); have cX3 : w2.cell? ⟨w1.heap.size, 0, none⟩ = some v := (World.cell?_of_block (a := ⟨w1.heap.size, 0, none⟩) hbl).trans cX2; have fX3 : w2.frozen? ⟨w1.heap.size, 0, none⟩ = false := (World.frozen?_of_block (a := ⟨w1.heap.size, 0, none⟩) hbl).trans (((alloc_below w' _).frozen (p := ⟨w1.heap.size, 0, none⟩) hw2).trans fX); have HOW := hidden how; have HGR := hidden hgr; clear hb1 hbW how hgr hbl hrw)
              dsimp only
              refine hK _ _ ?_
              clear hK K
              try simp only [Act.put, List.setIfInBounds_toArray, List.set_cons_zero, List.set_cons_succ]
              refine wpAnyIn_ready (rs := [5]) (by kernel_rfl) (by simp) ?_
              refine AllReadyIn.cons rfl (fun K hK => ?_) ?_
              · go_simp
                refine hK _ _ ?_
                clear hK K
                try simp only [Act.put, List.setIfInBounds_toArray, List.set_cons_zero, List.set_cons_succ]
                refine wpAnyIn_ready (rs := [6]) (by kernel_rfl) (by simp) ?_
                refine AllReadyIn.cons rfl (fun K hK => ?_) ?_
                · refine stepIn_append rfl _ _ 94 rfl v _ _ rfl rfl hap ?_
                  refine hK _ _ ?_
                  clear hK K
                  try simp only [Act.put, List.setIfInBounds_toArray]
                  refine wpAnyIn_ready (rs := [7]) (by kernel_rfl) (by simp) ?_
                  refine AllReadyIn.cons rfl (fun K hK => ?_) ?_
                  · go_simp
                    refine hK _ _ ?_
                    clear hK K
                    refine wpAnyIn_done (by kernel_rfl) ?_ _
                    gi_wp2
                    have R := text_round (BB := w1.heap.size + 1 + 1 + 1 + 1) HBW.out hsW HB.out hbw HGR.out HOB.out HOW.out cX3 fX3 hcs hct
                    refine ⟨?_, R.2.1, ?_⟩
                    · simp only [World.size_alloc]; exact R.1
                    · dsimp only
                      rw [HM.out, List.length_append, hpl]
                      exact R.2.2
                  exact AllReadyIn.nil
                exact AllReadyIn.nil
              exact AllReadyIn.nil
            exact AllReadyIn.nil
          refine AllReadyIn.cons rfl (fun K hK => ?_) ?_
          · go_simp
            (refine ⟨trivial, ?_⟩; gi_at_call 41; refine (CallsIn.inRound l (callsIn_wide.2 IC.out)).mono ?_; rintro e w' ⟨rfl, hb1⟩; clear IC; have hbW : Below W.heap.size W w' := (Below.refl _ W).drew.trans hb1; have HBW := hidden hbW; have cX : w'.cell? ⟨w1.heap.size, 0, none⟩ = some v := (hbW.cell (p := ⟨w1.heap.size, 0, none⟩) hX).trans hcx; have fX : w'.frozen? ⟨w1.heap.size, 0, none⟩ = false := (hbW.frozen (p := ⟨w1.heap.size, 0, none⟩) hX).trans hfx; have cX2 := keepCell cX (.cells #[.string u] 9); have hrw := ownsRow_stays HROW.out (Below.by hbW) (fun r e => by cases e); obtain ⟨g, cap, w2, hap, how, hgr, hob⟩ := push_text w' (w1.heap.size + 1 + 1 + 1 + 1) v k (txL N A T m pre) u hrw HL.out (Nat.le_trans hsW hbW.size); have HOB := hidden hob; clear hob; have hw2 : w1.heap.size < w'.heap.size := Nat.lt_of_lt_of_le hX hbW.size; have hbl : w2.heap[w1.heap.size]? = (w'.alloc (.cells #[.string u] 9)).heap[w1.heap.size]? := hgr.block _ (Nat.lt_of_lt_of_le hw2 (by simp)) (fun e => by have := (HOB.out _ e.symm).1; omega); have cX3 : w2.cell? ⟨w1.heap.size, 0, none⟩ = some v := (World.cell?_of_block (a := ⟨w1.heap.size, 0, none⟩) hbl).trans cX2; have fX3 : w2.frozen? ⟨w1.heap.size, 0, none⟩ = false := (World.frozen?_of_block (a := ⟨w1.heap.size, 0, none⟩) hbl).trans (((alloc_below w' _).frozen (p := ⟨w1.heap.size, 0, none⟩) hw2).trans fX); have HOW := hidden how; have HGR := hidden hgr; clear hb1 hbW how hgr hbl hrw)
            dsimp only
            refine hK _ _ ?_
            clear hK K
            try simp only [Act.put, List.setIfInBounds_toArray, List.set_cons_zero, List.set_cons_succ]
            refine wpAnyIn_ready (rs := [0, 5]) (by kernel_rfl) (by simp) ?_
            refine AllReadyIn.cons rfl (fun K hK => ?_) ?_
            · go_simp
              refine hK _ _ ?_
              clear hK K
              try simp only [Act.put, List.setIfInBounds_toArray, List.set_cons_zero, List.set_cons_succ]
              refine wpAnyIn_ready (rs := [5]) (by kernel_rfl) (by simp) ?_
              refine AllReadyIn.cons rfl (fun K hK => ?_) ?_
              · go_simp
                refine hK _ _ ?_
                clear hK K
                try simp only [Act.put, List.setIfInBounds_toArray, List.set_cons_zero, List.set_cons_succ]
                refine wpAnyIn_ready (rs := [6]) (by kernel_rfl) (by simp) ?_
                refine AllReadyIn.cons rfl (fun K hK => ?_) ?_
                · refine stepIn_append rfl _ _ 94 rfl v _ _ rfl rfl hap ?_
                  refine hK _ _ ?_
                  clear hK K
                  try simp only [Act.put, List.setIfInBounds_toArray]
                  refine wpAnyIn_ready (rs := [7]) (by kernel_rfl) (by simp) ?_
                  refine AllReadyIn.cons rfl (fun K hK => ?_) ?_
                  · go_simp
                    refine hK _ _ ?_
                    clear hK K
                    refine wpAnyIn_done (by kernel_rfl) ?_ _
                    gi_wp2
                    have R := text_round (BB := w1.heap.size + 1 + 1 + 1 + 1) HBW.out hsW HB.out hbw HGR.out HOB.out HOW.out cX3 fX3 hcs hct
                    refine ⟨?_, R.2.1, ?_⟩
                    · simp only [World.size_alloc]; exact R.1
                    · dsimp only
                      rw [HM.out, List.length_append, hpl]
                      exact R.2.2
                  exact AllReadyIn.nil
                exact AllReadyIn.nil
              exact AllReadyIn.nil
            refine AllReadyIn.cons rfl (fun K hK => ?_) ?_
            · go_simp
              refine hK _ _ ?_
              clear hK K
              try simp only [Act.put, List.setIfInBounds_toArray, List.set_cons_zero, List.set_cons_succ]
              refine wpAnyIn_ready (rs := [0]) (by kernel_rfl) (by simp) ?_
              refine AllReadyIn.cons rfl (fun K hK => ?_) ?_
              · go_simp
                refine hK _ _ ?_
                clear hK K
                try simp only [Act.put, List.setIfInBounds_toArray, List.set_cons_zero, List.set_cons_succ]
                refine wpAnyIn_ready (rs := [6]) (by kernel_rfl) (by simp) ?_
                refine AllReadyIn.cons rfl (fun K hK => ?_) ?_
                · refine stepIn_append rfl _ _ 94 rfl v _ _ rfl rfl hap ?_
                  refine hK _ _ ?_
                  clear hK K
                  try simp only [Act.put, List.setIfInBounds_toArray]
                  refine wpAnyIn_ready (rs := [7]) (by kernel_rfl) (by simp) ?_
                  refine AllReadyIn.cons rfl (fun K hK => ?_) ?_
                  · go_simp
                    refine hK _ _ ?_
                    clear hK K
                    refine wpAnyIn_done (by kernel_rfl) ?_ _
                    gi_wp2
                    have R := text_round (BB := w1.heap.size + 1 + 1 + 1 + 1) HBW.out hsW HB.out hbw HGR.out HOB.out HOW.out cX3 fX3 hcs hct
                    refine ⟨?_, R.2.1, ?_⟩
                    · simp only [World.size_alloc]; exact R.1
                    · dsimp only
                      rw [HM.out, List.length_append, hpl]
                      exact R.2.2
                  exact AllReadyIn.nil
                exact AllReadyIn.nil
              exact AllReadyIn.nil
            exact AllReadyIn.nil
          exact AllReadyIn.nil
        exact AllReadyIn.nil
      exact AllReadyIn.nil
    exact AllReadyIn.nil
  case done =>
    rintro D ys W hD hys ⟨⟨v, hcx, _, hrow, _, _, hsW⟩, hB⟩ hK
    have har2 := HG.out.nods.aOf_le hp
    have hnz : (N j).size ≤ 4 := name_small HF.out HJ.out
    have hlen : ys.length = aOf A T p := by
      have := congrArg List.length hys
      rwa [List.length_map, upto_length] at this
    have HE := hidden (show skip (aOf A T) m (p + 1) (aOf A T p) = some en by rw [← skip_one _ hp]; exact HEN.out)
    clear d0 d1 d2 c2 e0 e1 hB0 hB1 b2 b3 b4 b5
    rcases (show aOf A T p = 0 ∨ aOf A T p = 1 ∨ aOf A T p = 2 by omega) with hk | hk | hk
    · have hy0 : ys.length = 0 := by rw [hlen, hk]
      have HR := hidden (txt_con (N := N) hp HTJ.out hk)
      rw [hy0] at hrow
      rcases hrow.2 with ⟨rfl, _⟩ | ⟨g, cap, cur, rfl, _⟩
      · gi_wp2
        refine ⟨by simp, .inl ⟨_, _, rfl, run_takeDeferred hK, ?_⟩⟩
        exact ⟨_, results_tmp rfl _ _ _, by rw [HR.out, bs_data]; rfl, hB.trans (belowK_b (w := w) (Nat.le_refl _) W D _ _ (by simp at hD; omega) hK rfl rfl)⟩
      · gi_wp2
        refine ⟨by simp, .inl ⟨_, _, rfl, run_takeDeferred hK, ?_⟩⟩
        exact ⟨_, results_tmp rfl _ _ _, by rw [HR.out, bs_data]; rfl, hB.trans (belowK_b (w := w) (Nat.le_refl _) W D _ _ (by simp at hD; omega) hK rfl rfl)⟩
    · obtain ⟨x0, rfl⟩ := len1 (hlen.trans hk)
      rw [hk] at hys
      obtain ⟨r, _, q1, _, _⟩ := skip_arg HE.out (i := 0) (by omega)
      have hx0 : x0.1 = r := by simpa [upto, argP_some q1] using hys
      have HR := hidden (txt_one (N := N) hp HTJ.out hk q1)
      obtain ⟨g, cap, rfl, _, _⟩ := hrow.form (by simp)
      have hc : W.cell? ⟨g, 0, none⟩ = some (.string (bs (txt N A T m r))) := by
        have := hrow.cellAt 0 (by simp)
        rw [this]; simp [txL, hx0]
      have htl : (bs (txt N A T m r)).size ≤ 2300000000000 := by rw [bs_size]; exact txt_short HF.out HG.out _
      have HN := hidden (show ((N j ++ ⟨#[40]⟩) ++ bs (txt N A T m r)) ++ ⟨#[41]⟩ = bs (txt N A T m p) by rw [HR.out, ← bs_append, ← bs_append, ← bs_append, bs_data]; rfl)
      clear hys hrow HR hx0 hlen
      generalize bs (txt N A T m r) = u at *
      simp only [List.length_cons, List.length_nil, Nat.zero_add] at *
      gi_wp2_with (refine ⟨trivial, ?_⟩; gi_at_call 71; refine (callsIn_wide.2 (Try.join_one g 0 cap u _ W hc)).mono ?_; rintro e w' ⟨rfl, rfl⟩)
      refine ⟨by simp, .inl ⟨_, _, rfl, run_takeDeferred hK, ?_⟩⟩
      exact ⟨_, results_tmp rfl _ _ _, by rw [← HN.out]; rfl, hB.trans (belowK_b (w := w) (Nat.le_refl _) _ D _ _ (by simp at hD; omega) hK rfl rfl)⟩
    · obtain ⟨x0, x1, rfl⟩ := len2 (hlen.trans hk)
      rw [hk] at hys
      obtain ⟨r, _, q1, _, _⟩ := skip_arg HE.out (i := 0) (by omega)
      obtain ⟨r2, _, q2, _, _⟩ := skip_arg HE.out (i := 1) (by omega)
      have hx0 : x0.1 = r ∧ x1.1 = r2 := by simpa [upto, List.range_succ, argP_some q1, argP_some q2] using hys
      have HR := hidden (txt_two (N := N) hp HTJ.out hk q1 q2)
      obtain ⟨g, cap, rfl, _, hgl⟩ := hrow.form (by simp)
      have hcap : 2 ≤ cap := by
        rcases hrow.2 with ⟨e, _⟩ | ⟨g', cap', cur, e, _, _, h3, _⟩
        · cases e
        · simp at e; rw [e.2]; exact h3
      have hc0 : W.cell? ⟨g, 0, none⟩ = some (.string (bs (txt N A T m r))) := by
        have := hrow.cellAt 0 (by simp)
        rw [this]; simp [txL, hx0.1]
      have hc1 : W.cell? ⟨g, 1, none⟩ = some (.string (bs (txt N A T m r2))) := by
        have := hrow.cellAt 1 (by simp)
        rw [this]; simp [txL, hx0.2]
      have l0 : (txt N A T m r).length ≤ 2300000000000 := txt_short HF.out HG.out _
      have l1 : (txt N A T m r2).length ≤ 2300000000000 := txt_short HF.out HG.out _
      have EJ : Lib.join ([bs (txt N A T m r), bs (txt N A T m r2)].map (·.data.toList)) (ByteArray.mk #[44]).data.toList = txt N A T m r ++ [44] ++ txt N A T m r2 := by
        simp [Lib.join, List.intercalate, bs_toList]
      have JC := Try.join_many g 0 cap [bs (txt N A T m r), bs (txt N A T m r2)] ⟨#[44]⟩ W (fun i y hy => by
        match i, hy with
        | 0, hy => simp at hy; subst hy; exact hc0
        | 1, hy => simp at hy; subst hy; exact hc1) hgl (by simp) (by simp) (by simpa using hcap) (by rw [EJ]; simp only [List.length_append, List.length_cons, List.length_nil]; omega)
      rw [EJ] at JC
      have HN := hidden (show ((N j ++ ⟨#[40]⟩) ++ bs (txt N A T m r ++ [44] ++ txt N A T m r2)) ++ ⟨#[41]⟩ = bs (txt N A T m p) by rw [HR.out]; exact bs_two _ _ _)
      have htl : (bs (txt N A T m r ++ [44] ++ txt N A T m r2)).size ≤ 4700000000000 := by rw [bs_size]; simp only [List.length_append, List.length_cons, List.length_nil]; omega
      have HJC := hidden JC
      have HBB := hidden hB
      replace HJC := hidden (show Calls Try.prog 71 #[.slice (some ⟨g, 0, none⟩) 2 cap, .string ⟨#[44]⟩] W fun e w' => e = .returned (.string (bs (txt N A T m r ++ [44] ++ txt N A T m r2))) ∧ Below W.heap.size W w' from HJC.out)
      clear hys hrow HR hx0 hlen JC EJ l0 l1 hc0 hc1
      generalize bs (txt N A T m r ++ [44] ++ txt N A T m r2) = u at *
      simp only [List.length_cons, List.length_nil, Nat.zero_add, Nat.reduceAdd] at *
      gi_wp2_with (refine ⟨trivial, ?_⟩; gi_at_call 71; refine (callsIn_wide.2 HJC.out).mono ?_; rintro e w' ⟨rfl, hb5⟩; replace hB := keepB hB hb5; have hDl : D < W.heap.size := (Array.getElem?_eq_some_iff.1 hK).1; replace hK := (hb5.block D hDl).trans hK; clear hb5 HJC)
      refine ⟨by simp, .inl ⟨_, _, rfl, run_takeDeferred hK, ?_⟩⟩
      exact ⟨_, results_tmp rfl _ _ _, by rw [← HN.out]; rfl, hB.trans (belowK_b (w := w) (Nat.le_refl _) _ D _ _ (by simp at hD; omega) hK rfl rfl)⟩
  case stop =>
    rintro D c pre W _ _ h _
    exact h.elim

end Go.Proofs.Ytkaoafdemckagaa
