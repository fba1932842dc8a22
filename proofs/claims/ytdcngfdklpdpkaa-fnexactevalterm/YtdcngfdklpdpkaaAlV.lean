/- Contract: valueOf: the value of a term, as the program finds it. -/
import Derived.Test.YtdcngfdklpdpkaaAlT
import Derived.Test.YtdcngfdklpdpkaaArgH
namespace Go.Proofs.Ytdcngfdklpdpkaa
open Go.RowKit Go.Shelf

attribute [local go_sem] Oper.semAt_some

def z24 : Array Value := #[.int .i64 0, .int .i64 0, .int .i64 0, .int .i64 0, .int .i64 0, .int .i64 0, .int .i64 0, .int .i64 0, .int .i64 0, .int .i64 0, .int .i64 0, .int .i64 0, .int .i64 0, .int .i64 0, .int .i64 0, .int .i64 0, .int .i64 0, .int .i64 0, .int .i64 0, .int .i64 0, .int .i64 0, .int .i64 0, .int .i64 0, .int .i64 0]
theorem mk24 (w : World) : (Instr.makeSlice 47 (.int .i64 0) (.int .i64 24)).run Try.prog w = .ok (.slice (some ⟨w.heap.size, 0, none⟩) 0 24) (w.alloc (.cells z24 2)) := by kernel_rfl

/-- A new row of 24 cells, and the box of its view behind it. -/
theorem FndV.new (w : World) : FndV ((w.alloc (.cells z24 2)).alloc (.cells #[.slice (some ⟨w.heap.size, 0, none⟩) 0 24] 47)) w.heap.size [] := by
  have b1 : Below (w.heap.size + 1) (w.alloc (.cells z24 2)) ((w.alloc (.cells z24 2)).alloc (.cells #[.slice (some ⟨w.heap.size, 0, none⟩) 0 24] 47)) := by have := alloc_below (w.alloc (.cells z24 2)) (.cells #[.slice (some ⟨w.heap.size, 0, none⟩) 0 24] 47); rwa [World.size_alloc] at this
  refine ⟨?_, ?_, fun i hi => by simp at hi, fun i hi => ?_, fun i hi => ?_⟩
  · have := Boxed.new (w.alloc (.cells z24 2)) 47 (.slice (some ⟨w.heap.size, 0, none⟩) 0 24)
    simp only [World.size_alloc] at this; exact this.cell
  · have := Boxed.new (w.alloc (.cells z24 2)) 47 (.slice (some ⟨w.heap.size, 0, none⟩) 0 24)
    simp only [World.size_alloc] at this; exact this.frozen
  · rw [b1.cell (p := ⟨w.heap.size, i, none⟩) (by show w.heap.size < _; omega)]
    have h24 : z24.size = 24 := rfl
    obtain ⟨x, hx⟩ : ∃ x, z24[i]? = some x := ⟨z24[i]'(by omega), Array.getElem?_eq_getElem (by omega)⟩
    exact ⟨x, by simp [go_sem, hx]⟩
  · rw [b1.frozen (p := ⟨w.heap.size, i, none⟩) (by show w.heap.size < _; omega)]
    simp [go_sem]

/-- What a round of valueOf finds: its boxes, and what has been found. -/
structure StV (w W : World) (sg wd : Value) (V : Nat → Int) (l : List Int) : Prop where
  fnd : FndV W (w.heap.size + 1 + 1 + 1) l
  cs : W.cell? ⟨w.heap.size, 0, none⟩ = some sg
  cw : W.cell? ⟨w.heap.size + 1, 0, none⟩ = some wd
  cv : ∀ i, i < 6 → W.cell? ⟨w.heap.size + 1 + 1, i, none⟩ = some (.int .i64 (V i))
  bel : Below w.heap.size w W

theorem StV.buq {w W W' : World} {sg wd : Value} {V : Nat → Int} {l : List Int} (h : StV w W sg wd V l) (hb : BuQ (w.heap.size + 1 + 1 + 1) (w.heap.size + 1 + 1 + 1 + 1 + 1 + 1) W W') :
    W'.cell? ⟨w.heap.size, 0, none⟩ = some sg ∧ W'.cell? ⟨w.heap.size + 1, 0, none⟩ = some wd ∧ (∀ i, i < 6 → W'.cell? ⟨w.heap.size + 1 + 1, i, none⟩ = some (.int .i64 (V i))) ∧ Below w.heap.size w W' :=
  ⟨(hb.cell (by omega) (by omega) (by omega)).trans h.cs, (hb.cell (by omega) (by omega) (by omega)).trans h.cw, fun i hi => (hb.cell (by omega) (by omega) (by omega)).trans (h.cv i hi),
    h.bel.trans ⟨hb.os, hb.tape, hb.output, hb.size, fun k hk => hb.block k (by omega) (by omega) (by omega)⟩⟩
theorem StV.keep {w W W' : World} {sg wd : Value} {V : Nat → Int} {l : List Int} (h : StV w W sg wd V l) (hb : Below W.heap.size W W') : StV w W' sg wd V l := by
  have h1 := h.fnd.lt
  exact ⟨h.fnd.keep hb, by rw [hb.cell (p := ⟨w.heap.size, 0, none⟩) (by show w.heap.size < _; omega)]; exact h.cs, by rw [hb.cell (p := ⟨w.heap.size + 1, 0, none⟩) (by show w.heap.size + 1 < _; omega)]; exact h.cw,
    fun i hi => by rw [hb.cell (p := ⟨w.heap.size + 1 + 1, i, none⟩) (by show w.heap.size + 1 + 1 < _; omega)]; exact h.cv i hi, keepB h.bel hb⟩
theorem StV.pop {w W : World} {sg wd : Value} {V : Nat → Int} {x : Int} {l : List Int} (h : StV w W sg wd V (x :: l)) : StV w (W.setCell ⟨w.heap.size + 1 + 1 + 1 + 1, 0, none⟩ (.slice (some ⟨w.heap.size + 1 + 1 + 1, 0, none⟩) l.length 24)) sg wd V l := by
  obtain ⟨h1, h2, h3, h4⟩ := h.buq (BuQ.but1 (But.set (w.heap.size + 1 + 1 + 1 + 1) (w.heap.size + 1 + 1 + 1 + 1 + 1 + 1) W (.slice (some ⟨w.heap.size + 1 + 1 + 1, 0, none⟩) l.length 24)))
  exact ⟨h.fnd.pop, h1, h2, h3, h4⟩
theorem one_set (w : World) (b o : Nat) (x : Value) : w.setCells b (0 + o * 1) [x] = w.setCell ⟨b, o, none⟩ x := by simp [World.setCells]
theorem row_room {W : World} {R : Nat} {l : List Int} {x : Value} (h : FndV W R l) (hl : l.length < 24) : ∀ j, j < [x].length → (W.cell? ⟨R, 0 + l.length * 1 + j, none⟩).isSome = true ∧ W.frozen? ⟨R, 0 + l.length * 1 + j, none⟩ = false := by
  intro j hj
  simp only [List.length_cons, List.length_nil] at hj
  obtain rfl : j = 0 := by omega
  simp only [Nat.zero_add, Nat.mul_one, Nat.add_zero]
  obtain ⟨v, hv⟩ := h.room l.length hl
  exact ⟨by rw [hv]; rfl, h.free l.length hl⟩
/-- What an append leaves. -/
theorem StV.round {w W W2 : World} {sg wd : Value} {V : Nat → Int} {l : List Int} (h : StV w W sg wd V l) (hb : Below W.heap.size W W2) (hW : w.heap.size + 1 + 1 + 1 + 1 + 1 + 1 ≤ W.heap.size) (hl : l.length < 24) (x : Int) :
    BuQ (w.heap.size + 1 + 1 + 1) (w.heap.size + 1 + 1 + 1 + 1 + 1 + 1) W (W2.setCell ⟨w.heap.size + 1 + 1 + 1, l.length, none⟩ (.int .i64 x)) ∧
    (W2.setCell ⟨w.heap.size + 1 + 1 + 1, l.length, none⟩ (.int .i64 x)).cell? ⟨w.heap.size + 1 + 1 + 1 + 1, 0, none⟩ = some (.slice (some ⟨w.heap.size + 1 + 1 + 1, 0, none⟩) l.length 24) ∧
    (W2.setCell ⟨w.heap.size + 1 + 1 + 1, l.length, none⟩ (.int .i64 x)).frozen? ⟨w.heap.size + 1 + 1 + 1 + 1, 0, none⟩ = false ∧ True ∧
    BuQ (w.heap.size + 1 + 1 + 1) (w.heap.size + 1 + 1 + 1 + 1 + 1 + 1) W ((W2.setCell ⟨w.heap.size + 1 + 1 + 1, l.length, none⟩ (.int .i64 x)).setCell ⟨w.heap.size + 1 + 1 + 1 + 1, 0, none⟩ (.slice (some ⟨w.heap.size + 1 + 1 + 1, 0, none⟩) (l.length + 1) 24)) ∧
    (∀ BB, KeepsFrom BB W ((W2.setCell ⟨w.heap.size + 1 + 1 + 1, l.length, none⟩ (.int .i64 x)).setCell ⟨w.heap.size + 1 + 1 + 1 + 1, 0, none⟩ (.slice (some ⟨w.heap.size + 1 + 1 + 1, 0, none⟩) (l.length + 1) 24))) ∧
    StV w ((W2.setCell ⟨w.heap.size + 1 + 1 + 1, l.length, none⟩ (.int .i64 x)).setCell ⟨w.heap.size + 1 + 1 + 1 + 1, 0, none⟩ (.slice (some ⟨w.heap.size + 1 + 1 + 1, 0, none⟩) (l.length + 1) 24)) sg wd V (x :: l) := by
  have h2 := h.keep hb
  have q0 := setO (w.heap.size + 1 + 1 + 1) l.length (w.heap.size + 1 + 1 + 1 + 1 + 1 + 1) W2 (.int .i64 x)
  have b1 : BuQ (w.heap.size + 1 + 1 + 1) (w.heap.size + 1 + 1 + 1 + 1 + 1 + 1) W (W2.setCell ⟨w.heap.size + 1 + 1 + 1, l.length, none⟩ (.int .i64 x)) := (BuQ.of hb hW).trans (BuQ.but q0)
  have b2 := b1.trans (BuQ.but1 (But.set (w.heap.size + 1 + 1 + 1 + 1) (w.heap.size + 1 + 1 + 1 + 1 + 1 + 1) (W2.setCell ⟨w.heap.size + 1 + 1 + 1, l.length, none⟩ (.int .i64 x)) (.slice (some ⟨w.heap.size + 1 + 1 + 1, 0, none⟩) (l.length + 1) 24)))
  refine ⟨b1, ?_, ?_, trivial, b2, fun _ => ((keepsFrom_below hb).trans ((KeepsOthers.setCell _ _ _).from _)).trans ((KeepsOthers.setCell _ _ _).from _), ?_⟩
  · exact (q0.cell (by omega) (by omega)).trans h2.fnd.box
  · exact (q0.frozen (by omega) (by omega)).trans h2.fnd.boxf
  · obtain ⟨h3, h4, h5, h6⟩ := h.buq b2
    exact ⟨h2.fnd.push hl x, h3, h4, h5, h6⟩

theorem take_one {l : List Int} {k : Nat} {x : Int} {l2 : List Int} (h : l.drop k = x :: l2) : l.take (k + 1) = l.take k ++ [x] ∧ l.drop (k + 1) = l2 := by
  constructor
  · rw [List.take_add_one]
    have : l[k]? = some x := by rw [← List.head?_drop, h]; rfl
    rw [this]; rfl
  · have := congrArg (List.drop 1) h
    simpa [List.drop_drop] using this

set_option maxRecDepth 20000 in
theorem size_step {ops : Array Oper} {a : Act} {w w0 : World} {K : Act → World → Prop} {Q : Exit → Act → World → Prop} {E : Prop} {o : Oper} {x : Operand} {kk : TypeId} {uu : Value} {n : Nat} {z : Int} {D : LsL} (hg : o.guard = none)
    (hop : o.op = Op.call { callee := Callee.invoke x "loop.example/g00653/impl.size", args := #[], argTypes := #[] }) (hx : a.eval x = .iface kk uu) (hw : WorldV w0 n z D (.iface kk uu))
    (hK : ∀ w', Below w.heap.size w w' → K (a.put o.dst (.int .i64 z)) w') : if Region.wanted o (yielded ops a.tmps) = true then Oper.wp Try.prog o a w K Q else E := by
  have hwt : Region.wanted o (yielded ops a.tmps) = true := by simp [Region.wanted, hg]
  rw [if_pos hwt]
  rcases hw with ⟨rfl, e⟩ | ⟨rfl, e⟩ | ⟨rfl, b, o2, c, e, _⟩
  · injection e with e1 e2
    subst e1 e2
    have hm : (callMethod (.iface 139 (.agg #[])) "loop.example/g00653/impl.size" #[]).run Try.prog w = .ok (.enter 132 #[(.agg #[])]) w := by kernel_rfl
    unfold Oper.wp
    simp [execOp, hop, resolve, invoke, hx, hm]
    refine (size1_any w).mono ?_
    rintro e w' ⟨rfl, hb⟩
    exact hK w' hb
  · injection e with e1 e2
    subst e1 e2
    have hm : (callMethod (.iface 135 (arr6 (bxT n D))) "loop.example/g00653/impl.size" #[]).run Try.prog w = .ok (.enter 130 #[(arr6 (bxT n D))]) w := by kernel_rfl
    unfold Oper.wp
    simp [execOp, hop, resolve, invoke, hx, hm]
    refine (size2_any _ w).mono ?_
    rintro e w' ⟨rfl, hb⟩
    exact hK w' hb
  · injection e with e1 e2
    subst e1 e2
    have hm : (callMethod (.iface 137 (.slice (some ⟨b, o2, none⟩) n c)) "loop.example/g00653/impl.size" #[]).run Try.prog w = .ok (.enter 131 #[(.slice (some ⟨b, o2, none⟩) n c)]) w := by kernel_rfl
    unfold Oper.wp
    simp [execOp, hop, resolve, invoke, hx, hm]
    refine (size3_any _ w).mono ?_
    rintro e w' ⟨rfl, hb⟩
    exact hK w' hb

def arrI (V : Nat → Int) : Value := .agg #[.int .i64 (V 0), .int .i64 (V 1), .int .i64 (V 2), .int .i64 (V 3), .int .i64 (V 4), .int .i64 (V 5)]

theorem isVar_w (x : Int) (w : World) : Calls Try.prog 92 #[.int .i64 x] w fun e w' => e = .returned (.bool (varB x)) ∧ Below w.heap.size w w' := isVariable_any x w

set_option maxRecDepth 100000 in
set_option maxHeartbeats 8000000 in
theorem valueOf_any (b off n c b' off' m c' : Nat) (N : Nat → ByteArray) (A T V : Nat → Int) (z : Int) (D : LsL) (v : Value) (hg : Trm n A m T) (ho : AlgOk n A z D) (hk : KeptM n D) (hl : ∀ i, i < m → -6 ≤ T i) (hv : ∀ j, j < 6 → 0 ≤ V j ∧ V j < z) (w : World) (h : Syms w b off n N A) (h' : Ints w b' off' m T) (hw : WorldV w n z D v) :
    Calls Try.prog 61 #[.agg #[.slice (some ⟨b, off, none⟩) n c], v, arrI V, .slice (some ⟨b', off', none⟩) m c'] w fun e w' => e = .returned (.int .i64 (evV A T z D V m 0)) ∧ Below w.heap.size w w' := by
  have hp : 0 < m := hg.pos
  refine (callsIn_wide (n := 3)).1 ?_
  refine callsIn_of_wp_marks Try.func61 rfl trivial ?_ rfl
  unfold arrI
  simp only [Try.ntmps61, List.size_toArray, List.length_cons, List.length_nil, Nat.reduceAdd, Nat.reduceSub, Array.replicate_succ, Array.replicate_zero, List.push_toArray, List.append_toArray, List.nil_append, List.cons_append]
  have hb := h.blk hg.sig.least
  have hb' := h'.blk hg.pos
  have hm24 := hg.nods.most
  have hmx : Try.prog.follows .mixedOrders = true := by kernel_rfl
  have HS := hidden h
  have HT := hidden h'
  have HG := hidden hg
  have HO := hidden ho
  have HK := hidden hk
  have HL := hidden hl
  have HV := hidden hv
  have HW := hidden hw
  obtain ⟨kk, uu, rfl⟩ : ∃ k u, v = .iface k u := by rcases hw with ⟨_, rfl⟩ | ⟨_, rfl⟩ | ⟨_, _, _, _, rfl, _⟩ <;> exact ⟨_, _, rfl⟩
  clear h h' hg ho hk hl hv hw
  have mk := mk24 (((w.alloc (.cells #[.slice (some ⟨b, off, none⟩) n c] 33)).alloc (.cells #[.iface kk uu] 96)).alloc (.cells #[.int .i64 (V 0), .int .i64 (V 1), .int .i64 (V 2), .int .i64 (V 3), .int .i64 (V 4), .int .i64 (V 5)] 98))
  simp only [World.size_alloc] at mk
  gi_wp2_with (refine ⟨trivial, ?_⟩; gi_at_call 94; refine (callsIn_wide.2 (backward_any _ _ _ _)).mono ?_; rintro e w' ⟨rfl, rfl⟩)
  have b0 := Boxed.new w 33 (.slice (some ⟨b, off, none⟩) n c)
  have b1 := Boxed.new (w.alloc (.cells #[.slice (some ⟨b, off, none⟩) n c] 33)) 96 (.iface kk uu)
  have b5 := Boxed.new (((((w.alloc (.cells #[.slice (some ⟨b, off, none⟩) n c] 33)).alloc (.cells #[.iface kk uu] 96)).alloc (.cells #[.int .i64 (V 0), .int .i64 (V 1), .int .i64 (V 2), .int .i64 (V 3), .int .i64 (V 4), .int .i64 (V 5)] 98)).alloc (.cells z24 2)).alloc (.cells #[.slice (some ⟨w.heap.size + 1 + 1 + 1, 0, none⟩) 0 24] 47)) 47 (.slice (some ⟨b', off', none⟩) m c')
  have f0 := FndV.new (((w.alloc (.cells #[.slice (some ⟨b, off, none⟩) n c] 33)).alloc (.cells #[.iface kk uu] 96)).alloc (.cells #[.int .i64 (V 0), .int .i64 (V 1), .int .i64 (V 2), .int .i64 (V 3), .int .i64 (V 4), .int .i64 (V 5)] 98))
  simp only [World.size_alloc] at b1 b5 f0
  have hB2 : Below w.heap.size w (((w.alloc (.cells #[.slice (some ⟨b, off, none⟩) n c] 33)).alloc (.cells #[.iface kk uu] 96)).alloc (.cells #[.int .i64 (V 0), .int .i64 (V 1), .int .i64 (V 2), .int .i64 (V 3), .int .i64 (V 4), .int .i64 (V 5)] 98)) := (((Below.refl _ w).alloc (Nat.le_refl _) _).alloc (by simp) _).alloc (by simp; omega) _
  have hB0 : Below w.heap.size w ((((((w.alloc (.cells #[.slice (some ⟨b, off, none⟩) n c] 33)).alloc (.cells #[.iface kk uu] 96)).alloc (.cells #[.int .i64 (V 0), .int .i64 (V 1), .int .i64 (V 2), .int .i64 (V 3), .int .i64 (V 4), .int .i64 (V 5)] 98)).alloc (.cells z24 2)).alloc (.cells #[.slice (some ⟨w.heap.size + 1 + 1 + 1, 0, none⟩) 0 24] 47)).alloc (.cells #[.slice (some ⟨b', off', none⟩) m c'] 47)) :=
    ((((((Below.refl _ w).alloc (Nat.le_refl _) _).alloc (by simp) _).alloc (by simp; omega) _).alloc (by simp; omega) _).alloc (by simp; omega) _).alloc (by simp; omega) _
  have S0 := hidden (show StV w ((((((w.alloc (.cells #[.slice (some ⟨b, off, none⟩) n c] 33)).alloc (.cells #[.iface kk uu] 96)).alloc (.cells #[.int .i64 (V 0), .int .i64 (V 1), .int .i64 (V 2), .int .i64 (V 3), .int .i64 (V 4), .int .i64 (V 5)] 98)).alloc (.cells z24 2)).alloc (.cells #[.slice (some ⟨w.heap.size + 1 + 1 + 1, 0, none⟩) 0 24] 47)).alloc (.cells #[.slice (some ⟨b', off', none⟩) m c'] 47)) (.slice (some ⟨b, off, none⟩) n c) (.iface kk uu) V [] from
    ⟨f0.keep (alloc_below _ _), (((((b0.alloc _).alloc _).alloc _).alloc _).alloc _).cell, ((((b1.alloc _).alloc _).alloc _).alloc _).cell, fun i hi => by
      obtain rfl | rfl | rfl | rfl | rfl | rfl : i = 0 ∨ i = 1 ∨ i = 2 ∨ i = 3 ∨ i = 4 ∨ i = 5 := by omega
      all_goals simp [go_sem], hB0⟩)
  refine wpIn_turns rfl (by omega) (gf := 110) (lb := #[.pointer (some ⟨w.heap.size + 1 + 1 + 1 + 1 + 1, 0, none⟩)]) rfl trivial (enters_of Try.func110 (by kernel_rfl) rfl)
    (back_turns _ (by omega) (w.heap.size + 1 + 1 + 1 + 1 + 1) (w.heap.size + 1 + 1 + 1) (w.heap.size + 1 + 1 + 1 + 1 + 1 + 1) b' off' m c' T hm24 _ ⟨by omega, by omega, by omega, by simp; omega⟩ ⟨by omega, by omega, by omega, by simp⟩ b5.cell (fun j hj => (HT.out.keep hB0).cell j hj)) (Below.refl _ _) (fun _ => rfl) buqT (buqB (by simp))
    (fun k W => ((FndV W (w.heap.size + 1 + 1 + 1) (evA A T z D V m (m - k)) ∧ W.cell? ⟨w.heap.size, 0, none⟩ = some (.slice (some ⟨b, off, none⟩) n c) ∧ W.cell? ⟨w.heap.size + 1, 0, none⟩ = some (.iface kk uu) ∧ ∀ i, i < 6 → W.cell? ⟨w.heap.size + 1 + 1, i, none⟩ = some (.int .i64 (V i))) ∧ Below w.heap.size w W) ∧ w.heap.size + 1 + 1 + 1 + 1 + 1 + 1 ≤ W.heap.size)
    (OwnFrom.and (OwnFrom.and (Own.from (fun s A B row hs hg hr => ⟨hs.1.own hg hr, cell_kept hs.2.1 hg hr, cell_kept hs.2.2.1 hg hr, fun i hi => cell_kept (hs.2.2.2 i hi) hg hr⟩) _) (ownFrom_below (Nat.le_refl _) (by simp; omega))) (Own.from (fun s A B row hs hg hr => Nat.le_trans hs hg.size) _))
    ⟨⟨⟨by rw [Nat.sub_zero, evA_end (Nat.le_refl _)]; exact S0.out.fnd, S0.out.cs, S0.out.cw, S0.out.cv⟩, hB0⟩, by simp⟩
    (fun k => { tmps := #[.agg #[.slice (some ⟨b, off, none⟩) n c], .iface kk uu, .agg #[.int .i64 (V 0), .int .i64 (V 1), .int .i64 (V 2), .int .i64 (V 3), .int .i64 (V 4), .int .i64 (V 5)], .slice (some ⟨b', off', none⟩) m c', .pointer (some ⟨w.heap.size, 0, none⟩), .pointer (some ⟨w.heap.size + 1, 0, none⟩), .pointer (some ⟨w.heap.size + 1 + 1, 0, none⟩), undef, .int .i64 0, .pointer (some ⟨w.heap.size + 1 + 1 + 1 + 1, 0, none⟩), undef, .int .i64 (T (m - 1 - k)), undef, undef, .slice (some ⟨w.heap.size + 1 + 1 + 1, 0, none⟩) 0 24, .slice (some ⟨b', off', none⟩) m c', .func (.func 110) #[] #[.pointer (some ⟨w.heap.size + 1 + 1 + 1 + 1 + 1, 0, none⟩)], .int .i64 ((m - 1 - k : Nat) : Int), .int .i64 (T (m - 1 - k)), undef, undef, undef, undef, undef, undef, undef, undef, undef, undef, undef, undef, undef, undef, undef, undef, undef, undef, undef, undef, undef, undef, undef, undef, undef, undef, undef, undef, undef, undef, undef, undef, undef, undef, undef, undef, undef, undef, undef, undef], defers := [] }) ?assign ?body ?done
  case assign =>
    intro l k W K hK
    unfold bkT
    gi_wp2
    exact hK
  case body =>
    rintro l k W hkm ⟨⟨⟨i1, i2, i3, i4⟩, i5⟩, hsW⟩
    obtain ⟨q, hq⟩ : ∃ q, q = m - 1 - k := ⟨_, rfl⟩
    have hqm : q < m := by omega
    have e1 : m - k = q + 1 := by omega
    have e2 : m - (k + 1) = q := by omega
    rw [← hq]
    obtain ⟨st, hst⟩ : ∃ st, st = evA A T z D V m (q + 1) := ⟨_, rfl⟩
    have SV0 := hidden (StV.mk (w := w) (W := W) (sg := .slice (some ⟨b, off, none⟩) n c) (wd := .iface kk uu) (V := V) (l := st) (by rw [hst, ← e1]; exact i1) i2 i3 i4 i5)
    have HST := hidden hst
    have hsl : st.length < 24 := by rw [hst]; have := evA_len (A := A) (T := T) (z := z) (D := D) (V := V) (m := m) (q + 1); omega
    have RV := hidden (show ∀ W', StV w W' (.slice (some ⟨b, off, none⟩) n c) (.iface kk uu) V (evA A T z D V m q) → w.heap.size + 1 + 1 + 1 + 1 + 1 + 1 ≤ W'.heap.size → (((FndV W' (w.heap.size + 1 + 1 + 1) (evA A T z D V m (m - (k + 1))) ∧ W'.cell? ⟨w.heap.size, 0, none⟩ = some (.slice (some ⟨b, off, none⟩) n c) ∧ W'.cell? ⟨w.heap.size + 1, 0, none⟩ = some (.iface kk uu) ∧ ∀ i, i < 6 → W'.cell? ⟨w.heap.size + 1 + 1, i, none⟩ = some (.int .i64 (V i))) ∧ Below w.heap.size w W') ∧ w.heap.size + 1 + 1 + 1 + 1 + 1 + 1 ≤ W'.heap.size) from fun W' h hs => ⟨⟨⟨by rw [e2]; exact h.fnd, h.cs, h.cw, h.cv⟩, h.bel⟩, hs⟩)
    clear i1 i2 i3 i4 i5 S0 b0 b1 b5 f0 mk hst
    by_cases h0 : T q < 0
    · have hlq := HL.out q hqm
      have IV := hidden (isVar_w (T q) W)
      rw [show varB (T q) = true by simp [varB]; omega] at IV
      have HE := hidden (evA_var (A := A) (T := T) (z := z) (D := D) (V := V) hqm h0)
      obtain ⟨j, hj, hj6⟩ : ∃ j : Nat, T q = -1 - (j : Int) ∧ j < 6 := ⟨(-1 - T q).toNat, by omega, by omega⟩
      have HE2 := hidden (show evA A T z D V m q = V j :: st by rw [HE.out, ← HST.out, hj]; congr 2; omega)
      rw [hj] at IV ⊢
      clear HE hj h0 hlq
      gi_wp2_with (refine ⟨trivial, ?_⟩; gi_at_call 92; refine (callsIn_wide.2 IV.out).mono ?_; rintro e WC ⟨rfl, hbC⟩; have SV := hidden (SV0.out.keep hbC); have hsC := Nat.le_trans hsW hbC.size; have BC := hidden hbC; clear hbC IV)
      have CK5 := hidden (show ∀ W', BuQ (w.heap.size + 1 + 1 + 1) (w.heap.size + 1 + 1 + 1 + 1 + 1 + 1) WC W' → W'.cell? ⟨w.heap.size + 1 + 1, j, none⟩ = some (.int .i64 (V j)) from fun W' hb => (SV.out.buq hb).2.2.1 j hj6)
      have VOC := hidden (show ∀ ww, Calls Try.prog 93 #[.int .i64 (-1 - (j : Int))] ww fun e w' => e = .returned (.int .i64 (j : Int)) ∧ Below ww.heap.size ww w' from fun ww => (variableOf_any j ww (by omega)).mono (by rintro e w' ⟨rfl, rfl⟩; exact ⟨rfl, Below.refl _ _⟩))
      have HRL := hidden hsl
      have hji : (j : Int) < 6 := by omega
      refine wpIn_region_heldA (S := fun wz => wz.cell? ⟨w.heap.size + 1 + 1, j, none⟩ = some (.int .i64 (V j))) hmx (by kernel_rfl) (CK5.out _ (BuQ.of (Below.refl WC.heap.size WC).drew hsC)) (fun hHeld => ?_)
      refine wpAnyH_take (i := 1) (oi := { dst := some 22, op := Op.move (Operand.tmp 11), type := 2, pos := "l10_algebra.go:159", after := #[], guard := none }) (v := ?_) rfl (by kernel_rfl) (by kernel_rfl) (by kernel_rfl) (fun _ _ _ h => h) (Or.inl ⟨by rfl, ?_⟩) (by assumption) ?_
      rotate_left
      · (intro wv hSw; (try dsimp only at hSw); go_simp; try with_reducible rfl)
      try simp only [Act.put, List.setIfInBounds_toArray, List.set_cons_zero, List.set_cons_succ]
      refine wpAnyH_ready (rs := [0, 2]) (by kernel_rfl) (by simp) ?_
      refine AllReadyH.cons (o := { dst := some 21, op := Op.load 47 (Operand.tmp 9), type := 47, pos := "l10_algebra.go:159", after := #[], guard := none }) rfl (fun K hK => ?_) (AllReadyH.cons (o := { dst := some 23, op := Op.call { callee := Callee.value (Operand.func 93), args := #[Operand.tmp 22], argTypes := #[2] }, type := 2, pos := "l10_algebra.go:159", after := #[{ on := 1, ground := Ground.data }], guard := none }) rfl (fun K hK => ?_) AllReadyH.nil)
      · have xl := (SV.out.keep (Below.refl WC.heap.size WC).drew).fnd.box
        go_simp
        refine hK.out _ _ (CK5.out _ (BuQ.of (Below.refl WC.heap.size WC).drew hsC)) (fun hHeld => ?_)
        clear hK K xl
        try simp only [Act.put, List.setIfInBounds_toArray, List.set_cons_zero, List.set_cons_succ]
        refine wpAnyH_ready (rs := [2]) (by kernel_rfl) (by simp) ?_
        refine AllReadyH.cons (o := { dst := some 23, op := Op.call { callee := Callee.value (Operand.func 93), args := #[Operand.tmp 22], argTypes := #[2] }, type := 2, pos := "l10_algebra.go:159", after := #[{ on := 1, ground := Ground.data }], guard := none }) rfl (fun K hK => ?_) AllReadyH.nil
        go_simp
        go_at_call 93; with_reducible refine (VOC.out _).mono ?_; rintro e v1 ⟨rfl, bc0⟩
        try go_wp2_with fail
        have bc : Below WC.heap.size WC v1 := (Below.refl WC.heap.size WC).drew.trans bc0
        refine hK.out _ _ (CK5.out _ (BuQ.of bc hsC)) (fun hHeld => ?_)
        clear hK K
        try simp only [Act.put, List.setIfInBounds_toArray, List.set_cons_zero, List.set_cons_succ]
        refine wpAnyH_take (i := 3) (oi := { dst := some 24, op := Op.indexAddr 98 (Operand.tmp 6) (Operand.tmp 23), type := 0, pos := "l10_algebra.go:159", after := #[{ on := 2, ground := Ground.data }], guard := none }) (v := ?_) rfl (by kernel_rfl) (by kernel_rfl) (by kernel_rfl) (fun _ _ _ h => h) (Or.inl ⟨by rfl, ?_⟩) (by assumption) ?_
        rotate_left
        · (intro wv hSw; (try dsimp only at hSw); go_simp; try with_reducible rfl)
        try simp only [Act.put, List.setIfInBounds_toArray, List.set_cons_zero, List.set_cons_succ]
        refine wpAnyH_take (i := 4) (oi := { dst := some 25, op := Op.load 2 (Operand.tmp 24), type := 2, pos := "l10_algebra.go:159", after := #[{ on := 3, ground := Ground.data }], guard := none }) (v := ?_) rfl (by kernel_rfl) (by kernel_rfl) (by kernel_rfl) (fun _ _ _ h => h) (Or.inl ⟨by rfl, ?_⟩) (by assumption) ?_
        rotate_left
        · (intro wv hSw; (try dsimp only at hSw); go_simp; try with_reducible rfl)
        try simp only [Act.put, List.setIfInBounds_toArray, List.set_cons_zero, List.set_cons_succ]
        refine wpAnyH_ready (rs := [5]) (by kernel_rfl) (by simp) ?_
        refine AllReadyH.cons (o := { dst := some 26, op := Op.buildSlice 47 1 #[(0, Operand.tmp 25)], type := 47, pos := "l10_algebra.go:159", after := #[{ on := 4, ground := Ground.data }], guard := none }) rfl (fun K hK => ?_) AllReadyH.nil
        go_simp
        have bd : Below WC.heap.size WC (v1.alloc (.cells #[.int .i64 (V j)] 2)) := keepB bc (alloc_below _ _)
        refine hK.out _ _ (CK5.out _ (BuQ.of bd hsC)) (fun hHeld => ?_)
        clear hK K
        try simp only [Act.put, List.setIfInBounds_toArray, List.set_cons_zero, List.set_cons_succ]
        refine wpAnyH_ready (rs := [6]) (by kernel_rfl) (by simp) ?_
        refine AllReadyH.cons (o := { dst := some 27, op := Op.call { callee := Callee.builtin Builtin.append, args := #[Operand.tmp 21, Operand.tmp 26], argTypes := #[47, 47] }, type := 47, pos := "l10_algebra.go:159", after := #[{ on := 0, ground := Ground.data }, { on := 5, ground := Ground.data }, { on := 2, ground := Ground.chain }], guard := none }) rfl (fun K hK => ?_) AllReadyH.nil
        have FV := hidden (SV.out.keep bd).fnd
        refine step_append_room rfl _ _ 47 rfl 2 _ 1 Try.underlying47 rfl rfl (w.heap.size + 1 + 1 + 1) 0 _ 24 rfl ⟨v1.heap.size, 0, none⟩ 1 1 [.int .i64 (V j)] rfl rfl (one_srcI _ _ _) (by intro u hu; simp at hu; rw [hu]; rfl) (by omega) (row_room FV.out HRL.out) ?_
        rw [one_set]
        have RR := hidden (SV.out.round bd hsC HRL.out (V j))
        refine hK.out _ _ (CK5.out _ RR.out.1) (fun hHeld => ?_)
        clear hK K
        try simp only [Act.put, List.setIfInBounds_toArray, List.set_cons_zero, List.set_cons_succ]
        refine wpAnyH_ready (rs := [7]) (by kernel_rfl) (by simp) ?_
        refine AllReadyH.cons (o := { dst := none, op := Op.store 47 (Operand.tmp 9) (Operand.tmp 27), type := 0, pos := "l10_algebra.go:159", after := #[{ on := 6, ground := Ground.data }, { on := 6, ground := Ground.chain }, { on := 0, ground := Ground.phase }, { on := 1, ground := Ground.phase }, { on := 2, ground := Ground.phase }, { on := 3, ground := Ground.phase }, { on := 4, ground := Ground.phase }, { on := 5, ground := Ground.phase }, { on := 6, ground := Ground.phase }], guard := none }) rfl (fun K hK => ?_) AllReadyH.nil
        have y0 := RR.out.2.1
        have yf := RR.out.2.2.1
        go_simp
        refine hK.out _ _ (CK5.out _ RR.out.2.2.2.2.1) (fun hHeld => ?_)
        clear hK K
        try simp only [Act.put, List.setIfInBounds_toArray, List.set_cons_zero, List.set_cons_succ]
        refine wpAnyH_done (by kernel_rfl) ?_ _
        clear hHeld
        gi_wp2
        exact ⟨(keepsFrom_below BC.out).trans (RR.out.2.2.2.2.2.1 _), (BuQ.of BC.out hsW).trans RR.out.2.2.2.2.1, RV.out _ (by rw [HE2.out]; exact RR.out.2.2.2.2.2.2) (Nat.le_trans hsC RR.out.2.2.2.2.1.size)⟩
      · go_simp
        go_at_call 93; with_reducible refine (VOC.out _).mono ?_; rintro e v1 ⟨rfl, bc0⟩
        try go_wp2_with fail
        have bc : Below WC.heap.size WC v1 := (Below.refl WC.heap.size WC).drew.trans bc0
        refine hK.out _ _ (CK5.out _ (BuQ.of bc hsC)) (fun hHeld => ?_)
        clear hK K
        try simp only [Act.put, List.setIfInBounds_toArray, List.set_cons_zero, List.set_cons_succ]
        refine wpAnyH_take (i := 3) (oi := { dst := some 24, op := Op.indexAddr 98 (Operand.tmp 6) (Operand.tmp 23), type := 0, pos := "l10_algebra.go:159", after := #[{ on := 2, ground := Ground.data }], guard := none }) (v := ?_) rfl (by kernel_rfl) (by kernel_rfl) (by kernel_rfl) (fun _ _ _ h => h) (Or.inl ⟨by rfl, ?_⟩) (by assumption) ?_
        rotate_left
        · (intro wv hSw; (try dsimp only at hSw); go_simp; try with_reducible rfl)
        try simp only [Act.put, List.setIfInBounds_toArray, List.set_cons_zero, List.set_cons_succ]
        refine wpAnyH_take (i := 4) (oi := { dst := some 25, op := Op.load 2 (Operand.tmp 24), type := 2, pos := "l10_algebra.go:159", after := #[{ on := 3, ground := Ground.data }], guard := none }) (v := ?_) rfl (by kernel_rfl) (by kernel_rfl) (by kernel_rfl) (fun _ _ _ h => h) (Or.inl ⟨by rfl, ?_⟩) (by assumption) ?_
        rotate_left
        · (intro wv hSw; (try dsimp only at hSw); go_simp; try with_reducible rfl)
        try simp only [Act.put, List.setIfInBounds_toArray, List.set_cons_zero, List.set_cons_succ]
        refine wpAnyH_ready (rs := [0, 5]) (by kernel_rfl) (by simp) ?_
        refine AllReadyH.cons (o := { dst := some 21, op := Op.load 47 (Operand.tmp 9), type := 47, pos := "l10_algebra.go:159", after := #[], guard := none }) rfl (fun K hK => ?_) (AllReadyH.cons (o := { dst := some 26, op := Op.buildSlice 47 1 #[(0, Operand.tmp 25)], type := 47, pos := "l10_algebra.go:159", after := #[{ on := 4, ground := Ground.data }], guard := none }) rfl (fun K hK => ?_) AllReadyH.nil)
        · have xl := (SV.out.keep bc).fnd.box
          go_simp
          refine hK.out _ _ (CK5.out _ (BuQ.of bc hsC)) (fun hHeld => ?_)
          clear hK K xl
          try simp only [Act.put, List.setIfInBounds_toArray, List.set_cons_zero, List.set_cons_succ]
          refine wpAnyH_ready (rs := [5]) (by kernel_rfl) (by simp) ?_
          refine AllReadyH.cons (o := { dst := some 26, op := Op.buildSlice 47 1 #[(0, Operand.tmp 25)], type := 47, pos := "l10_algebra.go:159", after := #[{ on := 4, ground := Ground.data }], guard := none }) rfl (fun K hK => ?_) AllReadyH.nil
          go_simp
          have bd : Below WC.heap.size WC (v1.alloc (.cells #[.int .i64 (V j)] 2)) := keepB bc (alloc_below _ _)
          refine hK.out _ _ (CK5.out _ (BuQ.of bd hsC)) (fun hHeld => ?_)
          clear hK K
          try simp only [Act.put, List.setIfInBounds_toArray, List.set_cons_zero, List.set_cons_succ]
          refine wpAnyH_ready (rs := [6]) (by kernel_rfl) (by simp) ?_
          refine AllReadyH.cons (o := { dst := some 27, op := Op.call { callee := Callee.builtin Builtin.append, args := #[Operand.tmp 21, Operand.tmp 26], argTypes := #[47, 47] }, type := 47, pos := "l10_algebra.go:159", after := #[{ on := 0, ground := Ground.data }, { on := 5, ground := Ground.data }, { on := 2, ground := Ground.chain }], guard := none }) rfl (fun K hK => ?_) AllReadyH.nil
          have FV := hidden (SV.out.keep bd).fnd
          refine step_append_room rfl _ _ 47 rfl 2 _ 1 Try.underlying47 rfl rfl (w.heap.size + 1 + 1 + 1) 0 _ 24 rfl ⟨v1.heap.size, 0, none⟩ 1 1 [.int .i64 (V j)] rfl rfl (one_srcI _ _ _) (by intro u hu; simp at hu; rw [hu]; rfl) (by omega) (row_room FV.out HRL.out) ?_
          rw [one_set]
          have RR := hidden (SV.out.round bd hsC HRL.out (V j))
          refine hK.out _ _ (CK5.out _ RR.out.1) (fun hHeld => ?_)
          clear hK K
          try simp only [Act.put, List.setIfInBounds_toArray, List.set_cons_zero, List.set_cons_succ]
          refine wpAnyH_ready (rs := [7]) (by kernel_rfl) (by simp) ?_
          refine AllReadyH.cons (o := { dst := none, op := Op.store 47 (Operand.tmp 9) (Operand.tmp 27), type := 0, pos := "l10_algebra.go:159", after := #[{ on := 6, ground := Ground.data }, { on := 6, ground := Ground.chain }, { on := 0, ground := Ground.phase }, { on := 1, ground := Ground.phase }, { on := 2, ground := Ground.phase }, { on := 3, ground := Ground.phase }, { on := 4, ground := Ground.phase }, { on := 5, ground := Ground.phase }, { on := 6, ground := Ground.phase }], guard := none }) rfl (fun K hK => ?_) AllReadyH.nil
          have y0 := RR.out.2.1
          have yf := RR.out.2.2.1
          go_simp
          refine hK.out _ _ (CK5.out _ RR.out.2.2.2.2.1) (fun hHeld => ?_)
          clear hK K
          try simp only [Act.put, List.setIfInBounds_toArray, List.set_cons_zero, List.set_cons_succ]
          refine wpAnyH_done (by kernel_rfl) ?_ _
          clear hHeld
          gi_wp2
          exact ⟨(keepsFrom_below BC.out).trans (RR.out.2.2.2.2.2.1 _), (BuQ.of BC.out hsW).trans RR.out.2.2.2.2.1, RV.out _ (by rw [HE2.out]; exact RR.out.2.2.2.2.2.2) (Nat.le_trans hsC RR.out.2.2.2.2.1.size)⟩
        · go_simp
          have bd : Below WC.heap.size WC (v1.alloc (.cells #[.int .i64 (V j)] 2)) := keepB bc (alloc_below _ _)
          refine hK.out _ _ (CK5.out _ (BuQ.of bd hsC)) (fun hHeld => ?_)
          clear hK K
          try simp only [Act.put, List.setIfInBounds_toArray, List.set_cons_zero, List.set_cons_succ]
          refine wpAnyH_ready (rs := [0]) (by kernel_rfl) (by simp) ?_
          refine AllReadyH.cons (o := { dst := some 21, op := Op.load 47 (Operand.tmp 9), type := 47, pos := "l10_algebra.go:159", after := #[], guard := none }) rfl (fun K hK => ?_) AllReadyH.nil
          have xl := (SV.out.keep bd).fnd.box
          go_simp
          refine hK.out _ _ (CK5.out _ (BuQ.of bd hsC)) (fun hHeld => ?_)
          clear hK K xl
          try simp only [Act.put, List.setIfInBounds_toArray, List.set_cons_zero, List.set_cons_succ]
          refine wpAnyH_ready (rs := [6]) (by kernel_rfl) (by simp) ?_
          refine AllReadyH.cons (o := { dst := some 27, op := Op.call { callee := Callee.builtin Builtin.append, args := #[Operand.tmp 21, Operand.tmp 26], argTypes := #[47, 47] }, type := 47, pos := "l10_algebra.go:159", after := #[{ on := 0, ground := Ground.data }, { on := 5, ground := Ground.data }, { on := 2, ground := Ground.chain }], guard := none }) rfl (fun K hK => ?_) AllReadyH.nil
          have FV := hidden (SV.out.keep bd).fnd
          refine step_append_room rfl _ _ 47 rfl 2 _ 1 Try.underlying47 rfl rfl (w.heap.size + 1 + 1 + 1) 0 _ 24 rfl ⟨v1.heap.size, 0, none⟩ 1 1 [.int .i64 (V j)] rfl rfl (one_srcI _ _ _) (by intro u hu; simp at hu; rw [hu]; rfl) (by omega) (row_room FV.out HRL.out) ?_
          rw [one_set]
          have RR := hidden (SV.out.round bd hsC HRL.out (V j))
          refine hK.out _ _ (CK5.out _ RR.out.1) (fun hHeld => ?_)
          clear hK K
          try simp only [Act.put, List.setIfInBounds_toArray, List.set_cons_zero, List.set_cons_succ]
          refine wpAnyH_ready (rs := [7]) (by kernel_rfl) (by simp) ?_
          refine AllReadyH.cons (o := { dst := none, op := Op.store 47 (Operand.tmp 9) (Operand.tmp 27), type := 0, pos := "l10_algebra.go:159", after := #[{ on := 6, ground := Ground.data }, { on := 6, ground := Ground.chain }, { on := 0, ground := Ground.phase }, { on := 1, ground := Ground.phase }, { on := 2, ground := Ground.phase }, { on := 3, ground := Ground.phase }, { on := 4, ground := Ground.phase }, { on := 5, ground := Ground.phase }, { on := 6, ground := Ground.phase }], guard := none }) rfl (fun K hK => ?_) AllReadyH.nil
          have y0 := RR.out.2.1
          have yf := RR.out.2.2.1
          go_simp
          refine hK.out _ _ (CK5.out _ RR.out.2.2.2.2.1) (fun hHeld => ?_)
          clear hK K
          try simp only [Act.put, List.setIfInBounds_toArray, List.set_cons_zero, List.set_cons_succ]
          refine wpAnyH_done (by kernel_rfl) ?_ _
          clear hHeld
          gi_wp2
          exact ⟨(keepsFrom_below BC.out).trans (RR.out.2.2.2.2.2.1 _), (BuQ.of BC.out hsW).trans RR.out.2.2.2.2.1, RV.out _ (by rw [HE2.out]; exact RR.out.2.2.2.2.2.2) (Nat.le_trans hsC RR.out.2.2.2.2.1.size)⟩
    · skip
      rcases nodeB_cases (HG.out.nods.node q hqm) with ⟨j, ej, hj⟩ | hvv
      rotate_left
      · omega
      have hA := HG.out.nods.ar j hj
      obtain ⟨ar, har⟩ : ∃ ar : Nat, A j = ar := ⟨(A j).toNat, by omega⟩
      have hao : aOf A T q = ar := by rw [aOf_sym ej, har]; rfl
      have har2 : ar ≤ 2 := by omega
      obtain ⟨en, hen, _, _⟩ := skip_inner HG.out.whole hqm
      rw [skip_one _ hqm, hao] at hen
      have hln : ar ≤ st.length := by
        obtain ⟨hs, h1, h2, _⟩ := evA_take (A := A) (T := T) (z := z) (D := D) (V := V) ar en hen
        rw [HST.out, h2, List.length_append]; omega
      have HRG := hidden (show ∀ x, x ∈ st → 0 ≤ x ∧ x < z from fun x hx => evA_rng HO.out HG.out HL.out HV.out x (by rw [← HST.out]; exact hx))
      have hz := HO.out.z1
      have hj6 : j < 6 := by have := HO.out.sig.most; omega
      have IV := hidden (isVar_w (T q) W)
      rw [show varB (T q) = false by simp [varB]; omega] at IV
      have ACC := hidden (show ∀ ww, Below W.heap.size W ww → Calls Try.prog 95 #[.agg #[.slice (some ⟨b, off, none⟩) n c], .int .i64 (j : Int)] ww fun e w' => e = .returned (.int .i64 (ar : Int)) ∧ Below ww.heap.size ww w' from fun ww hb => by
        have := argumentCount_any b off n c m N A T q ww (HS.out.keep (keepB SV0.out.bel hb)) HG.out.nods hqm
        rwa [hao, ej] at this)
      have HE := hidden (evA_sym (A := A) (T := T) (z := z) (D := D) (V := V) hqm h0)
      have EA := hidden hao
      have EJ := hidden ej
      have ER := hidden har
      rw [ej] at IV ⊢
      clear h0 hao ej har hA hen
      gi_wp2_with (first
        | (refine ⟨trivial, ?_⟩; gi_at_call 92; refine (callsIn_wide.2 IV.out).mono ?_; rintro e WC ⟨rfl, hbC⟩; have SV := hidden (SV0.out.keep hbC); have cs1 := SV.out.cs; have BC := hidden hbC; clear hbC IV)
        | (refine ⟨trivial, ?_⟩; gi_at_call 95; refine (callsIn_wide.2 (ACC.out _ BC.out)).mono ?_; rintro e WD ⟨rfl, hbD⟩; have SW := hidden (SV.out.keep hbD); have BD := hidden (keepB BC.out hbD); clear hbD ACC cs1 SV BC))
      gi_loopw [12, 31] (fun pl i wr => ∃ k2 : Nat, k2 ≤ ar ∧ i = .int .i64 (k2 : Int) ∧ pl = .int .i64 (foldV z (st.take k2)) ∧ Hid (StV w wr (.slice (some ⟨b, off, none⟩) n c) (.iface kk uu) V (st.drop k2)) ∧ Hid (∀ BB, KeepsFrom BB W wr) ∧ Hid (BuQ (w.heap.size + 1 + 1 + 1) (w.heap.size + 1 + 1 + 1 + 1 + 1 + 1) W wr)) (fun _ i _ => ar - (intOf i).toNat)
      case atStart => exact ⟨0, Nat.zero_le _, rfl, by simp [foldV], hidden (by simpa using SW.out), hidden (fun _ => keepsFrom_below BD.out), hidden (BuQ.of BD.out hsW)⟩
      case round =>
        clear SW BD
        obtain ⟨k2, hk2, rfl, rfl, SX, KX, QX⟩ := hrel
        have hsC := Nat.le_trans hsW QX.out.size
        have hfb := foldV_bd hz.1 (st.take k2) (fun x hx => HRG.out x (List.mem_of_mem_take hx))
        rw [List.length_take, Nat.min_eq_left (by omega)] at hfb
        by_cases hlt : k2 < ar
        · have hki : (k2 : Int) < ar := by omega
          obtain ⟨x, l2, hd⟩ : ∃ x l2, st.drop k2 = x :: l2 := ⟨_, _, List.drop_eq_getElem_cons (by omega)⟩
          obtain ⟨ht1, ht2⟩ := take_one hd
          have hx := HRG.out x (List.mem_of_mem_drop (i := k2) (by rw [hd]; simp))
          have HF := hidden (show foldV z (st.take k2) * z + x = foldV z (st.take (k2 + 1)) by rw [ht1, foldV_snoc])
          have SY := hidden (show StV w wr (.slice (some ⟨b, off, none⟩) n c) (.iface kk uu) V (x :: l2) by rw [← hd]; exact SX.out)
          have HD2 := hidden ht2
          have hl2 : l2.length < 24 := by have := congrArg List.length hd; simp at this; omega
          obtain ⟨nn, hnn⟩ : ∃ nn, nn = foldV z (st.take k2) := ⟨_, rfl⟩
          rw [← hnn] at hfb HF ⊢
          have hzk : z ^ k2 ≤ 3 := by
            have hk1 : k2 = 0 ∨ k2 = 1 := by omega
            rcases hk1 with rfl | rfl
            · simp
            · rw [Int.pow_succ, Int.pow_zero, Int.one_mul]; omega
          have hb1 : 0 ≤ nn * z ∧ nn * z ≤ 9 := by
            have h2 : nn ≤ 2 := by omega
            have h3 : nn * z ≤ 2 * z := Int.mul_le_mul_of_nonneg_right h2 (by omega)
            have h4 := Int.mul_nonneg hfb.1 (show (0 : Int) ≤ z by omega)
            omega
          have hw1 : IntKind.i64.wrap (nn * z) = nn * z := wrapA hb1.1 (by omega)
          have hw2 : IntKind.i64.wrap (nn * z + x) = nn * z + x := wrapA (by omega) (by omega)
          obtain ⟨r, hr⟩ : ∃ r, r = l2.length := ⟨_, rfl⟩
          have HR := hidden hr
          have y0 : wr.cell? ⟨w.heap.size + 1 + 1 + 1 + 1, 0, none⟩ = some (.slice (some ⟨w.heap.size + 1 + 1 + 1, 0, none⟩) (r + 1) 24) := by have := SY.out.fnd.box; rw [List.length_cons, ← hr] at this; exact this
          have y1 : wr.cell? ⟨w.heap.size + 1 + 1 + 1, r, none⟩ = some (.int .i64 x) := by have := SY.out.fnd.top; rw [← hr] at this; exact this
          have CK10 := hidden (show ∀ W', Below wr.heap.size wr W' → W'.cell? ⟨w.heap.size + 1, 0, none⟩ = some (.iface kk uu) ∧ W'.cell? ⟨w.heap.size + 1 + 1 + 1 + 1, 0, none⟩ = some (.slice (some ⟨w.heap.size + 1 + 1 + 1, 0, none⟩) (r + 1) 24) ∧ W'.cell? ⟨w.heap.size + 1 + 1 + 1, r, none⟩ = some (.int .i64 x) from fun W' hb => ⟨(SY.out.keep hb).cw, by have := (SY.out.keep hb).fnd.box; rw [List.length_cons, ← hr] at this; exact this, by have := (SY.out.keep hb).fnd.top; rw [← hr] at this; exact this⟩)
          have hr24 : r < 24 := by omega
          have hri : (r : Int) < 24 := by omega
          have hrr : (r : Int) < (r : Int) + 1 := by omega
          clear hd ht1 ht2 hl2 hnn hr hzk SX
          gi_wp2
          refine wpIn_region_heldA (S := fun wz => wz.cell? ⟨w.heap.size + 1, 0, none⟩ = some (.iface kk uu) ∧ wz.cell? ⟨w.heap.size + 1 + 1 + 1 + 1, 0, none⟩ = some (.slice (some ⟨w.heap.size + 1 + 1 + 1, 0, none⟩) (r + 1) 24) ∧ wz.cell? ⟨w.heap.size + 1 + 1 + 1, r, none⟩ = some (.int .i64 x)) hmx (by kernel_rfl) (CK10.out _ (Below.refl wr.heap.size wr).drew) (fun hHeld => ?_)
          refine wpAnyH_take (i := 0) (oi := { dst := some 36, op := Op.move (Operand.tmp 12), type := 2, pos := "l10_algebra.go:165", after := #[], guard := none }) (v := ?_) rfl (by kernel_rfl) (by kernel_rfl) (by kernel_rfl) (fun _ _ _ h => h) (Or.inl ⟨by rfl, ?_⟩) (by assumption) ?_
          rotate_left
          · (intro wv hSw; (try dsimp only at hSw); go_simp; try with_reducible rfl)
          try simp only [Act.put, List.setIfInBounds_toArray, List.set_cons_zero, List.set_cons_succ]
          refine wpAnyH_take (i := 1) (oi := { dst := some 37, op := Op.load 96 (Operand.tmp 5), type := 96, pos := "l10_algebra.go:165", after := #[], guard := none }) (v := ?_) rfl (by kernel_rfl) (by kernel_rfl) (by kernel_rfl) (fun _ _ _ h => h) (Or.inl ⟨by rfl, ?_⟩) (by assumption) ?_
          rotate_left
          · (intro wv hSw; (try dsimp only at hSw); go_simp; try with_reducible rfl)
          try simp only [Act.put, List.setIfInBounds_toArray, List.set_cons_zero, List.set_cons_succ]
          refine wpAnyH_take (i := 4) (oi := { dst := some 40, op := Op.load 47 (Operand.tmp 9), type := 47, pos := "l10_algebra.go:165", after := #[], guard := none }) (v := ?_) rfl (by kernel_rfl) (by kernel_rfl) (by kernel_rfl) (fun _ _ _ h => h) (Or.inl ⟨by rfl, ?_⟩) (by assumption) ?_
          rotate_left
          · (intro wv hSw; (try dsimp only at hSw); go_simp; try with_reducible rfl)
          try simp only [Act.put, List.setIfInBounds_toArray, List.set_cons_zero, List.set_cons_succ]
          refine wpAnyH_take (i := 5) (oi := { dst := some 41, op := Op.move (Operand.tmp 13), type := 3, pos := "l10_algebra.go:165", after := #[], guard := none }) (v := ?_) rfl (by kernel_rfl) (by kernel_rfl) (by kernel_rfl) (fun _ _ _ h => h) (Or.inl ⟨by rfl, ?_⟩) (by assumption) ?_
          rotate_left
          · (intro wv hSw; (try dsimp only at hSw); go_simp; try with_reducible rfl)
          try simp only [Act.put, List.setIfInBounds_toArray, List.set_cons_zero, List.set_cons_succ]
          refine wpAnyH_take (i := 6) (oi := { dst := some 42, op := Op.indexAddr 47 (Operand.tmp 40) (Operand.tmp 41), type := 0, pos := "l10_algebra.go:165", after := #[{ on := 4, ground := Ground.data }, { on := 5, ground := Ground.data }], guard := none }) (v := ?_) rfl (by kernel_rfl) (by kernel_rfl) (by kernel_rfl) (fun _ _ _ h => h) (Or.inl ⟨by rfl, ?_⟩) (by assumption) ?_
          rotate_left
          · (intro wv hSw; (try dsimp only at hSw); go_simp; try with_reducible rfl)
          try simp only [Act.put, List.setIfInBounds_toArray, List.set_cons_zero, List.set_cons_succ]
          refine wpAnyH_take (i := 7) (oi := { dst := some 43, op := Op.load 2 (Operand.tmp 42), type := 2, pos := "l10_algebra.go:165", after := #[{ on := 6, ground := Ground.data }], guard := none }) (v := ?_) rfl (by kernel_rfl) (by kernel_rfl) (by kernel_rfl) (fun _ _ _ h => h) (Or.inl ⟨by rfl, ?_⟩) (by assumption) ?_
          rotate_left
          · (intro wv hSw; (try dsimp only at hSw); go_simp; try with_reducible rfl)
          try simp only [Act.put, List.setIfInBounds_toArray, List.set_cons_zero, List.set_cons_succ]
          refine wpAnyH_ready (rs := [2]) (by kernel_rfl) (by simp) ?_
          refine AllReadyH.cons (o := { dst := some 38, op := Op.call { callee := Callee.invoke (Operand.tmp 37) "loop.example/g00653/impl.size", args := #[], argTypes := #[] }, type := 2, pos := "l10_algebra.go:165", after := #[{ on := 1, ground := Ground.data }], guard := none }) rfl (fun K hK => ?_) AllReadyH.nil
          refine size_step rfl rfl rfl HW.out (fun v1 bc0 => ?_)
          have bc : Below wr.heap.size wr v1 := (Below.refl wr.heap.size wr).drew.trans bc0
          refine hK.out _ _ (CK10.out _ bc) (fun hHeld => ?_)
          clear hK K
          try simp only [Act.put, List.setIfInBounds_toArray, List.set_cons_zero, List.set_cons_succ]
          refine wpAnyH_take (i := 3) (oi := { dst := some 39, op := Op.binOp BinOp.mul 2 (Operand.tmp 36) (Operand.tmp 38) 2, type := 2, pos := "l10_algebra.go:165", after := #[{ on := 0, ground := Ground.data }, { on := 2, ground := Ground.data }], guard := none }) (v := ?_) rfl (by kernel_rfl) (by kernel_rfl) (by kernel_rfl) (fun _ _ _ h => h) (Or.inl ⟨by rfl, ?_⟩) (by assumption) ?_
          rotate_left
          · (intro wv hSw; (try dsimp only at hSw); go_simp; try with_reducible rfl)
          try simp only [Act.put, List.setIfInBounds_toArray, List.set_cons_zero, List.set_cons_succ]
          refine wpAnyH_take (i := 8) (oi := { dst := some 44, op := Op.binOp BinOp.add 2 (Operand.tmp 39) (Operand.tmp 43) 2, type := 2, pos := "l10_algebra.go:165", after := #[{ on := 3, ground := Ground.data }, { on := 7, ground := Ground.data }], guard := none }) (v := ?_) rfl (by kernel_rfl) (by kernel_rfl) (by kernel_rfl) (fun _ _ _ h => h) (Or.inl ⟨by rfl, ?_⟩) (by assumption) ?_
          rotate_left
          · (intro wv hSw; (try dsimp only at hSw); go_simp; try with_reducible rfl)
          try simp only [Act.put, List.setIfInBounds_toArray, List.set_cons_zero, List.set_cons_succ]
          refine wpAnyH_ready (rs := [9]) (by kernel_rfl) (by simp) ?_
          refine AllReadyH.cons (o := { dst := some 12, op := Op.assign (Operand.tmp 44), type := 2, pos := "l10_algebra.go:165", after := #[{ on := 8, ground := Ground.data }, { on := 2, ground := Ground.chain }, { on := 0, ground := Ground.phase }, { on := 1, ground := Ground.phase }, { on := 2, ground := Ground.phase }, { on := 3, ground := Ground.phase }, { on := 4, ground := Ground.phase }, { on := 5, ground := Ground.phase }, { on := 6, ground := Ground.phase }, { on := 7, ground := Ground.phase }, { on := 8, ground := Ground.phase }], guard := none }) rfl (fun K hK => ?_) AllReadyH.nil
          go_simp
          refine hK.out _ _ (CK10.out _ bc) (fun hHeld => ?_)
          clear hK K
          try simp only [Act.put, List.setIfInBounds_toArray, List.set_cons_zero, List.set_cons_succ]
          refine wpAnyH_done (by kernel_rfl) ?_ _
          clear hHeld
          have yb := (CK10.out _ bc).2.1
          have yf := (SY.out.keep bc).fnd.boxf
          have SP := hidden (SY.out.keep bc).pop
          have BF := hidden bc
          rw [← HR.out] at SP
          gi_wp2
          go_roundw
          case rel => exact ⟨k2 + 1, by omega, by go_num, by rw [HF.out], hidden (by rw [HD2.out]; exact SP.out), hidden (fun BB => (KX.out BB).trans ((keepsFrom_below BF.out).trans ((KeepsOthers.setCell _ _ _).from _))), hidden (QX.out.trans ((BuQ.of BF.out hsC).trans (BuQ.but1 (But.set _ _ _ _))))⟩
          case measure => simp [intOf]; omega
        · obtain rfl : k2 = ar := by omega
          have hki : ¬ (k2 : Int) < k2 := by omega
          obtain ⟨nn, hnn⟩ : ∃ nn, nn = (foldV z (st.take k2)).toNat := ⟨_, rfl⟩
          have hnz : foldV z (st.take k2) = (nn : Int) := by rw [hnn]; have := hfb.1; omega
          have htb := HO.out.tab j (by omega)
          have hlt2 : nn < D.m j := by
            have h1 := hfb.2
            have h2 := htb.1
            rw [ER.out] at h2
            simp only [Int.toNat_natCast] at h2
            omega
          have HFIN := hidden (show evA A T z D V m q = D.L j nn :: st.drop k2 from by rw [HE.out, EJ.out, EA.out, ← HST.out, ← hnn]; simp)
          have NAC := hidden (show ∀ ww, Below wr.heap.size wr ww → Calls Try.prog 96 #[.iface kk uu, .int .i64 (j : Int), .int .i64 (nn : Int)] ww fun e w' => e = .returned (.int .i64 (D.L j nn)) ∧ Below ww.heap.size ww w' from fun ww hb =>
            numAt_any HO.out HK.out j nn ww (HW.out.keep (keepB SX.out.bel hb)) (by omega) hlt2)
          obtain ⟨xv, hxv⟩ : ∃ xv, xv = D.L j nn := ⟨_, rfl⟩
          rw [← hxv] at NAC HFIN
          obtain ⟨l2, hl2⟩ : ∃ l2, l2 = st.drop k2 := ⟨_, rfl⟩
          have hl3 : l2.length < 24 := by rw [hl2, List.length_drop]; omega
          rw [← hl2] at HFIN SX
          have HRL := hidden hl3
          have SV := SX
          have CK13 := hidden (show ∀ W', BuQ (w.heap.size + 1 + 1 + 1) (w.heap.size + 1 + 1 + 1 + 1 + 1 + 1) wr W' → W'.cell? ⟨w.heap.size + 1, 0, none⟩ = some (.iface kk uu) from fun W' hb => (SV.out.buq hb).2.1)
          rw [hnz]
          clear hnn hnz htb hlt2 hxv hl2 hfb
          gi_wp2
          refine wpIn_region_heldA (S := fun wz => wz.cell? ⟨w.heap.size + 1, 0, none⟩ = some (.iface kk uu)) hmx (by kernel_rfl) (CK13.out _ (BuQ.of (Below.refl wr.heap.size wr).drew hsC)) (fun hHeld => ?_)
          refine wpAnyH_take (i := 1) (oi := { dst := some 50, op := Op.load 96 (Operand.tmp 5), type := 96, pos := "l10_algebra.go:168", after := #[], guard := none }) (v := ?_) rfl (by kernel_rfl) (by kernel_rfl) (by kernel_rfl) (fun _ _ _ h => h) (Or.inl ⟨by rfl, ?_⟩) (by assumption) ?_
          rotate_left
          · (intro wv hSw; (try dsimp only at hSw); go_simp; try with_reducible rfl)
          try simp only [Act.put, List.setIfInBounds_toArray, List.set_cons_zero, List.set_cons_succ]
          refine wpAnyH_take (i := 2) (oi := { dst := some 51, op := Op.move (Operand.tmp 11), type := 2, pos := "l10_algebra.go:168", after := #[], guard := none }) (v := ?_) rfl (by kernel_rfl) (by kernel_rfl) (by kernel_rfl) (fun _ _ _ h => h) (Or.inl ⟨by rfl, ?_⟩) (by assumption) ?_
          rotate_left
          · (intro wv hSw; (try dsimp only at hSw); go_simp; try with_reducible rfl)
          try simp only [Act.put, List.setIfInBounds_toArray, List.set_cons_zero, List.set_cons_succ]
          refine wpAnyH_take (i := 3) (oi := { dst := some 52, op := Op.move (Operand.tmp 12), type := 2, pos := "l10_algebra.go:168", after := #[], guard := none }) (v := ?_) rfl (by kernel_rfl) (by kernel_rfl) (by kernel_rfl) (fun _ _ _ h => h) (Or.inl ⟨by rfl, ?_⟩) (by assumption) ?_
          rotate_left
          · (intro wv hSw; (try dsimp only at hSw); go_simp; try with_reducible rfl)
          try simp only [Act.put, List.setIfInBounds_toArray, List.set_cons_zero, List.set_cons_succ]
          refine wpAnyH_ready (rs := [0, 4]) (by kernel_rfl) (by simp) ?_
          refine AllReadyH.cons (o := { dst := some 49, op := Op.load 47 (Operand.tmp 9), type := 47, pos := "l10_algebra.go:168", after := #[], guard := none }) rfl (fun K hK => ?_) (AllReadyH.cons (o := { dst := some 53, op := Op.call { callee := Callee.value (Operand.func 96), args := #[Operand.tmp 50, Operand.tmp 51, Operand.tmp 52], argTypes := #[96, 2, 2] }, type := 2, pos := "l10_algebra.go:168", after := #[{ on := 1, ground := Ground.data }, { on := 2, ground := Ground.data }, { on := 3, ground := Ground.data }], guard := none }) rfl (fun K hK => ?_) AllReadyH.nil)
          · have xl := (SV.out.keep (Below.refl wr.heap.size wr).drew).fnd.box
            go_simp
            refine hK.out _ _ (CK13.out _ (BuQ.of (Below.refl wr.heap.size wr).drew hsC)) (fun hHeld => ?_)
            clear hK K xl
            try simp only [Act.put, List.setIfInBounds_toArray, List.set_cons_zero, List.set_cons_succ]
            refine wpAnyH_ready (rs := [4]) (by kernel_rfl) (by simp) ?_
            refine AllReadyH.cons (o := { dst := some 53, op := Op.call { callee := Callee.value (Operand.func 96), args := #[Operand.tmp 50, Operand.tmp 51, Operand.tmp 52], argTypes := #[96, 2, 2] }, type := 2, pos := "l10_algebra.go:168", after := #[{ on := 1, ground := Ground.data }, { on := 2, ground := Ground.data }, { on := 3, ground := Ground.data }], guard := none }) rfl (fun K hK => ?_) AllReadyH.nil
            go_simp
            go_at_call 96; with_reducible refine (NAC.out _ (Below.refl wr.heap.size wr).drew).mono ?_; rintro e v1 ⟨rfl, bc0⟩
            try go_wp2_with fail
            have bc : Below wr.heap.size wr v1 := (Below.refl wr.heap.size wr).drew.trans bc0
            refine hK.out _ _ (CK13.out _ (BuQ.of bc hsC)) (fun hHeld => ?_)
            clear hK K
            try simp only [Act.put, List.setIfInBounds_toArray, List.set_cons_zero, List.set_cons_succ]
            refine wpAnyH_ready (rs := [5]) (by kernel_rfl) (by simp) ?_
            refine AllReadyH.cons (o := { dst := some 54, op := Op.buildSlice 47 1 #[(0, Operand.tmp 53)], type := 47, pos := "l10_algebra.go:168", after := #[{ on := 4, ground := Ground.data }], guard := none }) rfl (fun K hK => ?_) AllReadyH.nil
            go_simp
            have bd : Below wr.heap.size wr (v1.alloc (.cells #[.int .i64 xv] 2)) := keepB bc (alloc_below _ _)
            refine hK.out _ _ (CK13.out _ (BuQ.of bd hsC)) (fun hHeld => ?_)
            clear hK K
            try simp only [Act.put, List.setIfInBounds_toArray, List.set_cons_zero, List.set_cons_succ]
            refine wpAnyH_ready (rs := [6]) (by kernel_rfl) (by simp) ?_
            refine AllReadyH.cons (o := { dst := some 55, op := Op.call { callee := Callee.builtin Builtin.append, args := #[Operand.tmp 49, Operand.tmp 54], argTypes := #[47, 47] }, type := 47, pos := "l10_algebra.go:168", after := #[{ on := 0, ground := Ground.data }, { on := 5, ground := Ground.data }, { on := 4, ground := Ground.chain }], guard := none }) rfl (fun K hK => ?_) AllReadyH.nil
            have FV := hidden (SV.out.keep bd).fnd
            refine step_append_room rfl _ _ 47 rfl 2 _ 1 Try.underlying47 rfl rfl (w.heap.size + 1 + 1 + 1) 0 _ 24 rfl ⟨v1.heap.size, 0, none⟩ 1 1 [.int .i64 xv] rfl rfl (one_srcI _ _ _) (by intro u hu; simp at hu; rw [hu]; rfl) (by omega) (row_room FV.out HRL.out) ?_
            rw [one_set]
            have RR := hidden (SV.out.round bd hsC HRL.out xv)
            refine hK.out _ _ (CK13.out _ RR.out.1) (fun hHeld => ?_)
            clear hK K
            try simp only [Act.put, List.setIfInBounds_toArray, List.set_cons_zero, List.set_cons_succ]
            refine wpAnyH_ready (rs := [7]) (by kernel_rfl) (by simp) ?_
            refine AllReadyH.cons (o := { dst := none, op := Op.store 47 (Operand.tmp 9) (Operand.tmp 55), type := 0, pos := "l10_algebra.go:168", after := #[{ on := 6, ground := Ground.data }, { on := 6, ground := Ground.chain }, { on := 0, ground := Ground.phase }, { on := 1, ground := Ground.phase }, { on := 2, ground := Ground.phase }, { on := 3, ground := Ground.phase }, { on := 4, ground := Ground.phase }, { on := 5, ground := Ground.phase }, { on := 6, ground := Ground.phase }], guard := none }) rfl (fun K hK => ?_) AllReadyH.nil
            have y0 := RR.out.2.1
            have yf := RR.out.2.2.1
            go_simp
            refine hK.out _ _ (CK13.out _ RR.out.2.2.2.2.1) (fun hHeld => ?_)
            clear hK K
            try simp only [Act.put, List.setIfInBounds_toArray, List.set_cons_zero, List.set_cons_succ]
            refine wpAnyH_done (by kernel_rfl) ?_ _
            clear hHeld
            gi_wp2
            exact ⟨(KX.out _).trans (RR.out.2.2.2.2.2.1 _), QX.out.trans RR.out.2.2.2.2.1, RV.out _ (by rw [HFIN.out]; exact RR.out.2.2.2.2.2.2) (Nat.le_trans hsC RR.out.2.2.2.2.1.size)⟩
          · go_simp
            go_at_call 96; with_reducible refine (NAC.out _ (Below.refl wr.heap.size wr).drew).mono ?_; rintro e v1 ⟨rfl, bc0⟩
            try go_wp2_with fail
            have bc : Below wr.heap.size wr v1 := (Below.refl wr.heap.size wr).drew.trans bc0
            refine hK.out _ _ (CK13.out _ (BuQ.of bc hsC)) (fun hHeld => ?_)
            clear hK K
            try simp only [Act.put, List.setIfInBounds_toArray, List.set_cons_zero, List.set_cons_succ]
            refine wpAnyH_ready (rs := [0, 5]) (by kernel_rfl) (by simp) ?_
            refine AllReadyH.cons (o := { dst := some 49, op := Op.load 47 (Operand.tmp 9), type := 47, pos := "l10_algebra.go:168", after := #[], guard := none }) rfl (fun K hK => ?_) (AllReadyH.cons (o := { dst := some 54, op := Op.buildSlice 47 1 #[(0, Operand.tmp 53)], type := 47, pos := "l10_algebra.go:168", after := #[{ on := 4, ground := Ground.data }], guard := none }) rfl (fun K hK => ?_) AllReadyH.nil)
            · have xl := (SV.out.keep bc).fnd.box
              go_simp
              refine hK.out _ _ (CK13.out _ (BuQ.of bc hsC)) (fun hHeld => ?_)
              clear hK K xl
              try simp only [Act.put, List.setIfInBounds_toArray, List.set_cons_zero, List.set_cons_succ]
              refine wpAnyH_ready (rs := [5]) (by kernel_rfl) (by simp) ?_
              refine AllReadyH.cons (o := { dst := some 54, op := Op.buildSlice 47 1 #[(0, Operand.tmp 53)], type := 47, pos := "l10_algebra.go:168", after := #[{ on := 4, ground := Ground.data }], guard := none }) rfl (fun K hK => ?_) AllReadyH.nil
              go_simp
              have bd : Below wr.heap.size wr (v1.alloc (.cells #[.int .i64 xv] 2)) := keepB bc (alloc_below _ _)
              refine hK.out _ _ (CK13.out _ (BuQ.of bd hsC)) (fun hHeld => ?_)
              clear hK K
              try simp only [Act.put, List.setIfInBounds_toArray, List.set_cons_zero, List.set_cons_succ]
              refine wpAnyH_ready (rs := [6]) (by kernel_rfl) (by simp) ?_
              refine AllReadyH.cons (o := { dst := some 55, op := Op.call { callee := Callee.builtin Builtin.append, args := #[Operand.tmp 49, Operand.tmp 54], argTypes := #[47, 47] }, type := 47, pos := "l10_algebra.go:168", after := #[{ on := 0, ground := Ground.data }, { on := 5, ground := Ground.data }, { on := 4, ground := Ground.chain }], guard := none }) rfl (fun K hK => ?_) AllReadyH.nil
              have FV := hidden (SV.out.keep bd).fnd
              refine step_append_room rfl _ _ 47 rfl 2 _ 1 Try.underlying47 rfl rfl (w.heap.size + 1 + 1 + 1) 0 _ 24 rfl ⟨v1.heap.size, 0, none⟩ 1 1 [.int .i64 xv] rfl rfl (one_srcI _ _ _) (by intro u hu; simp at hu; rw [hu]; rfl) (by omega) (row_room FV.out HRL.out) ?_
              rw [one_set]
              have RR := hidden (SV.out.round bd hsC HRL.out xv)
              refine hK.out _ _ (CK13.out _ RR.out.1) (fun hHeld => ?_)
              clear hK K
              try simp only [Act.put, List.setIfInBounds_toArray, List.set_cons_zero, List.set_cons_succ]
              refine wpAnyH_ready (rs := [7]) (by kernel_rfl) (by simp) ?_
              refine AllReadyH.cons (o := { dst := none, op := Op.store 47 (Operand.tmp 9) (Operand.tmp 55), type := 0, pos := "l10_algebra.go:168", after := #[{ on := 6, ground := Ground.data }, { on := 6, ground := Ground.chain }, { on := 0, ground := Ground.phase }, { on := 1, ground := Ground.phase }, { on := 2, ground := Ground.phase }, { on := 3, ground := Ground.phase }, { on := 4, ground := Ground.phase }, { on := 5, ground := Ground.phase }, { on := 6, ground := Ground.phase }], guard := none }) rfl (fun K hK => ?_) AllReadyH.nil
              have y0 := RR.out.2.1
              have yf := RR.out.2.2.1
              go_simp
              refine hK.out _ _ (CK13.out _ RR.out.2.2.2.2.1) (fun hHeld => ?_)
              clear hK K
              try simp only [Act.put, List.setIfInBounds_toArray, List.set_cons_zero, List.set_cons_succ]
              refine wpAnyH_done (by kernel_rfl) ?_ _
              clear hHeld
              gi_wp2
              exact ⟨(KX.out _).trans (RR.out.2.2.2.2.2.1 _), QX.out.trans RR.out.2.2.2.2.1, RV.out _ (by rw [HFIN.out]; exact RR.out.2.2.2.2.2.2) (Nat.le_trans hsC RR.out.2.2.2.2.1.size)⟩
            · go_simp
              have bd : Below wr.heap.size wr (v1.alloc (.cells #[.int .i64 xv] 2)) := keepB bc (alloc_below _ _)
              refine hK.out _ _ (CK13.out _ (BuQ.of bd hsC)) (fun hHeld => ?_)
              clear hK K
              try simp only [Act.put, List.setIfInBounds_toArray, List.set_cons_zero, List.set_cons_succ]
              refine wpAnyH_ready (rs := [0]) (by kernel_rfl) (by simp) ?_
              refine AllReadyH.cons (o := { dst := some 49, op := Op.load 47 (Operand.tmp 9), type := 47, pos := "l10_algebra.go:168", after := #[], guard := none }) rfl (fun K hK => ?_) AllReadyH.nil
              have xl := (SV.out.keep bd).fnd.box
              go_simp
              refine hK.out _ _ (CK13.out _ (BuQ.of bd hsC)) (fun hHeld => ?_)
              clear hK K xl
              try simp only [Act.put, List.setIfInBounds_toArray, List.set_cons_zero, List.set_cons_succ]
              refine wpAnyH_ready (rs := [6]) (by kernel_rfl) (by simp) ?_
              refine AllReadyH.cons (o := { dst := some 55, op := Op.call { callee := Callee.builtin Builtin.append, args := #[Operand.tmp 49, Operand.tmp 54], argTypes := #[47, 47] }, type := 47, pos := "l10_algebra.go:168", after := #[{ on := 0, ground := Ground.data }, { on := 5, ground := Ground.data }, { on := 4, ground := Ground.chain }], guard := none }) rfl (fun K hK => ?_) AllReadyH.nil
              have FV := hidden (SV.out.keep bd).fnd
              refine step_append_room rfl _ _ 47 rfl 2 _ 1 Try.underlying47 rfl rfl (w.heap.size + 1 + 1 + 1) 0 _ 24 rfl ⟨v1.heap.size, 0, none⟩ 1 1 [.int .i64 xv] rfl rfl (one_srcI _ _ _) (by intro u hu; simp at hu; rw [hu]; rfl) (by omega) (row_room FV.out HRL.out) ?_
              rw [one_set]
              have RR := hidden (SV.out.round bd hsC HRL.out xv)
              refine hK.out _ _ (CK13.out _ RR.out.1) (fun hHeld => ?_)
              clear hK K
              try simp only [Act.put, List.setIfInBounds_toArray, List.set_cons_zero, List.set_cons_succ]
              refine wpAnyH_ready (rs := [7]) (by kernel_rfl) (by simp) ?_
              refine AllReadyH.cons (o := { dst := none, op := Op.store 47 (Operand.tmp 9) (Operand.tmp 55), type := 0, pos := "l10_algebra.go:168", after := #[{ on := 6, ground := Ground.data }, { on := 6, ground := Ground.chain }, { on := 0, ground := Ground.phase }, { on := 1, ground := Ground.phase }, { on := 2, ground := Ground.phase }, { on := 3, ground := Ground.phase }, { on := 4, ground := Ground.phase }, { on := 5, ground := Ground.phase }, { on := 6, ground := Ground.phase }], guard := none }) rfl (fun K hK => ?_) AllReadyH.nil
              have y0 := RR.out.2.1
              have yf := RR.out.2.2.1
              go_simp
              refine hK.out _ _ (CK13.out _ RR.out.2.2.2.2.1) (fun hHeld => ?_)
              clear hK K
              try simp only [Act.put, List.setIfInBounds_toArray, List.set_cons_zero, List.set_cons_succ]
              refine wpAnyH_done (by kernel_rfl) ?_ _
              clear hHeld
              gi_wp2
              exact ⟨(KX.out _).trans (RR.out.2.2.2.2.2.1 _), QX.out.trans RR.out.2.2.2.2.1, RV.out _ (by rw [HFIN.out]; exact RR.out.2.2.2.2.2.2) (Nat.le_trans hsC RR.out.2.2.2.2.1.size)⟩

  case done =>
    rintro Dd W hD ⟨⟨⟨i1, i2, i3, i4⟩, i5⟩, hsW⟩ hK
    have e0 : evA A T z D V m (m - m) = [evV A T z D V m 0] := by
      rw [Nat.sub_self]
      have := evA_some (A := A) (T := T) (z := z) (D := D) (V := V) HG.out.whole
      rw [this, evA_end (Nat.le_refl _)]
    rw [e0] at i1
    have y0 := i1.box
    have y1 := i1.cell 0 (by simp)
    have BF := hidden (i5.trans (belowK_b (w := w) (Nat.le_refl _) W Dd _ (.deferred none) (by simp at hD; omega) hK rfl rfl))
    have HKD := hidden hK
    clear i1 i2 i3 i4 i5 hK S0 b0 b1 b5 f0 mk e0
    simp only [List.length_cons, List.length_nil, Nat.zero_add, List.reverse_cons, List.reverse_nil, List.nil_append, List.getD_cons_zero] at y0 y1
    obtain ⟨x, hx⟩ : ∃ x, x = evV A T z D V m 0 := ⟨_, rfl⟩
    have HX := hidden hx
    rw [← hx] at y1
    clear hx
    gi_wp2
    refine ⟨by simp, .inl ⟨_, _, rfl, run_takeDeferred HKD.out, ?_⟩⟩
    exact ⟨_, results_tmp rfl _ _ _, by rw [← HX.out]; rfl, BF.out⟩

end Go.Proofs.Ytdcngfdklpdpkaa
