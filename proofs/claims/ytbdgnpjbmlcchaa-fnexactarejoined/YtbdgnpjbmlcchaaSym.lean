/- Contracts of the small functions that the exact laws on signatures call: copies of symbols, their sizes, their comparison. -/
import Derived.Test.YtbdgnpjbmlcchaaRows
import Derived.WalkKit
import Derived.WalkSpells
import Derived.WalkLawsBesides
import Derived.Below
import Derived.Outline
import Derived.Laws.OwnMore
import Derived.Deep.QuietTactic
import Derived.BigQuiet
import Derived.OpenShut
import Derived.Deep.RegionWith
import Derived.Deep.DeepCutAuto
namespace Go.Proofs.Ytbdgnpjbmlcchaa
open Go.RowKit

theorem hidden {p : Prop} (h : p) : Hid p := h

/-- A row of symbols in memory: the name and the arity of each. -/
structure Syms (w : World) (b off n : Nat) (N : Nat → ByteArray) (A : Nat → Int) : Prop where
  blk : 0 < n → b < w.heap.size
  name : ∀ i, i < n → w.cell? ⟨b, off + i * 2, none⟩ = some (.string (N i))
  arity : ∀ i, i < n → w.cell? ⟨b, off + i * 2 + 1, none⟩ = some (.int .i64 (A i))
  big : ∀ i, i < n → (N i).size ≤ maxLen
  fits : ∀ i, i < n → -9223372036854775808 ≤ A i ∧ A i ≤ 9223372036854775807

theorem Syms.later {w w' : World} {B b off n : Nat} {N : Nat → ByteArray} {A : Nat → Int} (h : Syms w b off n N A) (hb : Below B w w') (hB : 0 < n → b < B) : Syms w' b off n N A :=
  ⟨fun h0 => Nat.lt_of_lt_of_le (h.blk h0) hb.size, fun i hi => by rw [hb.cell (p := ⟨b, off + i * 2, none⟩) (hB (by omega))]; exact h.name i hi,
   fun i hi => by rw [hb.cell (p := ⟨b, off + i * 2 + 1, none⟩) (hB (by omega))]; exact h.arity i hi, h.big, h.fits⟩

set_option maxRecDepth 20000 in
set_option maxHeartbeats 400000 in
theorem szSymbol_any (s : ByteArray) (x left : Int) (w : World) (hs : s.size ≤ maxLen) (h0 : 0 ≤ left) (h1 : left ≤ 1048576) :
    Calls Try.prog 27 #[.agg #[.string s, .int .i64 x], .int .i64 left] w fun e w' => (∃ r, e = .returned (.int .i64 r) ∧ (r = -1 ∨ (0 ≤ r ∧ r ≤ left ∧ s.size ≤ 1048576))) ∧ Below w.heap.size w w' := by
  unfold maxLen at hs
  by_cases hc : left - s.size < 0
  · go_enter Try.func27, Try.ntmps27
    go_wp2
    go_ret
    exact ⟨⟨_, rfl, Or.inl rfl⟩, (Below.refl _ _).alloc (Nat.le_refl _) _⟩
  · go_enter Try.func27, Try.ntmps27
    go_wp2
    go_ret
    exact ⟨⟨_, rfl, Or.inr ⟨by omega, by omega, by omega⟩⟩, (Below.refl _ _).alloc (Nat.le_refl _) _⟩

set_option maxRecDepth 20000 in
set_option maxHeartbeats 400000 in
theorem szSymbolS_many (p : Option Addr) (n c : Nat) (left : Int) (w : World) (hn : n ≤ maxLen) (h0 : 0 ≤ left) (h1 : left ≤ 1048576) (h : left < n) :
    Calls Try.prog 15 #[.slice p n c, .int .i64 left] w fun e w' => e = .returned (.int .i64 (-1)) ∧ Below w.heap.size w w' := by
  unfold maxLen at hn
  go_enter Try.func15, Try.ntmps15
  go_wp2
  go_ret
  exact ⟨rfl, Below.refl _ _⟩

set_option maxRecDepth 20000 in
set_option maxHeartbeats 400000 in
theorem szSymbolS_any (b off n c : Nat) (N : Nat → ByteArray) (A : Nat → Int) (left : Int) (w : World) (h : Syms w b off n N A) (h0 : 0 ≤ left) (h1 : left ≤ 1048576) (hn : ¬ left < n) :
    Calls Try.prog 15 #[.slice (some ⟨b, off, none⟩) n c, .int .i64 left] w fun e w' => (∃ r, e = .returned (.int .i64 r) ∧ (r = -1 ∨ (0 ≤ r ∧ r ≤ left ∧ ∀ i, i < n → (N i).size ≤ 1048576))) ∧ Below w.heap.size w w' := by
  go_enter Try.func15, Try.ntmps15
  go_wp2
  go_loopw [1, 5] (fun l i wr => ∃ (k : Nat) (r : Int), k ≤ n ∧ i = .int .i64 k ∧ l = .int .i64 r ∧ 0 ≤ r ∧ r ≤ left ∧ (∀ i, i < k → (N i).size ≤ 1048576) ∧ Below w.heap.size w wr) (fun _ i _ => n - (intOf i).toNat)
  case atStart => exact ⟨0, _, Nat.zero_le _, rfl, rfl, by omega, by omega, fun i hi => by omega, Below.refl _ _⟩
  case round =>
    obtain ⟨k, r, hk, rfl, rfl, hr0, hr1, hsz, hbel⟩ := hrel
    by_cases hlt : k < n
    · have hs := h.later hbel h.blk
      have c1 := hs.name k hlt
      have c2 := hs.arity k hlt
      have hbg := h.big k hlt
      go_wp2_with fail
      refine (szSymbol_any _ _ _ _ hbg hr0 (by omega)).mono ?_
      rintro e w1 ⟨⟨r1, rfl, hr⟩, hb1⟩
      have b1 : Below w.heap.size w w1 := hbel.trans (hb1.mono hbel.size)
      rcases hr with rfl | ⟨q0, q1, q2⟩
      · go_wp2
        go_ret
        exact ⟨⟨_, rfl, Or.inl rfl⟩, b1⟩
      · go_wp2
        go_roundw
        case rel => exact ⟨k + 1, r1, by omega, by go_num, rfl, q0, by omega, fun i hi => by
          by_cases e : i = k
          · rw [e]; exact q2
          · exact hsz i (by omega), b1⟩
        case measure => simp [intOf]; omega
    · go_wp2
      go_ret
      exact ⟨⟨_, rfl, Or.inr ⟨hr0, hr1, fun i hi => hsz i (by omega)⟩⟩, hbel⟩

/-- What came in: no symbol, or a row of them. -/
def SrcS (w : World) (p : Option Addr) (n : Nat) (N : Nat → ByteArray) (A : Nat → Int) : Prop :=
  n ≤ maxLen ∧ (n = 0 ∨ ∃ b off, p = some ⟨b, off, none⟩ ∧ Syms w b off n N A)

set_option maxRecDepth 20000 in
set_option maxHeartbeats 400000 in
theorem szSymbolS_none (p : Option Addr) (c : Nat) (left : Int) (w : World) (h0 : 0 ≤ left) (h1 : left ≤ 1048576) :
    Calls Try.prog 15 #[.slice p 0 c, .int .i64 left] w fun e w' => e = .returned (.int .i64 left) ∧ Below w.heap.size w w' := by
  go_enter Try.func15, Try.ntmps15
  go_wp2
  refine wp_loop_rounds 1 ?_
  rw [rounds_succ]
  go_wp2
  go_ret
  exact ⟨by simp, Below.refl _ _⟩

theorem szSymbolS_src (p : Option Addr) (n c : Nat) (N : Nat → ByteArray) (A : Nat → Int) (left : Int) (w : World) (h : SrcS w p n N A) (h0 : 0 ≤ left) (h1 : left ≤ 1048576) :
    Calls Try.prog 15 #[.slice p n c, .int .i64 left] w fun e w' => (∃ r, e = .returned (.int .i64 r) ∧ (r = -1 ∨ (0 ≤ r ∧ r ≤ left ∧ n ≤ 1048576 ∧ ∀ i, i < n → (N i).size ≤ 1048576))) ∧ Below w.heap.size w w' := by
  by_cases hn : left < n
  · refine (szSymbolS_many p n c left w h.1 h0 h1 hn).mono ?_
    rintro e w' ⟨rfl, hb⟩
    exact ⟨⟨_, rfl, Or.inl rfl⟩, hb⟩
  · rcases h.2 with rfl | ⟨b, off, rfl, hs⟩
    · refine (szSymbolS_none p c left w h0 h1).mono ?_
      rintro e w' ⟨rfl, hb⟩
      exact ⟨⟨_, rfl, Or.inr ⟨h0, Int.le_refl _, by omega, fun i hi => by omega⟩⟩, hb⟩
    · refine (szSymbolS_any b off n c N A left w hs h0 h1 hn).mono ?_
      rintro e w' ⟨⟨r, rfl, hr⟩, hb⟩
      exact ⟨⟨r, rfl, hr.imp id fun ⟨a, b, c⟩ => ⟨a, b, by omega, c⟩⟩, hb⟩

theorem SrcS.later {w w' : World} {p : Option Addr} {n : Nat} {N : Nat → ByteArray} {A : Nat → Int} (h : SrcS w p n N A) (hb : Below w.heap.size w w') : SrcS w' p n N A :=
  ⟨h.1, h.2.imp id fun ⟨b, off, hp, hs⟩ => ⟨b, off, hp, hs.later hb hs.blk⟩⟩

theorem alloc_below (w : World) (o : Obj) : Below w.heap.size w (w.alloc o) := (Below.refl _ _).alloc (Nat.le_refl _) o

set_option maxRecDepth 20000 in
set_option maxHeartbeats 400000 in
theorem szSignature_src (p : Option Addr) (n c : Nat) (N : Nat → ByteArray) (A : Nat → Int) (left : Int) (w : World) (h : SrcS w p n N A) (h0 : 0 ≤ left) (h1 : left ≤ 1048576) :
    Calls Try.prog 4 #[.agg #[.slice p n c], .int .i64 left] w fun e w' => (∃ r, e = .returned (.int .i64 r) ∧ (r = -1 ∨ (0 ≤ r ∧ r ≤ left ∧ n ≤ 1048576 ∧ ∀ i, i < n → (N i).size ≤ 1048576))) ∧ Below w.heap.size w w' := by
  have hn := h.1
  unfold maxLen at hn
  go_enter Try.func4, Try.ntmps4
  go_wp2_with fail
  refine (szSymbolS_src _ _ _ N A _ _ (h.later (alloc_below _ _)) h0 h1).mono ?_
  rintro e w1 ⟨⟨r1, rfl, hr⟩, hb1⟩
  have b1 : Below w.heap.size w w1 := (alloc_below _ _).trans (hb1.mono (by simp))
  rcases hr with rfl | ⟨q0, q1, q2, q3⟩
  · go_wp2
    go_ret
    exact ⟨⟨_, rfl, Or.inl rfl⟩, b1⟩
  · go_wp2
    go_ret
    exact ⟨⟨_, rfl, Or.inr ⟨q0, q1, q2, q3⟩⟩, b1⟩

set_option maxRecDepth 20000 in
set_option maxHeartbeats 400000 in
theorem toSymbol_any (s : ByteArray) (x : Int) (w : World) :
    Calls Try.prog 35 #[.agg #[.string s, .int .i64 x]] w fun e w' => e = .returned (.agg #[.string s, .int .i64 x]) ∧ Below w.heap.size w w' := by
  go_enter Try.func35, Try.ntmps35
  go_wp2
  exact bodyPost_ret (v := .agg #[.string s, .int .i64 x]) (by simp [results, Try.results35, go_sem]) rfl ⟨rfl, (((Below.refl _ _).alloc (Nat.le_refl _) _).alloc (by simp) _).alloc (by simp; omega) _⟩

/-- A row of symbols in memory of its own. -/
def OwnS (w : World) (B g n c : Nat) (N : Nat → ByteArray) (A : Nat → Int) (k : Nat) : Prop :=
  ∃ xs, w.ownsRow B 70 2 (.slice (some ⟨g, 0, none⟩) n c) n xs ∧ ∀ i, i < k → xs[i * 2]? = some (.string (N i)) ∧ xs[i * 2 + 1]? = some (.int .i64 (A i))

theorem OwnS.put {w : World} {B g n c : Nat} {N : Nat → ByteArray} {A : Nat → Int} {k : Nat} (h : OwnS w B g n c N A k) (hk : k < n) :
    (∃ u0, w.cell? ⟨g, 0 + k * 2, none⟩ = some u0) ∧ (∃ u1, (w.setCell ⟨g, 0 + k * 2, none⟩ (.string (N k))).cell? ⟨g, 0 + k * 2 + 1, none⟩ = some u1) ∧
    w.frozen? ⟨g, 0 + k * 2, none⟩ = false ∧ (w.setCell ⟨g, 0 + k * 2, none⟩ (.string (N k))).frozen? ⟨g, 0 + k * 2 + 1, none⟩ = false ∧
    OwnS ((w.setCell ⟨g, 0 + k * 2, none⟩ (.string (N k))).setCell ⟨g, 0 + k * 2 + 1, none⟩ (.int .i64 (A k))) B g n c N A (k + 1) ∧
    w.grownBy ((w.setCell ⟨g, 0 + k * 2, none⟩ (.string (N k))).setCell ⟨g, 0 + k * 2 + 1, none⟩ (.int .i64 (A k))) (some g) := by
  obtain ⟨xs, ho, hx⟩ := h
  rw [Nat.zero_add]
  obtain ⟨o1, g1⟩ := ho.stored (k * 2) (.string (N k))
  obtain ⟨o2, g2⟩ := o1.stored (k * 2 + 1) (.int .i64 (A k))
  have hl : xs.length = n * 2 := ho.1
  refine ⟨⟨_, (ho.cellAt (k * 2) (by omega)).trans (List.getElem?_eq_getElem (by omega))⟩, ⟨_, (o1.cellAt (k * 2 + 1) (by omega)).trans (List.getElem?_eq_getElem (by simp; omega))⟩,
    ho.frozenAt _, o1.frozenAt _, ⟨_, o2, fun i hi => ?_⟩, ⟨g2.os.trans g1.os, g2.tape.trans g1.tape, g2.output.trans g1.output, Nat.le_trans g1.size g2.size, fun j hj hr => (g2.block j (Nat.lt_of_lt_of_le hj g1.size) hr).trans (g1.block j hj hr)⟩⟩
  by_cases e : i = k
  · subst e
    constructor
    · rw [List.getElem?_set_ne (by omega), List.getElem?_set_self (by omega)]
    · rw [List.getElem?_set_self (by simp; omega)]
  · rw [List.getElem?_set_ne (by omega), List.getElem?_set_ne (by omega), List.getElem?_set_ne (by omega), List.getElem?_set_ne (by omega)]
    exact hx i (by omega)

theorem OwnS.later {w w' : World} {B B' g n c : Nat} {N : Nat → ByteArray} {A : Nat → Int} {k : Nat} (h : OwnS w B g n c N A k) (hb : Below B' w w') (hg : g < B') : OwnS w' B g n c N A k := by
  obtain ⟨xs, ho, hx⟩ := h
  refine ⟨xs, ⟨ho.1, ho.2.imp id ?_⟩, hx⟩
  rintro ⟨g', cap, cur, h1, h2, h3, h4⟩
  have e : g' = g := by simp at h1; exact h1.1.symm
  subst e
  exact ⟨g', cap, cur, h1, h2, by rw [hb.block g' hg]; exact h3, h4⟩

theorem OwnS.other {w : World} {B g n c : Nat} {N : Nat → ByteArray} {A : Nat → Int} {k : Nat} (h : OwnS w B g n c N A k) (a : Addr) (u : Value) (hg : g ≠ a.block) : OwnS (w.setCell a u) B g n c N A k := by
  obtain ⟨xs, ho, hx⟩ := h
  refine ⟨xs, ⟨ho.1, ho.2.imp id ?_⟩, hx⟩
  rintro ⟨g', cap, cur, h1, h2, h3, h4⟩
  have e : g' = g := by simp at h1; exact h1.1.symm
  subst e
  exact ⟨g', cap, cur, h1, h2, by rw [Below.heap_setCell _ _ _ _ hg]; exact h3, h4⟩

theorem OwnS.base {w : World} {B B' g n c : Nat} {N : Nat → ByteArray} {A : Nat → Int} {k : Nat} (h : OwnS w B g n c N A k) (hB : B' ≤ g) : OwnS w B' g n c N A k := by
  obtain ⟨xs, ho, hx⟩ := h
  refine ⟨xs, ⟨ho.1, ho.2.imp id ?_⟩, hx⟩
  rintro ⟨g', cap, cur, h1, h2, h3, h4⟩
  have e : g' = g := by simp at h1; exact h1.1.symm
  subst e
  exact ⟨g', cap, cur, h1, hB, h3, h4⟩

theorem bcell {W w1 : World} (hb : Below W.heap.size W w1) : (∀ b o, b < W.heap.size → w1.cell? ⟨b, o, none⟩ = W.cell? ⟨b, o, none⟩) ∧ (∀ b o, b < W.heap.size → w1.frozen? ⟨b, o, none⟩ = W.frozen? ⟨b, o, none⟩) :=
  ⟨fun b o h => hb.cell (p := ⟨b, o, none⟩) h, fun b o h => hb.frozen (p := ⟨b, o, none⟩) h⟩

theorem OwnS.lt {w : World} {B g n c : Nat} {N : Nat → ByteArray} {A : Nat → Int} {k : Nat} (h : OwnS w B g n c N A k) : g < w.heap.size := by
  obtain ⟨xs, ho, _⟩ := h; exact (ho.lt g rfl).2

theorem OwnS.syms {w : World} {B g n c : Nat} {N : Nat → ByteArray} {A : Nat → Int} (h : OwnS w B g n c N A n) (hb : ∀ i, i < n → (N i).size ≤ maxLen) (hf : ∀ i, i < n → -9223372036854775808 ≤ A i ∧ A i ≤ 9223372036854775807) : Syms w g 0 n N A := by
  obtain ⟨xs, ho, hx⟩ := h
  refine ⟨fun _ => (ho.lt g rfl).2, fun i hi => ?_, fun i hi => ?_, hb, hf⟩
  · rw [Nat.zero_add, ho.cellAt _ (by omega)]; exact (hx i hi).1
  · rw [Nat.zero_add, ho.cellAt _ (by omega)]; exact (hx i hi).2

set_option maxRecDepth 10000 in
theorem makeSyms (w : World) (n : Nat) (hn : n ≤ 1048576) : ∃ w', (Instr.makeSlice 32 (.int .i64 (n : Int)) (.int .i64 (n : Int))).run Try.prog w = .ok (.slice (some ⟨w.heap.size, 0, none⟩) n n) w' ∧
      w'.ownsRow w.heap.size 70 2 (.slice (some ⟨w.heap.size, 0, none⟩) n n) n (madeCells (Value.agg #[.string ByteArray.empty, .int .i64 0]).cells (n * 2)).toList ∧ w.grownBy w' none :=
  run_make_full (P := Try.prog) w w.heap.size 32 70 _ (.agg #[.string ByteArray.empty, .int .i64 0]) 2 Try.underlying32 rfl rfl rfl .i64 .i64 n (by show 24 * n ≤ _; omega) (by unfold maxLen; omega) (Nat.le_refl _)

set_option maxRecDepth 20000 in
set_option maxHeartbeats 400000 in
theorem toSymbolS_any (b off n c : Nat) (N : Nat → ByteArray) (A : Nat → Int) (w : World) (h : Syms w b off n N A) (hn : n ≤ 1048576) :
    Calls Try.prog 20 #[.slice (some ⟨b, off, none⟩) n c] w fun e w' => e = .returned (.slice (some ⟨w.heap.size, 0, none⟩) n n) ∧ OwnS w' w.heap.size w.heap.size n n N A n ∧ Below w.heap.size w w' := by
  obtain ⟨w1, hmk, how, hgr⟩ := makeSyms w n hn
  have HO := hidden how
  have HG := hidden hgr
  clear how hgr
  go_enter Try.func20, Try.ntmps20
  go_wp2
  go_loopw [4] (fun i wr => ∃ k : Nat, k ≤ n ∧ i = .int .i64 k ∧ OwnS wr w.heap.size w.heap.size n n N A k ∧ Below w.heap.size w wr) (fun i _ => n - (intOf i).toNat)
  case atStart =>
    exact ⟨0, Nat.zero_le _, rfl, ⟨_, HO.out, fun i hi => by omega⟩, (Below.refl _ _).grown HG.out (Nat.le_refl _) (fun k hk => by cases hk)⟩
  case round =>
    obtain ⟨k, hk, rfl, hown, hbel⟩ := hrel
    by_cases hlt : k < n
    · have hs := h.later hbel h.blk
      have c1 := hs.name k hlt
      have c2 := hs.arity k hlt
      clear hmk
      have HW := hidden hown
      have HB := hidden hbel
      clear hown hbel hs
      go_wp2_with fail
      refine (toSymbol_any _ _ _).mono ?_
      rintro e w2 ⟨rfl, hb2⟩
      have b2 : Below w.heap.size w w2 := HB.out.trans (hb2.mono HB.out.size)
      have o2 := HW.out.later hb2 (by obtain ⟨xs, ho, _⟩ := HW.out; exact (ho.lt _ rfl).2)
      obtain ⟨⟨u0, p0⟩, ⟨u1, p1⟩, f0, f1, o3, g3⟩ := o2.put hlt
      have b3 := b2.grown g3 b2.size (fun j hj => by cases hj; exact Nat.le_refl _)
      have H3 := hidden (And.intro o3 b3)
      clear o3 g3 b3 o2 b2 hb2 HW HB c1 c2 h
      rw [Nat.zero_add] at p0 p1 f0 f1 H3
      go_wp2
      go_roundw
      case rel => exact ⟨k + 1, by omega, by go_num, H3.out.1, H3.out.2⟩
      case measure => simp [intOf]; omega
    · go_wp2
      go_ret
      have e : k = n := by omega
      subst e
      exact ⟨rfl, hown, hbel⟩

set_option maxRecDepth 20000 in
set_option maxHeartbeats 400000 in
theorem toSymbolS_none (p : Option Addr) (c : Nat) (N : Nat → ByteArray) (A : Nat → Int) (w : World) :
    Calls Try.prog 20 #[.slice p 0 c] w fun e w' => e = .returned (.slice (some ⟨w.heap.size, 0, none⟩) 0 0) ∧ OwnS w' w.heap.size w.heap.size 0 0 N A 0 ∧ Below w.heap.size w w' := by
  obtain ⟨w1, hmk, how, hgr⟩ := makeSyms w 0 (by omega)
  rw [show ((0 : Nat) : Int) = 0 from rfl] at hmk
  have HO := hidden how
  have HG := hidden hgr
  clear how hgr
  go_enter Try.func20, Try.ntmps20
  go_wp2
  refine wp_loop_rounds 1 ?_
  rw [rounds_succ]
  go_wp2
  go_ret
  exact ⟨rfl, ⟨_, HO.out, fun i hi => by omega⟩, (Below.refl _ _).grown HG.out (Nat.le_refl _) (fun k hk => by cases hk)⟩

/-- What a law copies: symbols of at most so many signs. -/
structure Kept (n : Nat) (N : Nat → ByteArray) (A : Nat → Int) : Prop where
  most : n ≤ 1048576
  short : ∀ i, i < n → (N i).size ≤ 1048576
  fits : ∀ i, i < n → -9223372036854775808 ≤ A i ∧ A i ≤ 9223372036854775807

theorem Kept.big {n : Nat} {N : Nat → ByteArray} {A : Nat → Int} (h : Kept n N A) : ∀ i, i < n → (N i).size ≤ maxLen := fun i hi => by have := h.short i hi; unfold maxLen; omega

theorem toSymbolS_src (p : Option Addr) (n c : Nat) (N : Nat → ByteArray) (A : Nat → Int) (w : World) (h : SrcS w p n N A) (hk : Kept n N A) :
    Calls Try.prog 20 #[.slice p n c] w fun e w' => ∃ g, e = .returned (.slice (some ⟨g, 0, none⟩) n n) ∧ w.heap.size ≤ g ∧ OwnS w' w.heap.size g n n N A n ∧ Below w.heap.size w w' := by
  rcases h.2 with rfl | ⟨b, off, rfl, hs⟩
  · refine (toSymbolS_none p c N A w).mono ?_
    rintro e w' ⟨rfl, ho, hb⟩
    exact ⟨_, rfl, Nat.le_refl _, ho, hb⟩
  · refine (toSymbolS_any b off n c N A w hs hk.most).mono ?_
    rintro e w' ⟨rfl, ho, hb⟩
    exact ⟨_, rfl, Nat.le_refl _, ho, hb⟩

set_option maxRecDepth 20000 in
set_option maxHeartbeats 400000 in
theorem toSignature_src (p : Option Addr) (n c : Nat) (N : Nat → ByteArray) (A : Nat → Int) (w : World) (h : SrcS w p n N A) (hk : Kept n N A) :
    Calls Try.prog 7 #[.agg #[.slice p n c]] w fun e w' => ∃ g, e = .returned (.agg #[.slice (some ⟨g, 0, none⟩) n n]) ∧ w.heap.size ≤ g ∧ OwnS w' w.heap.size g n n N A n ∧ Below w.heap.size w w' := by
  go_enter Try.func7, Try.ntmps7
  go_wp2_with fail
  refine (toSymbolS_src _ _ _ N A _ ((h.later (alloc_below _ _)).later ((alloc_below _ _).trans ((alloc_below _ _).mono (by simp)))) hk).mono ?_
  rintro e w1 ⟨g, rfl, hg, ho, hb⟩
  have b1 : Below w.heap.size w w1 := (((Below.refl _ _).alloc (Nat.le_refl _) _).alloc (by simp) _).alloc (by simp; omega) _ |>.trans (hb.mono (by simp; omega))
  obtain ⟨k1, k2⟩ := bcell hb
  have q1 := k1 (w.heap.size + 1 + 1) 0 (by simp)
  have q2 := k1 (w.heap.size + 1) 0 (by simp)
  have q3 := k2 (w.heap.size + 1 + 1) 0 (by simp)
  have q4 := k2 (w.heap.size + 1) 0 (by simp)
  simp [go_sem] at q1 q2 q3 q4
  simp only [World.size_alloc] at hg
  have HO := hidden ho
  have H1 := hidden b1
  clear hb ho b1 k1 k2
  go_wp2
  have z : ∀ v, ((w1.setCell ⟨w.heap.size + 1 + 1, 0, none⟩ v).setCell ⟨w.heap.size + 1, 0, none⟩ v).cell? ⟨w.heap.size + 1, 0, none⟩ = some v := fun v => by
    have q5 : (w1.setCell ⟨w.heap.size + 1 + 1, 0, none⟩ v).cell? ⟨w.heap.size + 1, 0, none⟩ = some (.slice none 0 0) := by
      rw [World.cell?_setCell_other _ _ _ _ (by simp)]; exact q2
    exact World.cell?_setCell_same _ _ _ q5
  exact bodyPost_ret (v := .agg #[.slice (some ⟨g, 0, none⟩) n n]) (by simp [results, Try.results7, go_sem, z]) rfl ⟨g, rfl, by omega, ((HO.out.other _ _ (by simp; omega)).other _ _ (by simp; omega)).base (by omega), (H1.out.setCell (by simp; omega) _).setCell (by simp) _⟩

set_option maxRecDepth 20000 in
set_option maxHeartbeats 400000 in
theorem eqSymbol_eq (s : ByteArray) (x : Int) (w : World) :
    Calls Try.prog 40 #[.agg #[.string s, .int .i64 x], .agg #[.string s, .int .i64 x]] w fun e w' => e = .returned (.bool true) ∧ Below w.heap.size w w' := by
  go_enter Try.func40, Try.ntmps40
  go_wp2
  go_ret
  exact ⟨rfl, ((Below.refl _ _).alloc (Nat.le_refl _) _).alloc (by simp) _⟩

set_option maxRecDepth 20000 in
set_option maxHeartbeats 400000 in
theorem eqSymbolS_eq (b off b' off' n c c' : Nat) (N : Nat → ByteArray) (A : Nat → Int) (w : World) (h : Syms w b off n N A) (h' : Syms w b' off' n N A) (hn : n ≤ 1048576) :
    Calls Try.prog 25 #[.slice (some ⟨b, off, none⟩) n c, .slice (some ⟨b', off', none⟩) n c'] w fun e w' => e = .returned (.bool true) ∧ Below w.heap.size w w' := by
  go_enter Try.func25, Try.ntmps25
  go_wp2
  go_loopw [5] (fun i wr => ∃ k : Nat, k ≤ n ∧ i = .int .i64 k ∧ Below w.heap.size w wr) (fun i _ => n - (intOf i).toNat)
  case atStart => exact ⟨0, Nat.zero_le _, rfl, Below.refl _ _⟩
  case round =>
    obtain ⟨k, hk, rfl, hbel⟩ := hrel
    by_cases hlt : k < n
    · have hs := h.later hbel h.blk
      have hs' := h'.later hbel h'.blk
      have c1 := hs.name k hlt
      have c2 := hs.arity k hlt
      have c3 := hs'.name k hlt
      have c4 := hs'.arity k hlt
      go_wp2_with fail
      go_cut [26] (fun t wc => t = .bool false ∧ Below wr.heap.size wr wc)
      case first =>
        go_region_with (first | (go_at_call 40; refine (eqSymbol_eq _ _ _).mono ?_; rintro e w5 ⟨rfl, hb5⟩))
        all_goals (go_wp2_with fail; go_meet)
        all_goals exact ⟨rfl, (Below.refl _ _).drew.trans hb5⟩
      case rest =>
        rename World => w5
        obtain ⟨rfl, bc⟩ := hcut
        have b1 : Below w.heap.size w w5 := hbel.trans (bc.mono hbel.size)
        go_wp2
        go_roundw
        case rel => exact ⟨k + 1, by omega, by go_num, b1⟩
        case measure => simp [intOf]; omega
    · go_wp2
      go_ret
      exact ⟨rfl, hbel⟩

set_option maxRecDepth 20000 in
set_option maxHeartbeats 400000 in
theorem eqSignature_eq (b off b' off' n c c' : Nat) (N : Nat → ByteArray) (A : Nat → Int) (w : World) (h : Syms w b off n N A) (h' : Syms w b' off' n N A) (hn : n ≤ 1048576) :
    Calls Try.prog 12 #[.agg #[.slice (some ⟨b, off, none⟩) n c], .agg #[.slice (some ⟨b', off', none⟩) n c']] w fun e w' => e = .returned (.bool true) ∧ Below w.heap.size w w' := by
  have h1 := fun o1 o2 => (h.later (alloc_below _ o1) h.blk).later (alloc_below _ o2) (by have := h.blk; simp; omega)
  have h2 := fun o1 o2 => (h'.later (alloc_below _ o1) h'.blk).later (alloc_below _ o2) (by have := h'.blk; simp; omega)
  go_enter Try.func12, Try.ntmps12
  go_wp2_with fail
  refine (eqSymbolS_eq _ _ _ _ _ _ _ N A _ (h1 _ _) (h2 _ _) hn).mono ?_
  rintro e w' ⟨rfl, hb⟩
  have bb : Below w.heap.size w w' := (((Below.refl _ w).alloc (Nat.le_refl _) _).alloc (by simp) _).trans (hb.mono (by simp; omega))
  clear hb h1 h2
  go_wp2
  go_ret
  exact ⟨rfl, bb⟩

end Go.Proofs.Ytbdgnpjbmlcchaa
