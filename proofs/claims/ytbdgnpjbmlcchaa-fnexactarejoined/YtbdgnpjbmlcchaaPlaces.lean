/- Plain facts: what a round of a loop over an iterator keeps: all blocks but one; and the contract of the program's placesOf. -/
import Derived.Test.YtbdgnpjbmlcchaaNode
import Derived.RangeFuncNested
import Derived.RangeFuncBound
import Derived.RangeFuncCalls
import Derived.RangeFuncLeaves
import Derived.Shelf.Abstract
import Derived.Shelf.RegionOpen
import Derived.OwnWalkIn
import Derived.TacticsInMore
import Derived.LoopNIn
import Derived.LoopIn
namespace Go.Proofs.Ytbdgnpjbmlcchaa
open Go.RowKit Go.Shelf

attribute [local go_sem] Oper.semAt_some

/-- All blocks below B but X are as they were. -/
structure But (X B : Nat) (w w' : World) : Prop where
  os : w'.os = w.os
  tape : w'.tape = w.tape
  output : w'.output = w.output
  size : w.heap.size ≤ w'.heap.size
  block : ∀ k, k < B → k ≠ X → w'.heap[k]? = w.heap[k]?

theorem But.refl (X B : Nat) (w : World) : But X B w w := ⟨rfl, rfl, rfl, Nat.le_refl _, fun _ _ _ => rfl⟩

theorem But.trans {X B : Nat} {a b c : World} (h : But X B a b) (k : But X B b c) : But X B a c :=
  ⟨k.os.trans h.os, k.tape.trans h.tape, k.output.trans h.output, Nat.le_trans h.size k.size, fun i hi hx => (k.block i hi hx).trans (h.block i hi hx)⟩

theorem But.of {X B B' : Nat} {w w' : World} (h : Below B' w w') (hB : B ≤ B') : But X B w w' := ⟨h.os, h.tape, h.output, h.size, fun k hk _ => h.block k (by omega)⟩

theorem But.below {X B B' : Nat} {w w' : World} (h : But X B w w') (hB : B' ≤ B) (hX : B' ≤ X) : Below B' w w' := ⟨h.os, h.tape, h.output, h.size, fun k hk => h.block k (by omega) (by omega)⟩

theorem But.set (X B : Nat) (w : World) (v : Value) : But X B w (w.setCell ⟨X, 0, none⟩ v) := by
  have g := grownBy_setCell' w X v
  refine ⟨g.os, g.tape, g.output, g.size, fun k _ hx => ?_⟩
  by_cases hk : k < w.heap.size
  · exact g.block k hk (fun e => hx (by cases e; rfl))
  · have h1 : w.heap.size ≤ k := by omega
    have h2 : (w.setCell ⟨X, 0, none⟩ v).heap.size = w.heap.size := by simp
    rw [Array.getElem?_eq_none_iff.2 h1, Array.getElem?_eq_none_iff.2 (by omega)]

theorem But.cell {X B : Nat} {w w' : World} (h : But X B w w') {b o : Nat} (hb : b < B) (hx : b ≠ X) : w'.cell? ⟨b, o, none⟩ = w.cell? ⟨b, o, none⟩ :=
  World.cell?_of_block (a := ⟨b, o, none⟩) (h.block b hb hx)

theorem But.frozen {X B : Nat} {w w' : World} (h : But X B w w') {b o : Nat} (hb : b < B) (hx : b ≠ X) : w'.frozen? ⟨b, o, none⟩ = w.frozen? ⟨b, o, none⟩ :=
  World.frozen?_of_block (a := ⟨b, o, none⟩) (h.block b hb hx)

theorem butK_t {X B : Nat} {a b c : World} (h : But X B a b) (k : But X B b c) : But X B a c := h.trans k

theorem butK_b {X B : Nat} {w : World} (hn : B ≤ w.heap.size) (W : World) (l : Nat) (o o' : Obj) (hl : w.heap.size ≤ l) (h : W.heap[l]? = some o) (h1 : o.isCells = false) (h2 : o.isWalk = false) : But X B W (W.putObj l o') :=
  But.of (belowK_b (n₀ := B) hn W l o o' hl h h1 h2) (Nat.le_refl _)

theorem Below.by {w w' : World} (h : Below w.heap.size w w') : w.grownBy w' none := ⟨h.os, h.tape, h.output, h.size, fun k hk _ => h.block k hk⟩

theorem AbidesFrom.below {β : Type} {B : Nat} {J : β → World → Prop} (h : AbidesFrom B J) {s : β} {w w' : World} (hs : J s w) (hb : Below w.heap.size w w') : J s w' :=
  h s w w' none hs (Below.by hb) (fun r e => by cases e)

theorem Syms.but {w w' : World} {X B b off n : Nat} {N : Nat → ByteArray} {A : Nat → Int} (h : Syms w b off n N A) (hb : But X B w w') (h1 : b < B) (h2 : b ≠ X) : Syms w' b off n N A :=
  ⟨fun h0 => Nat.lt_of_lt_of_le (h.blk h0) hb.size, fun i hi => by rw [hb.cell h1 h2]; exact h.name i hi, fun i hi => by rw [hb.cell h1 h2]; exact h.arity i hi, h.big, h.fits⟩

theorem Ints.but {w w' : World} {X B b off n : Nat} {L : Nat → Int} (h : Ints w b off n L) (hb : But X B w w') (h1 : b < B) (h2 : b ≠ X) : Ints w' b off n L :=
  ⟨fun h0 => Nat.lt_of_lt_of_le (h.blk h0) hb.size, fun i hi => by rw [hb.cell h1 h2]; exact h.cell i hi⟩

theorem keepsFrom_below {B : Nat} {w w' : World} (h : Below w.heap.size w w') : KeepsFrom B w w' :=
  ⟨h.size, fun k o _ hk _ => by rw [h.block k (Array.getElem?_eq_some_iff.1 hk).1]; exact hk⟩

/-- What has come when k rounds are over. -/
def upto {α : Type} (f : Nat → α) (k : Nat) : List α := (List.range k).map f
theorem upto_succ {α : Type} (f : Nat → α) (k : Nat) : upto f (k + 1) = upto f k ++ [f k] := by simp [upto, List.range_succ]
theorem upto_length {α : Type} (f : Nat → α) (k : Nat) : (upto f k).length = k := by simp [upto]

/-- What placesOf tells of the j-th node: its place, and how many terms are awaited behind it. -/
def yld (a : Nat → Nat) (q j : Nat) : Nat × Int := (j, awt a q (j + 1))

theorem awt_le {a : Nat → Nat} {q : Nat} : ∀ k, (∀ i, i < k → a (q + i) ≤ 2) → awt a q k ≤ 1 + k
  | 0, _ => by simp [awt]
  | k + 1, h => by have h1 := awt_le k (fun i hi => h i (by omega)); have h2 := h k (by omega); simp only [awt]; omega

set_option maxRecDepth 20000 in
set_option maxHeartbeats 400000 in
theorem placesOf_any (p p' : Option Addr) (n c m c' : Nat) (w : World) :
    Calls Try.prog 84 #[.agg #[.slice p n c], .slice p' m c'] w fun e w' => e = .returned (.func (.func 98) #[] #[.pointer (some ⟨w.heap.size + 1, 0, none⟩), .pointer (some ⟨w.heap.size, 0, none⟩)]) ∧ w' = (w.alloc (.cells #[.slice p n c] 34)).alloc (.cells #[.slice p' m c'] 26) := by
  have hmf : ∀ (fn : Fn) (first cap : Array Value) (w : World), (Instr.makeFunc fn first cap).run Try.prog w = .ok (.func fn first cap) w := fun _ _ _ _ => rfl
  go_enter Try.func84, Try.ntmps84
  go_wp2
  go_ret
  exact ⟨rfl, rfl⟩

set_option maxRecDepth 100000 in
set_option maxHeartbeats 2000000 in
theorem places1_in (k0 : Nat) (hn : 1 ≤ k0) (l Bs Bt X B b off n c b' o len cap q m : Nat) (N : Nat → ByteArray) (A T : Nat → Int) (hg : Nods n A m T) (hlen : q + len = m)
    (hb : b < B ∧ b ≠ X) (hb' : b' < B ∧ b' ≠ X) (hBt : Bt < B ∧ Bt ≠ X) (J Jx : List (Nat × Int) → World → Prop)
    (hJ : ∀ s w w', J s w → Below w.heap.size w w' → J s w')
    (hY : ∀ pre x W, J pre W → pre.length < len → YieldAt Fence.wide (k0 - 1) Try.prog l #[.int .i64 (x.1 : Int), .int .i64 x.2] W fun e W' =>
      (e = .returned (.bool true) ∧ J (pre ++ [x]) W' ∧ But X B W W') ∨ (e = .returned (.bool false) ∧ Jx (pre ++ [x]) W'))
    (W : World) (hBW : B ≤ W.heap.size) (hBs : W.cell? ⟨Bs, 0, none⟩ = some (.slice (some ⟨b', o, none⟩) len cap)) (hct : W.cell? ⟨Bt, 0, none⟩ = some (.slice (some ⟨b, off, none⟩) n c)) (hs : Syms W b off n N A)
    (hc : ∀ j, j < len → W.cell? ⟨b', o + j, none⟩ = some (.int .i64 (T (q + j)))) (h0 : J [] W) :
    CallsIn Fence.wide k0 Try.prog 98 #[.func (.yield l) #[] #[], .pointer (some ⟨Bs, 0, none⟩), .pointer (some ⟨Bt, 0, none⟩)] W fun e W' => (∃ v, e = .returned v) ∧
      ((∃ xs, (∃ k, k ≤ len ∧ (∀ i, i < k → 0 < awt (aOf A T) q i) ∧ (awt (aOf A T) q k = 0 ∨ k = len) ∧ xs = upto (yld (aOf A T) q) k) ∧ J xs W') ∨ (∃ pre, (∃ k, k < len ∧ (∀ i, i ≤ k → 0 < awt (aOf A T) q i) ∧ pre = upto (yld (aOf A T) q) (k + 1)) ∧ Jx pre W')) := by
  refine callsIn_of_wp Try.func98 rfl trivial ?_ rfl
  simp only [Try.ntmps98, List.size_toArray, List.length_cons, List.length_nil, Nat.reduceAdd, Nat.reduceSub, Array.replicate_succ, Array.replicate_zero, List.push_toArray, List.append_toArray, List.nil_append, List.cons_append]
  have hl24 := hg.most
  have HG := hidden hg
  have HS := hidden hs
  have HC := hidden hc
  have HY := hidden hY
  have HJ := hidden hJ
  have HT := hidden hct
  have H0 := hidden h0
  clear hg hs hc hY hJ hct h0
  gi_wp2
  gi_loopw [4, 9] (fun z i wr => ∃ (k : Nat) (v : Int), k ≤ len ∧ i = .int .i64 k ∧ z = .int .i64 v ∧ 0 < v ∧ v ≤ 1 + k ∧ Hid (v = awt (aOf A T) q k) ∧ Hid (∀ i, i < k → 0 < awt (aOf A T) q i) ∧ Hid (J (upto (yld (aOf A T) q) k) wr) ∧ Hid (But X B W wr))
    (fun _ i _ => len - (intOf i).toNat)
  case atStart => exact ⟨0, 1, Nat.zero_le _, rfl, rfl, by omega, by omega, hidden rfl, hidden (fun i hi => by omega), H0, hidden (But.refl _ _ _)⟩
  case round =>
    obtain ⟨k, v, hk, rfl, rfl, hv0, hv1, HV, HA, HI, HB⟩ := hrel
    by_cases hlt : k < len
    · have c1 : wr.cell? ⟨b', o + k, none⟩ = some (.int .i64 (T (q + k))) := (HB.out.cell hb'.1 hb'.2).trans (HC.out k hlt)
      have c2 : wr.cell? ⟨Bt, 0, none⟩ = some (.slice (some ⟨b, off, none⟩) n c) := (HB.out.cell hBt.1 hBt.2).trans HT.out
      have har := HG.out.aOf_le (p := q + k) (by omega)
      have HSw := hidden (HS.out.but HB.out hb.1 hb.2)
      obtain ⟨ar, hE⟩ : ∃ ar : Nat, ar = aOf A T (q + k) := ⟨_, rfl⟩
      have AC := hidden (argumentCount_any b off n c m N A T (q + k) wr HSw.out HG.out (by omega))
      rw [← hE] at AC har
      have HE := hidden hE
      clear hE
      generalize T (q + k) = x at c1 AC
      gi_wp2_with (refine ⟨trivial, ?_⟩; gi_at_call 99; refine (callsIn_wide.2 AC.out).mono ?_; rintro e w1 ⟨rfl, hb1⟩; clear AC; have HJ1 := hidden (HJ.out _ _ _ HI.out hb1); have HB1 := hidden (HB.out.trans (But.of hb1 (by have := HB.out.size; omega))); clear hb1 HI c1 c2; obtain ⟨fn, tmps, assign, body, hy, hR⟩ := HY.out _ (k, v + ((ar : Int) - 1)) w1 HJ1.out (by rw [upto_length]; exact hlt); dsimp only at hy)
      have HN := hidden (show v + ((ar : Int) - 1) = awt (aOf A T) q (k + 1) by simp only [awt]; rw [← HV.out, ← HE.out]; omega)
      have HA1 := hidden (show ∀ i, i < k + 1 → 0 < awt (aOf A T) q i from fun i hi => by
        by_cases e : i = k
        · rw [e, ← HV.out]; exact hv0
        · exact HA.out i (by omega))
      have HX := hidden (show (k, v + ((ar : Int) - 1)) = yld (aOf A T) q k by rw [HN.out]; rfl)
      clear HJ1 HSw HV HA HE HB
      refine hR.mono ?_
      rintro e W3 (⟨rfl, hJ3, hk3⟩ | ⟨rfl, hJx3⟩)
      · have HJ3 := hidden hJ3
        have HB3 := hidden (HB1.out.trans hk3)
        clear hJ3 hk3 hR hy HB1
        by_cases hz : v + ((ar : Int) - 1) = 0
        · have hz' : (v + ((ar : Int) - 1) == 0) = true := by simpa using hz
          have HZ := hidden hz
          clear hz
          gi_wp2
          refine bodyPost_ret (results_none rfl _ _ _) rfl ?_
          exact ⟨⟨_, rfl⟩, .inl ⟨_, ⟨k + 1, by omega, HA1.out, .inl (by rw [← HN.out]; exact HZ.out), rfl⟩, by rw [upto_succ, ← HX.out]; exact HJ3.out⟩⟩
        · have hz' : (v + ((ar : Int) - 1) == 0) = false := by simpa using hz
          have hz2 : 0 < v + ((ar : Int) - 1) := by omega
          clear hz
          gi_wp2
          go_roundw
          case rel => exact ⟨k + 1, v + ((ar : Int) - 1), by omega, by go_num, rfl, hz2, by omega, HN, HA1, hidden (by rw [upto_succ, ← HX.out]; exact HJ3.out), HB3⟩
          case measure => simp [intOf]; omega
      · have HJ3 := hidden hJx3
        clear hJx3 hR hy HB1
        gi_wp2
        refine bodyPost_ret (results_none rfl _ _ _) rfl ?_
        exact ⟨⟨_, rfl⟩, .inr ⟨_, ⟨k, hlt, fun i hi => HA1.out i (by omega), rfl⟩, by rw [upto_succ, ← HX.out]; exact HJ3.out⟩⟩
    · obtain rfl : k = len := by omega
      gi_wp2
      go_end0
      exact ⟨⟨_, rfl⟩, .inl ⟨_, ⟨k, Nat.le_refl _, HA.out, .inr rfl, rfl⟩, HI.out⟩⟩

/-- The contract of placesOf's answer. -/
theorem places_stops (k0 : Nat) (hn : 1 ≤ k0) (Bs Bt X B b off n c b' o len cap q m : Nat) (N : Nat → ByteArray) (A T : Nat → Int) (hg : Nods n A m T) (hlen : q + len = m)
    (hb : b < B ∧ b ≠ X) (hb' : b' < B ∧ b' ≠ X) (hBt : Bt < B ∧ Bt ≠ X) (w : World) (hBs' : Bs < w.heap.size) (hBW : B ≤ w.heap.size) (hBs : w.cell? ⟨Bs, 0, none⟩ = some (.slice (some ⟨b', o, none⟩) len cap)) (hct : w.cell? ⟨Bt, 0, none⟩ = some (.slice (some ⟨b, off, none⟩) n c)) (hs : Syms w b off n N A)
    (hc : ∀ j, j < len → w.cell? ⟨b', o + j, none⟩ = some (.int .i64 (T (q + j)))) :
    SeqStopsK Fence.wide k0 Try.prog 98 #[.pointer (some ⟨Bs, 0, none⟩), .pointer (some ⟨Bt, 0, none⟩)] (fun x : Nat × Int => #[Value.int .i64 (x.1 : Int), Value.int .i64 x.2]) (But X B)
      (fun xs => ∃ k, k ≤ len ∧ (∀ i, i < k → 0 < awt (aOf A T) q i) ∧ (awt (aOf A T) q k = 0 ∨ k = len) ∧ xs = upto (yld (aOf A T) q) k)
      (fun pre => ∃ k, k < len ∧ (∀ i, i ≤ k → 0 < awt (aOf A T) q i) ∧ pre = upto (yld (aOf A T) q) (k + 1)) len w := fun l J Jx W hW hJ _ hY h0 =>
  places1_in k0 hn l Bs Bt X B b off n c b' o len cap q m N A T hg hlen hb hb' hBt J Jx (fun s w w' h hb => AbidesFrom.below hJ h hb) hY W (Nat.le_trans hBW hW.size)
    ((hW.cell (p := ⟨Bs, 0, none⟩) hBs').trans hBs) ((hW.cell (p := ⟨Bt, 0, none⟩) (by show Bt < w.heap.size; omega)).trans hct) (hs.keep hW)
    (fun j hj => (hW.cell (p := ⟨b', o + j, none⟩) (by show b' < w.heap.size; omega)).trans (hc j hj)) h0

end Go.Proofs.Ytbdgnpjbmlcchaa
