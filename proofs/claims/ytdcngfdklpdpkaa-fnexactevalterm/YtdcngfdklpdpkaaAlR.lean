/- A range over a function whose rounds come in a known order: what is known ahead of round k is said of k alone. -/
import Derived.Test.YtdcngfdklpdpkaaAlC
namespace Go.Proofs.Ytdcngfdklpdpkaa
open Go.RowKit Go.Shelf

/-- The function calls yield m times, in round k with the values of k, and then it returns. -/
def Turns (F : Fence) (n : Nat) (P : Program) (gf : Nat) (lb : Array Value) (enc : Nat → Array Value) (Kp : World → World → Prop) (m : Nat) (w0 : World) : Prop :=
  ∀ (l : Nat) (J : Nat → World → Prop) (W : World), Below w0.heap.size w0 W →
    (∀ k W1, k < m → J k W1 → YieldAt F (n - 1) P l (enc k) W1 fun e W2 => e = .returned (.bool true) ∧ J (k + 1) W2 ∧ Kp W1 W2) → J 0 W →
    CallsIn F n P gf (#[.func (.yield l) #[] #[]] ++ lb) W fun e W2 => (∃ v, e = .returned v) ∧ J m W2

/-- The loop's own two objects: its record, and the list of what is put off. -/
def TwoObj (w W : World) (r : Loop) : Prop := W.heap[w.heap.size + 1]? = some (.loop r) ∧ W.heap[w.heap.size]? = some (.deferred (some []))

set_option maxRecDepth 20000 in
set_option maxHeartbeats 1000000 in
theorem wpIn_turns {F : Fence} {n : Nat} {P : Program} {g : Operand} {ps : Array Tmp} {assign body : Code} {Q : Exit → Act → World → Prop} {a : Act} {w w0 : World} {gf m : Nat} {lb : Array Value} {enc : Nat → Array Value} {Kp : World → World → Prop}
    (hro : F.round = none) (h1 : 1 ≤ n) (hg : a.eval g = .func (.func gf) #[] lb) (hFg : F.fn gf) (eg : ∀ args w, (callFunc gf args).run P w = .ok (.enter gf args) w)
    (ht : Turns F (n - 1) P gf lb enc Kp m w0) (hb0 : Below w0.heap.size w0 w) (hps : ∀ k, (enc k).size = ps.size)
    (hKt : ∀ {A B C : World}, Kp A B → Kp B C → Kp A C) (hKb : ∀ (W : World) (l : Nat) (o o' : Obj), w.heap.size ≤ l → W.heap[l]? = some o → o.isCells = false → o.isWalk = false → Kp W (W.putObj l o'))
    (I : Nat → World → Prop) (hI : OwnFrom w.heap.size I) (h0 : I 0 w) (a1 : Nat → Act)
    (hassign : ∀ (l k : Nat) (W : World) (K : Act → World → Prop), K (a1 k) W →
      assign.wpIn (F.inRound l) (n - 1 - 1) P (Exit.then K (fun _ _ _ => False)) { tmps := (ps.zip (enc k)).foldl (fun t (p, v) => t.setIfInBounds p v) a.tmps, defers := [] } W)
    (hbody : ∀ (l k : Nat) (W : World), k < m → I k W → body.wpIn (F.inRound l) (n - 1 - 1) P (Exit.then (fun _ W2 => KeepsFrom w.heap.size W W2 ∧ Kp W W2 ∧ I (k + 1) W2) (fun _ _ _ => False)) (a1 k) W)
    (hdone : ∀ (D : Nat) (W : World), w.heap.size ≤ D → I m W → W.heap[D]? = some (.deferred (some [])) → Q .normal { a with defers := { target := .collected D, args := #[] } :: a.defers } W) :
    (Code.rangeFunc g ps assign body).wpIn F n P Q a w := by
  refine wpIn_rangeFunc fun fn hfn => ?_
  rw [hro]
  -- the record of the loop in each of its states
  let R : LoopState → Loop := fun st => { state := st, pending := none, fn := fn, tmps := a.tmps, params := ps, assign := assign, body := body, defers := w.heap.size }
  let Wa : World := (w.alloc (.deferred (some []))).alloc (.loop (R .ready))
  have hTa : TwoObj w Wa (R .ready) := by
    constructor
    · have := World.alloc_heap_new (w.alloc (.deferred (some []))) (.loop (R .ready))
      rwa [World.size_alloc] at this
    · exact (Below.heap_alloc _ _ _ (by simp)).trans (World.alloc_heap_new w _)
  have hba : Below w0.heap.size w0 Wa := hb0.trans ((((Below.refl _ w).alloc (Nat.le_refl _) _).alloc (by simp) _).mono hb0.size)
  have hIa : I 0 Wa := hI.alloc _ (hI.alloc _ h0)
  have turn : ∀ k W1, k < m → (I k W1 ∧ TwoObj w W1 (R .ready)) → YieldAt F (n - 1 - 1) P (w.heap.size + 1) (enc k) W1 fun e W2 => e = .returned (.bool true) ∧ (I (k + 1) W2 ∧ TwoObj w W2 (R .ready)) ∧ Kp W1 W2 := by
    intro k W1 hk ⟨hi, hl, hd⟩
    have hin : w.heap.size + 1 < W1.heap.size := (Array.getElem?_eq_some_iff.1 hl).1
    have hy := run_yield (P := P) (args := enc k) hl (hps k)
    refine ⟨fn, _, assign, body, hy, roundIn_of_wpIn hfn (hassign _ k W1 _ ⟨_, run_beginRound hl rfl, ?_⟩)⟩
    let Wb : World := W1.putObj (w.heap.size + 1) (.loop (R .busy))
    have lb1 : Wb.heap[w.heap.size + 1]? = some (.loop (R .busy)) := World.putObj_heap_same hin
    have lb2 : Wb.heap[w.heap.size]? = some (.deferred (some [])) := (World.putObj_heap_other (by omega)).trans hd
    refine wpIn_mono (hbody _ k Wb hk (hI.putObj _ hi (by omega) hl rfl)) ?_
    intro e a3 W3 hp
    cases e with
    | normal =>
      obtain ⟨k3, p3, i3⟩ := hp
      have lc1 : W3.heap[w.heap.size + 1]? = some (.loop (R .busy)) := k3.same _ _ (by omega) lb1 rfl
      have lc2 : W3.heap[w.heap.size]? = some (.deferred (some [])) := k3.same _ _ (Nat.le_refl _) lb2 rfl
      refine ⟨_, _, run_endRound (P := P) none lc1, rfl, ⟨hI.putObj _ i3 (by omega) lc1 rfl, ?_, ?_⟩, hKt (hKt (hKb _ _ _ _ (by omega) hl rfl rfl) p3) (hKb _ _ _ _ (by omega) lc1 rfl rfl)⟩
      · exact World.putObj_heap_same (Array.getElem?_eq_some_iff.1 lc1).1
      · exact (World.putObj_heap_other (by omega)).trans lc2
    | ret => exact hp.elim
    | exit id => exact hp.elim
    | goto t => exact hp.elim
    | panic ch => exact hp.elim
    | outgrown => exact hp.elim
  refine ⟨w.heap.size + 1, [{ target := .collected w.heap.size, args := #[] }], Wa, { target := .fn (.func gf) lb, args := #[.func (.yield (w.heap.size + 1)) #[] #[]] }, Wa, gf,
    #[.func (.yield (w.heap.size + 1)) #[] #[]] ++ lb, Wa, run_enterLoop_outer _ _ _ _ _, ?_, ?_, ?_, fun _ => h1, ?_⟩
  · simp only [resolve, hg]
    simp [go_sem]
  · intro f' hf'
    simp [Target.leads] at hf'
    subst hf'
    exact hFg
  · simp [invoke, go_sem, eg]
  · refine (ht (w.heap.size + 1) (fun k W => I k W ∧ TwoObj w W (R .ready)) Wa hba turn ⟨hIa, hTa⟩).mono ?_
    rintro e W2 ⟨⟨v, rfl⟩, hi, hl, hd⟩
    exact ⟨none, _, run_endLoop (P := P) hl (by simp [R]), hdone _ _ (Nat.le_refl _) (hI.putObj _ hi (by omega) hl rfl) ((World.putObj_heap_other (by omega)).trans hd)⟩

end Go.Proofs.Ytdcngfdklpdpkaa
