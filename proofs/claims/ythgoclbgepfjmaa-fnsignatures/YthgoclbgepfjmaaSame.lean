/- Contracts: two signatures are held against each other, as the model and as the program does it. -/
import Derived.Test.YthgoclbgepfjmaaSym
namespace Go.Proofs.Ythgoclbgepfjmaa
open Go.RowKit

open Classical in
/-- The answer: the same symbols in the same order. -/
noncomputable def sameB (n m : Nat) (N M : Nat → ByteArray) (A C : Nat → Int) : Bool := decide (n = m ∧ ∀ i, i < n → N i = M i ∧ A i = C i)

theorem bne_bytes {a b : ByteArray} (h : a ≠ b) : (a.toList == b.toList) = false := by
  rw [beq_eq_false_iff_ne]
  intro e
  apply h
  rw [ByteArray.toList_eq, ByteArray.toList_eq] at e
  obtain ⟨⟨x⟩⟩ := a
  obtain ⟨⟨y⟩⟩ := b
  simp at e
  rw [e]

theorem keepCell {w : World} {b o : Nat} {v : Value} (h : w.cell? ⟨b, o, none⟩ = some v) (ob : Obj) : (w.alloc ob).cell? ⟨b, o, none⟩ = some v := by
  rw [(alloc_below w ob).cell (p := ⟨b, o, none⟩) (World.block_lt_of_cell? w _ h)]; exact h

/-- Two one-cell blocks that a function lays for its parameters: they stay while it runs. -/
theorem twoCells (w : World) (v0 v1 : Value) (t0 t1 : TypeId) {wr : World} (h : Below (w.heap.size + 1 + 1) ((w.alloc (.cells #[v0] t0)).alloc (.cells #[v1] t1)) wr) :
    wr.cell? ⟨w.heap.size, 0, none⟩ = some v0 ∧ wr.cell? ⟨w.heap.size + 1, 0, none⟩ = some v1 ∧ Below w.heap.size w wr := by
  refine ⟨?_, ?_, ?_⟩
  · rw [h.cell (p := ⟨w.heap.size, 0, none⟩) (by simp; omega)]; simp [go_sem]
  · rw [h.cell (p := ⟨w.heap.size + 1, 0, none⟩) (by simp)]; simp [go_sem]
  · exact ((alloc_below _ _).alloc (by simp) _).trans (h.mono (by omega))

set_option maxRecDepth 20000 in
set_option maxHeartbeats 400000 in
theorem specSame_len (p p' : Option Addr) (n m c c' : Nat) (w : World) (h : n ≠ m) :
    Calls Try.prog 19 #[.agg #[.slice p n c], .agg #[.slice p' m c']] w fun e w' => e = .returned (.bool false) ∧ Below w.heap.size w w' := by
  go_enter Try.func19, Try.ntmps19
  go_wp2
  go_ret
  exact ⟨rfl, (alloc_below _ _).alloc (by simp) _⟩

set_option maxRecDepth 20000 in
set_option maxHeartbeats 400000 in
theorem specSame_any (b off b' off' n c c' : Nat) (N M : Nat → ByteArray) (A C : Nat → Int) (w : World) (h : Syms w b off n N A) (h' : Syms w b' off' n M C) (hn : n ≤ 1048576) :
    Calls Try.prog 19 #[.agg #[.slice (some ⟨b, off, none⟩) n c], .agg #[.slice (some ⟨b', off', none⟩) n c']] w fun e w' => e = .returned (.bool (sameB n n N M A C)) ∧ Below w.heap.size w w' := by
  go_enter Try.func19, Try.ntmps19
  go_wp2
  go_loopw [5] (fun i wr => ∃ k : Nat, k ≤ n ∧ i = .int .i64 k ∧ (∀ i, i < k → N i = M i ∧ A i = C i) ∧ Below (w.heap.size + 1 + 1) ((w.alloc (.cells #[.slice (some ⟨b, off, none⟩) n c] 26)).alloc (.cells #[.slice (some ⟨b', off', none⟩) n c'] 26)) wr) (fun i _ => n - (intOf i).toNat)
  case atStart => exact ⟨0, Nat.zero_le _, rfl, fun i hi => by omega, Below.refl _ _⟩
  case round =>
    obtain ⟨k, hk, rfl, hsm, hbel⟩ := hrel
    obtain ⟨d0, d1, hbw⟩ := twoCells _ _ _ _ _ hbel
    by_cases hlt : k < n
    · have hs := h.later hbw h.blk
      have hs' := h'.later hbw h'.blk
      have c1 := hs.name k hlt
      have c2 := hs.arity k hlt
      have c3 := hs'.name k hlt
      have c4 := hs'.arity k hlt
      have HB := hidden hbel
      clear hs hs' hbel hbw
      by_cases he : N k = M k ∧ A k = C k
      · rw [← he.1] at c3
        rw [← he.2] at c4
        go_wp2
        go_quiet (fail)
        go_wp2
        go_roundw
        case rel => exact ⟨k + 1, by omega, by go_num, fun i hi => by
          by_cases e : i = k
          · rw [e]; exact he
          · exact hsm i (by omega), below_drewN HB.out _⟩
        case measure => simp [intOf]; omega
      · have hno : sameB n n N M A C = false := by
          simp only [sameB, decide_eq_false_iff_not]
          rintro ⟨_, hx⟩
          exact he (hx k hlt)
        by_cases hN : N k = M k
        · rw [← hN] at c3
          have hA : (A k == C k) = false := by simpa using fun e => he ⟨hN, e⟩
          go_wp2
          go_quiet (fail)
          go_wp2
          go_ret
          exact ⟨by rw [hno]; rfl, (twoCells _ _ _ _ _ (below_drewN HB.out _)).2.2⟩
        · have hA := bne_bytes hN
          go_wp2
          go_quiet (fail)
          go_wp2
          go_ret
          exact ⟨by rw [hno]; rfl, (twoCells _ _ _ _ _ (below_drewN HB.out _)).2.2⟩
    · go_wp2
      go_ret
      refine ⟨?_, hbw⟩
      have e : k = n := by omega
      subst e
      simp [sameB]
      exact hsm

set_option maxRecDepth 20000 in
set_option maxHeartbeats 400000 in
theorem implSame_len (p p' : Option Addr) (n m c c' : Nat) (w : World) (h : n ≠ m) :
    Calls Try.prog 18 #[.agg #[.slice p n c], .agg #[.slice p' m c']] w fun e w' => e = .returned (.bool false) ∧ Below w.heap.size w w' := by
  go_enter Try.func18, Try.ntmps18
  go_wp2
  go_ret
  exact ⟨rfl, (alloc_below _ _).alloc (by simp) _⟩

set_option maxRecDepth 20000 in
set_option maxHeartbeats 400000 in
theorem implSame_any (b off b' off' n c c' : Nat) (N M : Nat → ByteArray) (A C : Nat → Int) (w : World) (h : Syms w b off n N A) (h' : Syms w b' off' n M C) (hn : n ≤ 1048576) :
    Calls Try.prog 18 #[.agg #[.slice (some ⟨b, off, none⟩) n c], .agg #[.slice (some ⟨b', off', none⟩) n c']] w fun e w' => e = .returned (.bool (sameB n n N M A C)) ∧ Below w.heap.size w w' := by
  go_enter Try.func18, Try.ntmps18
  go_wp2
  go_loopw [17] (fun i wr => ∃ k : Nat, k ≤ n ∧ i = .int .i64 k ∧ (∀ i, i < k → N i = M i ∧ A i = C i) ∧ Below (w.heap.size + 1 + 1) ((w.alloc (.cells #[.slice (some ⟨b, off, none⟩) n c] 26)).alloc (.cells #[.slice (some ⟨b', off', none⟩) n c'] 26)) wr) (fun i _ => n - (intOf i).toNat)
  case atStart => exact ⟨0, Nat.zero_le _, rfl, fun i hi => by omega, Below.refl _ _⟩
  case round =>
    obtain ⟨k, hk, rfl, hsm, hbel⟩ := hrel
    obtain ⟨d0, d1, hbw⟩ := twoCells _ _ _ _ _ hbel
    by_cases hlt : k < n
    · have hs := h.later hbw h.blk
      have hs' := h'.later hbw h'.blk
      have c1 := hs.name k hlt
      have c2 := hs.arity k hlt
      have c3 := hs'.name k hlt
      have c4 := hs'.arity k hlt
      have e1 : ∀ o, (wr.alloc o).cell? ⟨w.heap.size + 1, 0, none⟩ = some (.slice (some ⟨b', off', none⟩) n c') := fun o => (keepCell d1 o)
      have e3 : ∀ o, (wr.alloc o).cell? ⟨b', off' + k * 2, none⟩ = some (.string (M k)) := fun o => (keepCell c3 o)
      have e4 : ∀ o, (wr.alloc o).cell? ⟨b', off' + k * 2 + 1, none⟩ = some (.int .i64 (C k)) := fun o => (keepCell c4 o)
      have HB := hidden (show ∀ o, Below (w.heap.size + 1 + 1) ((w.alloc (.cells #[.slice (some ⟨b, off, none⟩) n c] 26)).alloc (.cells #[.slice (some ⟨b', off', none⟩) n c'] 26)) (wr.alloc o) from fun o => hbel.alloc (by have := hbel.size; simpa using this) o)
      clear hs hs' hbel hbw
      by_cases he : N k = M k ∧ A k = C k
      · have HE := hidden he
        rw [← he.1] at e3
        rw [← he.2] at e4
        clear he c3 c4
        go_wp2
        go_quiet (fail)
        go_wp2
        go_roundw
        case rel => exact ⟨k + 1, by omega, by go_num, fun i hi => by
          by_cases e : i = k
          · rw [e]; exact HE.out
          · exact hsm i (by omega), below_drewN (HB.out _) _⟩
        case measure => simp [intOf]; omega
      · have hno : sameB n n N M A C = false := by
          simp only [sameB, decide_eq_false_iff_not]
          rintro ⟨_, hx⟩
          exact he (hx k hlt)
        by_cases hN : N k = M k
        · rw [← hN] at e3
          have hA : (A k == C k) = false := by simpa using fun e => he ⟨hN, e⟩
          clear c3 c4 hN he
          go_wp2
          go_quiet (fail)
          go_wp2
          go_ret
          exact ⟨by rw [hno]; rfl, (twoCells _ _ _ _ _ (below_drewN (HB.out _) _)).2.2⟩
        · have hA := bne_bytes hN
          clear c3 c4 hN he
          go_wp2
          go_quiet (fail)
          go_wp2
          go_ret
          exact ⟨by rw [hno]; rfl, (twoCells _ _ _ _ _ (below_drewN (HB.out _) _)).2.2⟩
    · go_wp2
      go_ret
      refine ⟨?_, hbw⟩
      have e : k = n := by omega
      subst e
      simp [sameB]
      exact hsm

end Go.Proofs.Ythgoclbgepfjmaa
