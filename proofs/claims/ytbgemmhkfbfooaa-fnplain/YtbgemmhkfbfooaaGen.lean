/- Contracts: what the draws are made with: a source of numbers that reads bytes one by one. -/
import Derived.Test.YtbgemmhkfbfooaaBPairOf
namespace Go.Proofs.Ytbgemmhkfbfooaa.Byt
open Go.RowKit

/-- A source in memory: the bytes that it reads, and how many were read. -/
structure Gen (w : World) (s : Nat) (p : Option Addr) (n c : Nat) (a : Nat) : Prop where
  blk : s < w.heap.size
  c0 : w.cell? ⟨s, 0, none⟩ = some (.slice p n c)
  c1 : w.cell? ⟨s, 1, none⟩ = some (.int .i64 a)
  f1 : w.frozen? ⟨s, 1, none⟩ = false

set_option maxRecDepth 20000 in
set_option maxHeartbeats 800000 in
theorem l1Next_none (s : Nat) (p : Option Addr) (c a : Nat) (m : Int) (w : World) (hs : Gen w s p 0 c a) (ha : a ≤ 1000000) (hm : 1 ≤ m) (hm2 : m ≤ 4294967296) :
    Calls Try.prog 36 #[.pointer (some ⟨s, 0, none⟩), .int .i64 m] w fun e w' => ∃ v : Int, e = .returned (.int .i64 v) ∧ 0 ≤ v ∧ v < m ∧ w' = w.setCell ⟨s, 1, none⟩ (.int .i64 ((a + 1 : Nat) : Int)) := by
  obtain ⟨hb, c0, c1, f1⟩ := hs
  go_enter Try.func36, Try.ntmps36
  go_wp2
  go_ret
  exact ⟨_, rfl, Int.emod_nonneg _ (by omega), Int.emod_lt_of_pos _ (by omega), by rw [show ((a + 1 : Nat) : Int) = (a : Int) + 1 from by omega]⟩

set_option maxRecDepth 20000 in
set_option maxHeartbeats 800000 in
theorem l1Next_some (s : Nat) (b off n c a : Nat) (l : List Int) (m : Int) (w : World) (hs : Gen w s (some ⟨b, off, none⟩) n c a) (hr : Row w b off n l) (hbs : b ≠ s) (hn : 0 < n) (ha : a ≤ 1000000) (hm : 1 ≤ m) (hm2 : m ≤ 4294967296) :
    Calls Try.prog 36 #[.pointer (some ⟨s, 0, none⟩), .int .i64 m] w fun e w' => ∃ v : Int, e = .returned (.int .i64 v) ∧ 0 ≤ v ∧ v < m ∧ ∃ q, w' = (w.setCell ⟨s, 1, none⟩ (.int .i64 ((a + 1 : Nat) : Int))).drewN q := by
  obtain ⟨hb, c0, c1, f1⟩ := hs
  have hmx := hr.most
  have hn1 : (0 : Int) < (n : Int) := by omega
  have hj : a % n < n := Nat.mod_lt _ hn
  have c2 := hr.cell (a % n) hj
  have hb2 := hr.byt (a % n)
  obtain ⟨j, ej, hj2⟩ : ∃ j : Nat, ((a : Int) + 1) % (n : Int) = (j : Int) ∧ j < n := ⟨(a + 1) % n, by rw [Int.natCast_emod, Int.natCast_add]; rfl, Nat.mod_lt _ hn⟩
  have hj3 : (j : Int) < (n : Int) := by omega
  have c3 := hr.cell j hj2
  have hb3 := hr.byt j
  generalize l.getD (a % n) 0 = x at *
  generalize l.getD j 0 = y at *
  have hne : ((n : Int) == 0) = false := by simp; omega
  have hd0 : 0 ≤ (a : Int) / (n : Int) := Int.ediv_nonneg (by omega) (by omega)
  have hd1 : (a : Int) / (n : Int) ≤ 1000000 := by
    have := Int.ediv_le_self (a := (a : Int)) (n : Int) (by omega)
    omega
  by_cases h2 : 200 < m
  · go_enter Try.func36, Try.ntmps36
    go_wp2
    go_region
    go_wp2
    go_region
    go_wp2
    go_ret
    exact ⟨_, rfl, Int.emod_nonneg _ (by omega), Int.emod_lt_of_pos _ (by omega), 2, by rw [show ((a + 1 : Nat) : Int) = (a : Int) + 1 from by omega]; rfl⟩
  · go_enter Try.func36, Try.ntmps36
    go_wp2
    go_region
    go_wp2
    go_ret
    exact ⟨_, rfl, Int.emod_nonneg _ (by omega), Int.emod_lt_of_pos _ (by omega), 1, by rw [show ((a + 1 : Nat) : Int) = (a : Int) + 1 from by omega]; rfl⟩

theorem setCell_grown (w : World) (s o : Nat) (v : Value) : w.grownBy (w.setCell ⟨s, o, none⟩ v) (some s) :=
  ⟨rfl, rfl, rfl, by simp [World.setCell], fun k _ hk => Below.heap_setCell _ _ _ _ (fun e => hk (by simp [e]))⟩

theorem grownBy_drewN {w w' : World} {r : Option Nat} (h : w.grownBy w' r) (q : Nat) : w.grownBy (w'.drewN q) r := ⟨h.os, h.tape, h.output, h.size, h.block⟩

theorem Gen.step {w : World} {s n c a : Nat} {p : Option Addr} (h : Gen w s p n c a) (q : Nat) : Gen ((w.setCell ⟨s, 1, none⟩ (.int .i64 ((a + 1 : Nat) : Int))).drewN q) s p n c (a + 1) := by
  obtain ⟨hb, c0, c1, f1⟩ := h
  refine ⟨by simpa [World.setCell] using hb, ?_, ?_, ?_⟩
  · simp [go_sem, c0]
  · simp [go_sem, c1]
  · simp [go_sem, f1]

/-- One number: in its bounds, whatever the bytes are; the source alone is turned. -/
theorem l1Next_any (s : Nat) (p : Option Addr) (n c a : Nat) (l : List Int) (m : Int) (w0 w : World) (hs : Gen w s p n c a) (h0 : Src w0 p n l) (hb : Below w0.heap.size w0 w) (hs0 : w0.heap.size ≤ s) (ha : a ≤ 1000000) (hm : 1 ≤ m) (hm2 : m ≤ 4294967296) :
    Calls Try.prog 36 #[.pointer (some ⟨s, 0, none⟩), .int .i64 m] w fun e w' => ∃ v : Int, e = .returned (.int .i64 v) ∧ 0 ≤ v ∧ v < m ∧ Gen w' s p n c (a + 1) ∧ w.grownBy w' (some s) ∧ w'.heap.size = w.heap.size := by
  obtain ⟨hl, hmx, hbd, hz | ⟨b, off, rfl, hlt, hc⟩⟩ := h0
  · subst hz
    refine (l1Next_none s p c a m w hs ha hm hm2).mono ?_
    rintro e w' ⟨v, rfl, h1, h2, rfl⟩
    exact ⟨v, rfl, h1, h2, hs.step 0, setCell_grown _ _ _ _, by simp [World.setCell]⟩
  · by_cases hn : n = 0
    · subst hn
      refine (l1Next_none s _ c a m w hs ha hm hm2).mono ?_
      rintro e w' ⟨v, rfl, h1, h2, rfl⟩
      exact ⟨v, rfl, h1, h2, hs.step 0, setCell_grown _ _ _ _, by simp [World.setCell]⟩
    · have hr : Row w b off n l := ⟨hl, hmx, hbd, Nat.lt_of_lt_of_le hlt hb.size, fun i hi => by rw [hb.cell (p := ⟨b, off + i, none⟩) hlt]; exact hc i hi⟩
      refine (l1Next_some s b off n c a l m w hs hr (by omega) (by omega) ha hm hm2).mono ?_
      rintro e w' ⟨v, rfl, h1, h2, q, rfl⟩
      exact ⟨v, rfl, h1, h2, hs.step q, grownBy_drewN (setCell_grown _ _ _ _) q, by simp [World.setCell]⟩

end Go.Proofs.Ytbgemmhkfbfooaa.Byt
