/- Contracts: a source is made; a chance, a choice and some bytes are drawn from it. -/
import Derived.Test.YtbgemmhkfbfooaaGen
namespace Go.Proofs.Ytbgemmhkfbfooaa.Byt
open Go.RowKit

set_option maxRecDepth 20000 in
set_option maxHeartbeats 800000 in
theorem l1Source_any (p : Option Addr) (n c : Nat) (w : World) :
    Calls Try.prog 13 #[.slice p n c] w fun e w' => ∃ s, e = .returned (.pointer (some ⟨s, 0, none⟩)) ∧ w.heap.size ≤ s ∧ Gen w' s p n c 0 ∧ Below w.heap.size w w' := by
  go_enter Try.func13, Try.ntmps13
  go_wp2
  go_ret
  refine ⟨w.heap.size, rfl, Nat.le_refl _, ⟨by simp, by simp [go_sem], by simp [go_sem], by simp [go_sem]⟩, (Below.refl _ _).alloc (Nat.le_refl _) _⟩

set_option maxRecDepth 20000 in
set_option maxHeartbeats 800000 in
theorem l1Chance_any (s : Nat) (p : Option Addr) (n c a : Nat) (l : List Int) (m : Int) (w0 w : World) (hs : Gen w s p n c a) (h0 : Src w0 p n l) (hb : Below w0.heap.size w0 w) (hs0 : w0.heap.size ≤ s) (ha : a ≤ 1000000) (hm : 1 ≤ m) (hm2 : m ≤ 4294967296) :
    Calls Try.prog 35 #[.pointer (some ⟨s, 0, none⟩), .int .i64 m] w fun e w' => ∃ v : Bool, e = .returned (.bool v) ∧ Gen w' s p n c (a + 1) ∧ w.grownBy w' (some s) ∧ w'.heap.size = w.heap.size := by
  go_enter Try.func35, Try.ntmps35
  go_wp2_with fail
  refine (l1Next_any s p n c a l m w0 w hs h0 hb hs0 ha hm hm2).mono ?_
  rintro e w' ⟨v, rfl, _, _, hg, hk, hz⟩
  go_wp2
  go_ret
  exact ⟨_, rfl, hg, hk, hz⟩

/-- A row of numbers in memory. -/
structure Nums (w : World) (b n : Nat) (l : List Int) : Prop where
  len : l.length = n
  cell : ∀ i, i < n → w.cell? ⟨b, i, none⟩ = some (.int .i64 (l.getD i 0))

set_option maxRecDepth 20000 in
set_option maxHeartbeats 800000 in
theorem l1Pick_any (s : Nat) (p : Option Addr) (n c a : Nat) (l : List Int) (b k d : Nat) (xs : List Int) (w0 w : World) (hs : Gen w s p n c a) (h0 : Src w0 p n l) (hb : Below w0.heap.size w0 w) (hs0 : w0.heap.size ≤ s) (ha : a ≤ 1000000) (hx : Nums w b k xs) (hbs : b ≠ s) (hk : 0 < k) (hk2 : k ≤ 1000000) :
    Calls Try.prog 16 #[.pointer (some ⟨s, 0, none⟩), .slice (some ⟨b, 0, none⟩) k d] w fun e w' => ∃ i, i < k ∧ e = .returned (.int .i64 (xs.getD i 0)) ∧ Gen w' s p n c (a + 1) ∧ w.grownBy w' (some s) ∧ w'.heap.size = w.heap.size := by
  go_enter Try.func16, Try.ntmps16
  go_wp2_with fail
  refine (l1Next_any s p n c a l k w0 w hs h0 hb hs0 ha (by omega) (by omega)).mono ?_
  rintro e w' ⟨v, rfl, hv0, hv1, hg, hgr, hz⟩
  obtain ⟨i, rfl⟩ := Int.eq_ofNat_of_zero_le hv0
  have hi : i < k := by omega
  have hc := hgr.cell (hx.cell i hi) (by simpa using hbs)
  generalize hy : xs.getD i 0 = y at hc
  have HY : Hid _ := hy
  clear hy
  go_wp2
  go_ret
  exact ⟨i, hi, by rw [HY.out]; rfl, hg, hgr, hz⟩

theorem grownBy_new {w a b : World} {s g : Nat} (h : w.grownBy a (some s)) (k : a.grownBy b (some g)) (hg : w.heap.size ≤ g) : w.grownBy b (some s) :=
  ⟨k.os.trans h.os, k.tape.trans h.tape, k.output.trans h.output, Nat.le_trans h.size k.size, fun i hi hr => (k.block i (Nat.lt_of_lt_of_le hi h.size) (by intro e; cases e; omega)).trans (h.block i hi hr)⟩

theorem Gen.grown {w w' : World} {s n c a g : Nat} {p : Option Addr} (h : Gen w s p n c a) (hg : w.grownBy w' (some g)) (hne : s ≠ g) : Gen w' s p n c a :=
  ⟨Nat.lt_of_lt_of_le h.blk hg.size, hg.cell h.c0 (by simpa using hne), hg.cell h.c1 (by simpa using hne), by rw [World.frozen?_of_block (hg.block s h.blk (by simpa using hne))]; exact h.f1⟩

theorem Gen.alloc {w : World} {s n c a : Nat} {p : Option Addr} (h : Gen w s p n c a) (o : Obj) : Gen (w.alloc o) s p n c a :=
  h.grown (World.grownBy_alloc w o (some w.heap.size)) (by have := h.blk; omega)

theorem ownsRow_grown {w w' : World} {B e size g n c s : Nat} {xs : List Value} (h : w.ownsRow B e size (.slice (some ⟨g, 0, none⟩) n c) n xs) (hg : w.grownBy w' (some s)) (hne : g ≠ s) : w'.ownsRow B e size (.slice (some ⟨g, 0, none⟩) n c) n xs :=
  h.kept hg (Or.inr (by simpa [Value.ownBlock] using hne))

theorem append_byte (l : List Int) (x : Int) : l.map (Value.int .u8) ++ [Value.int .u8 x] = (l ++ [x]).map (Value.int .u8) := by simp

theorem byt_append {l : List Int} {x : Int} (h : ∀ i, 0 ≤ l.getD i 0 ∧ l.getD i 0 ≤ 255) (hx : 0 ≤ x ∧ x ≤ 255) : ∀ i, 0 ≤ (l ++ [x]).getD i 0 ∧ (l ++ [x]).getD i 0 ≤ 255 := by
  intro i
  have := h i
  simp only [List.getD_eq_getElem?_getD, List.getElem?_append] at this ⊢
  split
  · exact this
  · by_cases e : i - l.length = 0
    · rw [e]; simpa using hx
    · rw [List.getElem?_eq_none (by simp; omega)]; simp

end Go.Proofs.Ytbgemmhkfbfooaa.Byt
