/- Contracts: the arity of a symbol, as the model and as the program tells it. -/
import Derived.Test.YtbdgnpjbmlcchaaImplFault
namespace Go.Proofs.Ytbdgnpjbmlcchaa
open Go.RowKit

def inB (x : Int) (n : Nat) : Bool := decide (0 ≤ x ∧ x < n)

set_option maxRecDepth 20000 in
set_option maxHeartbeats 400000 in
theorem isSymbol_any (p : Option Addr) (n c : Nat) (x : Int) (w : World) :
    Calls Try.prog 83 #[.agg #[.slice p n c], .int .i64 x] w fun e w' => e = .returned (.bool (inB x n)) ∧ Below w.heap.size w w' := by
  by_cases h0 : 0 ≤ x
  · by_cases h1 : x < n
    · have HN := hidden (show inB x n = true by simp [inB]; omega)
      go_enter Try.func83, Try.ntmps83
      go_wp2
      go_ret
      exact ⟨by rw [HN.out]; rfl, alloc_below _ _⟩
    · have HN := hidden (show inB x n = false by simp [inB]; omega)
      have h1' : decide (x < (n : Int)) = false := by simp; omega
      go_enter Try.func83, Try.ntmps83
      go_wp2
      go_ret
      exact ⟨by rw [HN.out]; rfl, alloc_below _ _⟩
  · have HN := hidden (show inB x n = false by simp [inB]; omega)
    have h1' : decide (0 ≤ x) = false := by simp; omega
    go_enter Try.func83, Try.ntmps83
    go_wp2
    go_ret
    exact ⟨by rw [HN.out]; rfl, alloc_below _ _⟩

set_option maxRecDepth 20000 in
set_option maxHeartbeats 400000 in
theorem l2Symbol_any (B : Nat) (p : Option Addr) (n c : Nat) (x : Int) (w : World) (h : One w B (.slice p n c)) (hn : n ≤ 1048576) :
    Calls Try.prog 45 #[.pointer (some ⟨B, 0, none⟩), .int .i64 x] w fun e w' => e = .returned (.bool (inB x n)) ∧ Below w.heap.size w w' := by
  have d0 := h.c0
  go_enter Try.func45, Try.ntmps45
  go_wp2_with fail
  refine (l1In_any _ _ _ _).mono ?_
  rintro e w1 ⟨rfl, hb⟩
  have HN := hidden (show decide (0 ≤ x ∧ x ≤ (n : Int) - 1) = inB x n by simp only [inB, decide_eq_decide]; omega)
  rw [HN.out]
  clear d0 h
  go_wp2
  go_ret
  exact ⟨rfl, hb⟩

set_option maxRecDepth 20000 in
set_option maxHeartbeats 400000 in
theorem eqInt_eq (x y : Int) (w : World) :
    Calls Try.prog 11 #[.agg #[.int .i64 x, .int .i64 y], .agg #[.int .i64 x, .int .i64 y]] w fun e w' => e = .returned (.bool true) ∧ Below w.heap.size w w' := by
  go_enter Try.func11, Try.ntmps11
  go_wp2
  go_ret
  exact ⟨rfl, ((Below.refl _ _).alloc (Nat.le_refl _) _).alloc (by simp) _⟩

/-- The two cells of a result. -/
structure Res (w : World) (b : Nat) (x y : Value) : Prop where
  blk : b < w.heap.size
  c0 : w.cell? ⟨b, 0, none⟩ = some x
  c1 : w.cell? ⟨b, 1, none⟩ = some y
  f0 : w.frozen? ⟨b, 0, none⟩ = false
  f1 : w.frozen? ⟨b, 1, none⟩ = false

theorem Res.new (w : World) (x y : Value) (t : TypeId) : Res (w.alloc (.cells #[x, y] t)) w.heap.size x y := by
  refine ⟨by simp, ?_, ?_, ?_, ?_⟩ <;> simp [go_sem]

theorem Res.keep {w w' : World} {b : Nat} {x y : Value} (h : Res w b x y) (hb : Below w.heap.size w w') : Res w' b x y :=
  ⟨Nat.lt_of_lt_of_le h.blk hb.size, by rw [hb.cell (p := ⟨b, 0, none⟩) h.blk]; exact h.c0, by rw [hb.cell (p := ⟨b, 1, none⟩) h.blk]; exact h.c1,
   by rw [hb.frozen (p := ⟨b, 0, none⟩) h.blk]; exact h.f0, by rw [hb.frozen (p := ⟨b, 1, none⟩) h.blk]; exact h.f1⟩

/-- What ArityOf answers: code and value. -/
noncomputable def arC (n : Nat) (N : Nat → ByteArray) (A : Nat → Int) (x : Int) : Int := if faultF n N A = 0 then (if inB x n = true then 0 else 3) else faultF n N A
noncomputable def arV (n : Nat) (N : Nat → ByteArray) (A : Nat → Int) (x : Int) : Int := if faultF n N A = 0 ∧ inB x n = true then A x.toNat else 0

theorem ar_fault {n : Nat} {N : Nat → ByteArray} {A : Nat → Int} {x : Int} (h : faultF n N A ≠ 0) : arC n N A x = faultF n N A ∧ arV n N A x = 0 := by simp [arC, arV, h]
theorem ar_range {n : Nat} {N : Nat → ByteArray} {A : Nat → Int} {x : Int} (h : faultF n N A = 0) (hx : inB x n = false) : arC n N A x = 3 ∧ arV n N A x = 0 := by simp [arC, arV, h, hx]
theorem ar_ok {n : Nat} {N : Nat → ByteArray} {A : Nat → Int} {x : Int} (h : faultF n N A = 0) (hx : inB x n = true) : arC n N A x = 0 ∧ arV n N A x = A x.toNat := by simp [arC, arV, h, hx]

end Go.Proofs.Ytbdgnpjbmlcchaa
