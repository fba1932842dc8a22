/- Contracts: what a node is, and how many arguments it has, as the model and as the program tells it. -/
import Derived.Test.YtbdgnpjbmlcchaaSkip
namespace Go.Proofs.Ytbdgnpjbmlcchaa
open Go.RowKit

def varB (x : Int) : Bool := decide (-12 ≤ x ∧ x ≤ -1)
def nodeB (x : Int) (n : Nat) : Bool := inB x n || varB x

/-- How many arguments the node at a place has. -/
def aOf (A T : Nat → Int) (p : Nat) : Nat := if T p < 0 then 0 else (A (T p).toNat).toNat

/-- Nodes of a right signature. -/
structure Nods (n : Nat) (A : Nat → Int) (m : Nat) (T : Nat → Int) : Prop where
  few : n ≤ 6
  ar : ∀ i, i < n → 0 ≤ A i ∧ A i ≤ 2
  most : m ≤ 24
  node : ∀ i, i < m → nodeB (T i) n = true

theorem nodeB_cases {x : Int} {n : Nat} (h : nodeB x n = true) : (∃ j : Nat, x = j ∧ j < n) ∨ (-12 ≤ x ∧ x ≤ -1) := by
  simp only [nodeB, inB, varB, Bool.or_eq_true, decide_eq_true_eq] at h
  rcases h with h | h
  · exact Or.inl ⟨x.toNat, by omega, by omega⟩
  · exact Or.inr h

theorem aOf_var {A T : Nat → Int} {p : Nat} (h : T p < 0) : aOf A T p = 0 := by simp [aOf, h]
theorem aOf_sym {A T : Nat → Int} {p j : Nat} (h : T p = j) : aOf A T p = (A j).toNat := by
  have h1 : ¬ T p < 0 := by omega
  have h2 : (T p).toNat = j := by omega
  simp [aOf, h1, h2]

theorem Nods.aOf_le {n m : Nat} {A T : Nat → Int} (h : Nods n A m T) {p : Nat} (hp : p < m) : aOf A T p ≤ 2 := by
  rcases nodeB_cases (h.node p hp) with ⟨j, e, hj⟩ | hv
  · rw [aOf_sym e]; have := h.ar j hj; omega
  · rw [aOf_var (by omega)]; omega

set_option maxRecDepth 20000 in
set_option maxHeartbeats 400000 in
theorem isVariable_any (x : Int) (w : World) :
    Calls Try.prog 75 #[.int .i64 x] w fun e w' => e = .returned (.bool (varB x)) ∧ Below w.heap.size w w' := by
  by_cases h0 : -12 ≤ x
  · by_cases h1 : x ≤ -1
    · have HN := hidden (show varB x = true by simp [varB]; omega)
      go_enter Try.func75, Try.ntmps75
      go_wp2
      go_ret
      exact ⟨by rw [HN.out]; rfl, Below.refl _ _⟩
    · have HN := hidden (show varB x = false by simp [varB]; omega)
      have h1' : decide (x ≤ -1) = false := by simp; omega
      go_enter Try.func75, Try.ntmps75
      go_wp2
      go_ret
      exact ⟨by rw [HN.out]; rfl, Below.refl _ _⟩
  · have HN := hidden (show varB x = false by simp [varB]; omega)
    have h1' : decide (-12 ≤ x) = false := by simp; omega
    go_enter Try.func75, Try.ntmps75
    go_wp2
    go_ret
    exact ⟨by rw [HN.out]; rfl, Below.refl _ _⟩

set_option maxRecDepth 20000 in
set_option maxHeartbeats 400000 in
theorem isNode_any (p : Option Addr) (n c : Nat) (x : Int) (w : World) :
    Calls Try.prog 60 #[.agg #[.slice p n c], .int .i64 x] w fun e w' => e = .returned (.bool (nodeB x n)) ∧ Below w.heap.size w w' := by
  go_enter Try.func60, Try.ntmps60
  go_wp2_with fail
  with_reducible refine (isSymbol_any _ _ _ _ _).mono ?_
  rintro e w1 ⟨rfl, hb⟩
  have B := hidden (keepB (alloc_below _ _) hb)
  clear hb
  generalize hi : inB x n = ib
  cases ib
  · have HN := hidden (show nodeB x n = varB x by simp [nodeB, hi])
    clear hi
    go_wp2_with fail
    with_reducible refine (isVariable_any _ _).mono ?_
    rintro e w2 ⟨rfl, hb⟩
    replace B := hidden (keepB B.out hb)
    clear hb
    go_wp2
    go_ret
    exact ⟨by rw [HN.out]; rfl, B.out⟩
  · have HN := hidden (show nodeB x n = true by simp [nodeB, hi])
    clear hi
    go_wp2
    go_ret
    exact ⟨by rw [HN.out]; rfl, B.out⟩

set_option maxRecDepth 20000 in
set_option maxHeartbeats 400000 in
theorem l3Node_any (B : Nat) (p : Option Addr) (n c : Nat) (x : Int) (w : World) (h : One w B (.slice p n c)) (hn : n ≤ 1048576) :
    Calls Try.prog 32 #[.pointer (some ⟨B, 0, none⟩), .int .i64 x] w fun e w' => e = .returned (.bool (nodeB x n)) ∧ Below w.heap.size w w' := by
  go_enter Try.func32, Try.ntmps32
  go_wp2_with fail
  with_reducible refine (l2Symbol_any _ _ _ _ _ _ h hn).mono ?_
  rintro e w1 ⟨rfl, hb⟩
  have B := hidden hb
  clear hb
  generalize hi : inB x n = ib
  cases ib
  · have HN := hidden (show nodeB x n = varB x by simp [nodeB, hi])
    clear hi
    go_wp2_with fail
    with_reducible refine (l1In_any _ _ _ _).mono ?_
    rintro e w2 ⟨rfl, hb⟩
    rw [show decide (-12 ≤ x ∧ x ≤ -1) = varB x from rfl]
    replace B := hidden (keepB B.out hb)
    clear hb
    go_wp2
    go_ret
    exact ⟨by rw [HN.out]; rfl, B.out⟩
  · have HN := hidden (show nodeB x n = true by simp [nodeB, hi])
    clear hi
    go_wp2
    go_ret
    exact ⟨by rw [HN.out]; rfl, B.out⟩

set_option maxRecDepth 20000 in
set_option maxHeartbeats 400000 in
theorem argumentCount_sym (b off n c j : Nat) (N : Nat → ByteArray) (A : Nat → Int) (w : World) (h : Syms w b off n N A) (hj : j < n) :
    Calls Try.prog 99 #[.agg #[.slice (some ⟨b, off, none⟩) n c], .int .i64 j] w fun e w' => e = .returned (.int .i64 (A j)) ∧ Below w.heap.size w w' := by
  have D := hidden (One.new w (.slice (some ⟨b, off, none⟩) n c) 34)
  have Q := hidden (h.keep (alloc_below w (.cells #[.slice (some ⟨b, off, none⟩) n c] 34)))
  clear h
  go_enter Try.func99, Try.ntmps99
  go_wp2_with fail
  with_reducible refine (isVariable_any _ _).mono ?_
  rintro e w1 ⟨rfl, hb⟩
  have hv : varB (j : Int) = false := by simp [varB]; omega
  rw [hv]
  clear hv
  replace D := hidden (D.out.keep hb)
  replace Q := hidden (Q.out.keep hb)
  have B := hidden (keepB (alloc_below _ _) hb)
  have d0 := D.out.c0
  have c1 := Q.out.arity j hj
  clear hb D Q
  go_wp2
  go_ret
  exact ⟨rfl, B.out⟩

set_option maxRecDepth 20000 in
set_option maxHeartbeats 400000 in
theorem argumentCount_var (p : Option Addr) (n c : Nat) (x : Int) (w : World) (hx : -12 ≤ x ∧ x ≤ -1) :
    Calls Try.prog 99 #[.agg #[.slice p n c], .int .i64 x] w fun e w' => e = .returned (.int .i64 0) ∧ Below w.heap.size w w' := by
  go_enter Try.func99, Try.ntmps99
  go_wp2_with fail
  with_reducible refine (isVariable_any _ _).mono ?_
  rintro e w1 ⟨rfl, hb⟩
  have hv : varB x = true := by simp [varB]; omega
  rw [hv]
  clear hv
  have B := hidden (keepB (alloc_below _ _) hb)
  clear hb
  go_wp2
  go_ret
  exact ⟨rfl, B.out⟩

theorem argumentCount_any (b off n c m : Nat) (N : Nat → ByteArray) (A T : Nat → Int) (p : Nat) (w : World) (h : Syms w b off n N A) (hg : Nods n A m T) (hp : p < m) :
    Calls Try.prog 99 #[.agg #[.slice (some ⟨b, off, none⟩) n c], .int .i64 (T p)] w fun e w' => e = .returned (.int .i64 (aOf A T p)) ∧ Below w.heap.size w w' := by
  rcases nodeB_cases (hg.node p hp) with ⟨j, e, hj⟩ | hv
  · rw [e, aOf_sym e]
    have := hg.ar j hj
    rw [Int.toNat_of_nonneg (by omega)]
    exact argumentCount_sym b off n c j N A w h hj
  · rw [aOf_var (by omega)]
    exact argumentCount_var _ n c _ w hv

end Go.Proofs.Ytbdgnpjbmlcchaa
