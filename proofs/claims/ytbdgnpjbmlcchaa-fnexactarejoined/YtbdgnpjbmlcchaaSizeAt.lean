/- Contracts: how many nodes the term at a place has: SizeAt, as the model and as the program tells it. -/
import Derived.Test.YtbdgnpjbmlcchaaTermF
namespace Go.Proofs.Ytbdgnpjbmlcchaa
open Go.RowKit

/-- The code of SizeAt and SubtermAt: the fault of the term, or of the place. -/
noncomputable def szC (n : Nat) (N : Nat → ByteArray) (A : Nat → Int) (m : Nat) (T : Nat → Int) (x : Int) : Int := if termF n N A m T = 0 then (if inB x m = true then 0 else 3) else termF n N A m T
noncomputable def szV (n : Nat) (N : Nat → ByteArray) (A : Nat → Int) (m : Nat) (T : Nat → Int) (x : Int) : Int := if termF n N A m T = 0 ∧ inB x m = true then (manyN (aOf A T) m x.toNat : Int) else 0

section
variable {n : Nat} {N : Nat → ByteArray} {A : Nat → Int} {m : Nat} {T : Nat → Int} {x : Int}
theorem sz_fault (h : termF n N A m T ≠ 0) : szC n N A m T x = termF n N A m T ∧ szV n N A m T x = 0 := by simp [szC, szV, h]
theorem sz_range (h : termF n N A m T = 0) (hx : inB x m = false) : szC n N A m T x = 3 ∧ szV n N A m T x = 0 := by simp [szC, szV, h, hx]
theorem sz_ok (h : termF n N A m T = 0) (hx : inB x m = true) : szC n N A m T x = 0 ∧ szV n N A m T x = (manyN (aOf A T) m x.toNat : Int) := by simp [szC, szV, h, hx]

/-- A place of a right term: where it lies, and where the term there ends. -/
theorem place_ok (h : termF n N A m T = 0) (hx : inB x m = true) : ∃ q e : Nat, x = q ∧ q < m ∧ skip (aOf A T) m q 1 = some e ∧ q < e ∧ e ≤ m ∧ e = q + manyN (aOf A T) m q := by
  have hx' : 0 ≤ x ∧ x < m := by simpa [inB] using hx
  obtain ⟨e, he, h1, h2⟩ := skip_inner (term_right h).whole (p := x.toNat) (by omega)
  exact ⟨x.toNat, e, by omega, by omega, he, h1, h2, by rw [manyN_some he]; omega⟩
end

set_option maxRecDepth 20000 in
set_option maxHeartbeats 800000 in
theorem placeFault_any (b off n c b' off' m c' : Nat) (N : Nat → ByteArray) (A T : Nat → Int) (x : Int) (w : World) (h : Syms w b off n N A) (h' : Ints w b' off' m T) (hk : Kept n N A) (hm : m ≤ 1048576) :
    Calls Try.prog 89 #[.agg #[.slice (some ⟨b, off, none⟩) n c], .slice (some ⟨b', off', none⟩) m c', .int .i64 x] w fun e w' => e = .returned (.int .i64 (szC n N A m T x)) ∧ Below w.heap.size w w' := by
  have B := hidden (alloc_below w (.cells #[.slice (some ⟨b, off, none⟩) n c] 34))
  have Q := hidden (h.keep B.out)
  have I := hidden (h'.keep B.out)
  have HK := hidden hk
  clear h h' hk
  go_enter Try.func89, Try.ntmps89
  go_wp2_with fail
  with_reducible refine (implTerm_any _ _ _ _ _ _ _ _ N A T _ Q.out I.out HK.out hm).mono ?_
  rintro e w1 ⟨rfl, hb⟩
  replace B := hidden (keepB B.out hb)
  clear hb Q I
  by_cases hf : termF n N A m T = 0
  · have HF := hidden hf
    rw [hf]
    clear hf
    by_cases h0 : x < 0
    · have HA := (sz_range HF.out (show inB x m = false by simp [inB]; omega)).1
      have h0' : decide (x < 0) = true := by simp; omega
      go_wp2
      go_ret
      exact ⟨by rw [HA]; rfl, B.out⟩
    have h0' : decide (x < 0) = false := by simp; omega
    by_cases h1 : (m : Int) ≤ x
    · have HA := (sz_range HF.out (show inB x m = false by simp [inB]; omega)).1
      have h1' : decide ((m : Int) ≤ x) = true := by simp; omega
      clear h0 h1
      go_wp2
      go_ret
      exact ⟨by rw [HA]; rfl, B.out⟩
    · have HA := (sz_ok HF.out (show inB x m = true by simp [inB]; omega)).1
      have h1' : decide ((m : Int) ≤ x) = false := by simp; omega
      clear h0 h1
      go_wp2
      go_ret
      exact ⟨by rw [HA]; rfl, B.out⟩
  · have HA := hidden (sz_fault (x := x) hf).1
    have hf' : (termF n N A m T != 0) = true := by simpa using hf
    generalize termF n N A m T = z at *
    clear hf
    go_wp2
    go_ret
    exact ⟨by rw [HA.out]; rfl, B.out⟩

end Go.Proofs.Ytbdgnpjbmlcchaa
