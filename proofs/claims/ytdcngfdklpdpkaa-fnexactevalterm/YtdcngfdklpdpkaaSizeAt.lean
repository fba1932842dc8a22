/- Contracts: how many nodes the term at a place has: SizeAt, as the model and as the program tells it. -/
import Derived.Test.YtdcngfdklpdpkaaTermF
namespace Go.Proofs.Ytdcngfdklpdpkaa
open Go.RowKit

/-- The code of SizeAt and SubtermAt: the fault of the term, or of the place. -/
noncomputable def szC (n : Nat) (N : Nat → ByteArray) (A : Nat → Int) (m : Nat) (T : Nat → Int) (x : Int) : Int := if termF n N A m T = 0 then (if inB x m = true then 0 else 3) else termF n N A m T
noncomputable def szV (n : Nat) (N : Nat → ByteArray) (A : Nat → Int) (m : Nat) (T : Nat → Int) (x : Int) : Int := if termF n N A m T = 0 ∧ inB x m = true then (manyN (aOf A T) m x.toNat : Int) else 0

section
variable {n : Nat} {N : Nat → ByteArray} {A : Nat → Int} {m : Nat} {T : Nat → Int} {x : Int}
theorem sz_fault (h : termF n N A m T ≠ 0) : szC n N A m T x = termF n N A m T ∧ szV n N A m T x = 0 := by simp [szC, szV, h]
theorem sz_range (h : termF n N A m T = 0) (hx : inB x m = false) : szC n N A m T x = 3 ∧ szV n N A m T x = 0 := by simp [szC, szV, h, hx]
theorem sz_ok (h : termF n N A m T = 0) (hx : inB x m = true) : szC n N A m T x = 0 ∧ szV n N A m T x = (manyN (aOf A T) m x.toNat : Int) := by simp [szC, szV, h, hx]

/-- A place of a right term: where it lies, and where the term there ends. -/
theorem place_ok (h : termF n N A m T = 0) (hx : inB x m = true) : ∃ q e : Nat, x = q ∧ q < m ∧ skip (aOf A T) m q 1 = some e ∧ q < e ∧ e ≤ m ∧ e = q + manyN (aOf A T) m q := by
  have hx' : 0 ≤ x ∧ x < m := by simpa [inB] using hx
  obtain ⟨e, he, h1, h2⟩ := skip_inner (term_right h).whole (p := x.toNat) (by omega)
  exact ⟨x.toNat, e, by omega, by omega, he, h1, h2, by rw [manyN_some he]; omega⟩
end

end Go.Proofs.Ytdcngfdklpdpkaa
