/- Contracts: the number that two bytes make, as the model and as the program reckons it. -/
import Derived.Test.YtcjpmpbepmjgkaaSum
import Derived.Laws.BitsAllLaws
namespace Go.Proofs.Ytcjpmpbepmjgkaa
open Go.RowKit

theorem wrap_small (n : Nat) (h : n < 65536) : IntKind.i64.wrap (n : Int) = (n : Int) := by
  have e : (n : Int) % 2 ^ 64 = n := Int.emod_eq_of_lt (by omega) (by omega)
  simp only [IntKind.wrap, IntKind.bits, IntKind.signed, e]
  rw [if_neg]
  simp
  omega

theorem or_pair (x y : Int) (hx : 0 ≤ x ∧ x ≤ 255) (hy : 0 ≤ y ∧ y ≤ 255) : bits .or .i64 (x * 256) y = x * 256 + y := by
  obtain ⟨X, rfl⟩ := Int.eq_ofNat_of_zero_le hx.1
  obtain ⟨Y, rfl⟩ := Int.eq_ofNat_of_zero_le hy.1
  have e : (X : Int) * 256 = ((X * 256 : Nat) : Int) := by omega
  rw [e]
  show IntKind.i64.wrap ((BitVec.ofInt 64 ((X * 256 : Nat) : Int) ||| BitVec.ofInt 64 (Y : Int)).toNat : Int) = _
  rw [BitVec.toNat_or, ofInt_u64 _ (by omega), ofInt_u64 Y (by omega), nat_join 8 _ _ (by omega) (by omega), wrap_small _ (by omega)]
  omega

def pairC (l : List Int) (x : Int) : Int := if 2000 < l.length then 2 else if x < 0 ∨ (l.length : Int) - 2 < x then 3 else 0
def pairV (l : List Int) (x : Int) : Int := if 2000 < l.length then 0 else if x < 0 ∨ (l.length : Int) - 2 < x then 0 else l.getD x.toNat 0 * 256 + l.getD (x.toNat + 1) 0

theorem Row.cellA {w : World} {b off n : Nat} {l : List Int} (h : Row w b off n l) (i : Nat) (hi : i < n) (o : Obj) : (w.alloc o).cell? ⟨b, off + i, none⟩ = some (.int .u8 (l.getD i 0)) := by
  rw [((Below.refl w.heap.size w).alloc (Nat.le_refl _) o).cell (p := ⟨b, off + i, none⟩) h.blk]; exact h.cell i hi

set_option maxHeartbeats 400000 in
theorem implPairAt_many (p : Option Addr) (n c : Nat) (x : Int) (w : World) (hn : 2000 < n) :
    Calls Try.prog 12 #[.slice p n c, .int .i64 x] w fun e w' => e = .returned (.agg #[.int .i64 2, .int .i64 0]) ∧ Below w.heap.size w w' := by
  go_enter Try.func12, Try.ntmps12
  go_wp2
  exact bodyPost_ret (v := .agg #[.int .i64 2, .int .i64 0]) (by simp [results, Try.results12, go_sem]) rfl ⟨rfl, (Below.refl _ _).alloc (Nat.le_refl _) _⟩

set_option maxHeartbeats 400000 in
theorem implPairAt_out (p : Option Addr) (n c : Nat) (x : Int) (w : World) (hn : ¬ 2000 < n) (hx : x < 0 ∨ (n : Int) - 2 < x) :
    Calls Try.prog 12 #[.slice p n c, .int .i64 x] w fun e w' => e = .returned (.agg #[.int .i64 3, .int .i64 0]) ∧ Below w.heap.size w w' := by
  by_cases h0 : x < 0
  · go_enter Try.func12, Try.ntmps12
    go_wp2
    exact bodyPost_ret (v := .agg #[.int .i64 3, .int .i64 0]) (by simp [results, Try.results12, go_sem]) rfl ⟨rfl, (Below.refl _ _).alloc (Nat.le_refl _) _⟩
  · have h1 : (n : Int) - 2 < x := hx.resolve_left h0
    clear hx
    go_enter Try.func12, Try.ntmps12
    go_wp2
    exact bodyPost_ret (v := .agg #[.int .i64 3, .int .i64 0]) (by simp [results, Try.results12, go_sem]) rfl ⟨rfl, (Below.refl _ _).alloc (Nat.le_refl _) _⟩

set_option maxHeartbeats 400000 in
theorem implPairAt_in (b off n c k : Nat) (l : List Int) (w : World) (h : Row w b off n l) (hn : ¬ 2000 < n) (hk : k + 2 ≤ n) (hc : n ≤ c) :
    Calls Try.prog 12 #[.slice (some ⟨b, off, none⟩) n c, .int .i64 k] w fun e w' => e = .returned (.agg #[.int .i64 0, .int .i64 (l.getD k 0 * 256 + l.getD (k + 1) 0)]) ∧ Below w.heap.size w w' := by
  have c0 := h.cellA k (by omega)
  have c1 := h.cellA (k + 1) (by omega)
  rw [← Nat.add_assoc] at c1
  have b0 := h.byt k
  have b1 := h.byt (k + 1)
  generalize l.getD k 0 = x at *
  generalize l.getD (k + 1) 0 = y at *
  have i0 : (0 : Int) ≤ (k : Int) := by omega
  have i1 : ¬ (k : Int) < 0 := by omega
  have i2 : ¬ (n : Int) - 2 < (k : Int) := by omega
  have i3 : (k : Int) < (n : Int) := by omega
  have i4 : (k : Int) + 1 < (n : Int) := by omega
  have ha := fun (a : Option Addr) (d : Nat) (v : World) => run_arrayAt (P := Try.prog) v 46 5 2 a 2 d Try.underlying46 (Nat.le_refl _)
  have ho := or_pair x y b0 b1
  go_enter Try.func12, Try.ntmps12
  go_wp2
  exact bodyPost_ret (v := .agg #[.int .i64 0, .int .i64 (x * 256 + y)]) (by simp [results, Try.results12, go_sem]) rfl ⟨rfl, ((Below.refl _ _).alloc (Nat.le_refl _) _).alloc (by simp) _⟩

theorem implPairAt_all (b off n c : Nat) (l : List Int) (x : Int) (w : World) (h : Row w b off n l) (hc : n ≤ c) :
    Calls Try.prog 12 #[.slice (some ⟨b, off, none⟩) n c, .int .i64 x] w fun e w' => e = .returned (.agg #[.int .i64 (pairC l x), .int .i64 (pairV l x)]) ∧ Below w.heap.size w w' := by
  rw [pairC, pairV, h.len]
  by_cases hn : 2000 < n
  · rw [if_pos hn, if_pos hn]
    exact implPairAt_many _ _ _ _ _ hn
  · rw [if_neg hn, if_neg hn]
    by_cases hx : x < 0 ∨ (n : Int) - 2 < x
    · rw [if_pos hx, if_pos hx]
      exact implPairAt_out _ _ _ _ _ hn hx
    · rw [if_neg hx, if_neg hx]
      obtain ⟨k, rfl⟩ := Int.eq_ofNat_of_zero_le (show 0 ≤ x by omega)
      exact implPairAt_in _ _ _ _ k _ _ h hn (by omega) hc

end Go.Proofs.Ytcjpmpbepmjgkaa
