/- Contracts: a list of bytes is compared with another one; results of two numbers are compared. -/
import Derived.Test.YtcnkkoegfjggaaaBBase
namespace Go.Proofs.Ytcnkkoegfjggaaa.Byt
open Go.RowKit

/-- A row of bytes in memory. -/
structure Row (w : World) (b off n : Nat) (l : List Int) : Prop where
  len : l.length = n
  most : n ≤ 2000000
  byt : ∀ i, 0 ≤ l.getD i 0 ∧ l.getD i 0 ≤ 255
  blk : b < w.heap.size
  cell : ∀ i, i < n → w.cell? ⟨b, off + i, none⟩ = some (.int .u8 (l.getD i 0))

theorem Row.later {w w' : World} {B b off n : Nat} {l : List Int} (h : Row w b off n l) (hb : Below B w w') (hB : b < B) : Row w' b off n l :=
  ⟨h.len, h.most, h.byt, Nat.lt_of_lt_of_le h.blk hb.size, fun i hi => by rw [hb.cell (p := ⟨b, off + i, none⟩) hB]; exact h.cell i hi⟩

set_option maxRecDepth 20000 in
set_option maxHeartbeats 400000 in
theorem eqByteS_eq (b off b' off' n c c' : Nat) (l : List Int) (w : World) (h : Row w b off n l) (h' : Row w b' off' n l) :
    Calls Try.prog 22 #[.slice (some ⟨b, off, none⟩) n c, .slice (some ⟨b', off', none⟩) n c'] w fun e w' => e = .returned (.bool true) ∧ Below w.heap.size w w' := by
  have hmx := h.most
  go_enter Try.func22, Try.ntmps22
  go_wp2
  go_loopw [5] (fun i wr => ∃ k : Nat, k ≤ n ∧ i = .int .i64 k ∧ ∃ q, wr = w.drewN q) (fun i _ => n - (intOf i).toNat)
  case atStart => exact ⟨0, Nat.zero_le _, rfl, 0, rfl⟩
  case round =>
    obtain ⟨k, hk, rfl, q, rfl⟩ := hrel
    by_cases hlt : k < n
    · have c1 := h.cell k hlt
      have c2 := h'.cell k hlt
      have hb := h.byt k
      generalize l.getD k 0 = x at *
      go_wp2
      go_quiet (fail)
      go_wp2
      go_roundw
      case rel => exact ⟨k + 1, by omega, by go_num, _, rfl⟩
      case measure => simp [intOf]; omega
    · go_wp2
      go_ret
      exact ⟨rfl, below_drewN (Below.refl _ _) _⟩

end Go.Proofs.Ytcnkkoegfjggaaa.Byt
