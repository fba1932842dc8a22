/- Contracts: what a binding binds, as the program's meaning tells it; ApplyBinding, as the program makes it. -/
import Derived.Test.YtaecahdamaidaaaApply
namespace Go.Proofs.Ytaecahdamaidaaa
open Go.RowKit

/-- The place, or -1. -/
def ixV (V : Nat → Int) (v : Int) (m : Nat) : Int := match bdI V v m with | some i => (i : Int) | none => -1

theorem ixV_some {V : Nat → Int} {v : Int} {m i : Nat} (h : bdI V v m = some i) : ixV V v m = i := by simp [ixV, h]
theorem ixV_none {V : Nat → Int} {v : Int} {m : Nat} (h : bdI V v m = none) : ixV V v m = -1 := by simp [ixV, h]

set_option maxRecDepth 20000 in
set_option maxHeartbeats 800000 in
theorem ixAt_any (b off m c : Nat) (V : Nat → Int) (v : Int) (w : World) (h : Ints w b off m V) (hm : m ≤ 1048576) :
    Calls Try.prog 125 #[.slice (some ⟨b, off, none⟩) m c, .int .i64 v] w fun e w' => e = .returned (.int .i64 (ixV V v m)) ∧ Below w.heap.size w w' := by
  go_enter Try.func125, Try.ntmps125
  go_wp2
  go_loopw [8] (fun i wr => ∃ k : Nat, k ≤ m ∧ i = .int .i64 k ∧ Hid (∀ j, j < k → V j ≠ v) ∧ wr = w) (fun i _ => m - (intOf i).toNat)
  case atStart => exact ⟨0, Nat.zero_le _, rfl, hidden (fun j hj => by omega), rfl⟩
  case round =>
    obtain ⟨k, hk, rfl, HE, rfl⟩ := hrel
    by_cases hlt : k < m
    · have c1 := h.cell k hlt
      by_cases hv : V k = v
      · have HR := hidden (ixV_some (bdI_first HE.out hv m hlt))
        rw [hv] at c1
        clear hv
        go_wp2
        go_ret
        exact ⟨by rw [HR.out]; rfl, Below.refl _ _⟩
      · have HV := hidden hv
        have hv' : (v == V k) = false := by simpa using (fun e => hv (Eq.symm e))
        clear hv
        go_wp2
        go_roundw
        case rel => exact ⟨k + 1, by omega, by go_num, hidden (fun j hj => by
          by_cases e : j = k
          · rw [e]; exact HV.out
          · exact HE.out j (by omega)), by trivial⟩
        case measure => simp [intOf]; omega
    · have HR := hidden (ixV_none (bdI_none (V := V) (v := v) m (fun i hi => HE.out i (by omega))))
      go_wp2
      go_ret
      exact ⟨by rw [HR.out]; rfl, Below.refl _ _⟩

theorem ap_len {n : Nat} {N : Nat → ByteArray} {A : Nat → Int} {m : Nat} {V : Nat → Int} {t : Nat} {D : LsL} {k : Nat} {T : Nat → Int} (h : apC n N A m V t D k T = 0) : (putL (bdN m V D) T k).length ≤ 24 := by
  by_cases hf : bnF n N A m V t D = 0
  · by_cases hl : lF n A k T = 0
    · rw [ap_put hf hl] at h
      by_cases h2 : 24 < (putL (bdN m V D) T k).length
      · rw [if_pos h2] at h; cases h
      · omega
    · rw [ap_term hf hl] at h; exact absurd h hl
  · rw [ap_fault hf] at h; exact absurd h hf

end Go.Proofs.Ytaecahdamaidaaa
