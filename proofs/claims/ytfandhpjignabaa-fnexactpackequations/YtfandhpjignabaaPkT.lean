/- Contracts: a term as bytes: the program's packNodes; PackTerm of the model and of the program. -/
import Derived.Test.YtfandhpjignabaaPk
import Derived.Test.YtfandhpjignabaaSub
namespace Go.Proofs.Ytfandhpjignabaa
open Go.RowKit

theorem packV_set (T : Nat → Int) (m k : Nat) (hk : k < m) : (packV T k ++ List.replicate (m - k) (Value.int .u8 0)).set k (.int .u8 (bytN (T k))) = packV T (k + 1) ++ List.replicate (m - (k + 1)) (Value.int .u8 0) := by
  rw [show m - k = (m - (k + 1)) + 1 by omega, List.replicate_succ, List.set_append_right _ _ (by rw [packV_len]; exact Nat.le_refl _), packV_len, Nat.sub_self, List.set_cons_zero, packV_succ, List.append_assoc]
  rfl

set_option maxRecDepth 20000 in
set_option maxHeartbeats 1600000 in
theorem packNodes_any (b off m c : Nat) (T : Nat → Int) (w : World) (h : Ints w b off m T) (hm : m ≤ 24) (hT : ∀ i, i < m → -12 ≤ T i ∧ T i ≤ 5) :
    Calls Try.prog 57 #[.slice (some ⟨b, off, none⟩) m c] w fun e w' => ∃ g d, e = .returned (.slice (some ⟨g, 0, none⟩) m d) ∧ w.heap.size ≤ g ∧ OwnR w' w.heap.size g m d (packV T m) ∧ Below w.heap.size w w' := by
  have HT := hidden hT
  have H := hidden h
  obtain ⟨w1, hmk, how, hgr⟩ := run_make_full (P := Try.prog) w w.heap.size 25 5 _ (.int .u8 0) 1 Try.underlying25 rfl rfl rfl .i64 .i64 m (by show 1 * m ≤ _; omega) (by unfold maxLen; omega) (Nat.le_refl _)
  have e : (madeCells (Value.int IntKind.u8 0).cells (m * 1)).toList = List.replicate m (Value.int .u8 0) := by
    rw [Nat.mul_one]; exact toList_madeCells_one _ _
  rw [e] at how
  have HO := hidden how
  have HG := hidden hgr
  clear hT h how hgr e
  go_enter Try.func57, Try.ntmps57
  go_wp2
  go_loopw [11] (fun i wr => ∃ k : Nat, k ≤ m ∧ i = .int .i64 k ∧ Hid (OwnR wr w.heap.size w.heap.size m m (packV T k ++ List.replicate (m - k) (Value.int .u8 0)) ∧ Below w.heap.size w wr)) (fun i _ => m - (intOf i).toNat)
  case atStart => exact ⟨0, Nat.zero_le _, rfl, hidden ⟨by simpa [packV, packT, OwnR] using HO.out, (Below.refl _ _).grown HG.out (Nat.le_refl _) (fun k hk => by cases hk)⟩⟩
  case round =>
    obtain ⟨k, hk, rfl, HI⟩ := hrel
    by_cases hlt : k < m
    · have c1 := (H.out.keep HI.out.2).cell k hlt
      have ht := HT.out k hlt
      have HST := hidden (packV_set T m k hlt)
      clear hmk
      generalize T k = x at *
      go_wp2_with fail
      with_reducible refine (byteOf_any _ _ ht).mono ?_
      rintro e w2 ⟨rfl, hb⟩
      have O1 := HI.out.1.keep hb
      have B1 := keepB HI.out.2 hb
      have hfr := World.ownsRow.frozenAt O1 k
      have hl : (packV T k ++ List.replicate (m - k) (Value.int .u8 0)).length = m := by simp [packV_len]; omega
      have hst := World.ownsRow.cellAt O1 k (by omega)
      have hs2 := World.ownsRow.stored O1 k (.int .u8 (bytN x))
      rw [HST.out] at hs2
      rw [List.getElem?_eq_getElem (by omega)] at hst
      have HS := hidden (And.intro hs2.1 (B1.grown hs2.2 B1.size (fun j hj => by cases hj; exact Nat.le_refl _)))
      generalize (packV T k ++ List.replicate (m - k) (Value.int .u8 0))[k]'(by omega) = u at hst
      generalize bytN x = y at *
      clear hb O1 B1 hs2 HST HI c1 hl
      go_wp2
      go_roundw
      case rel => exact ⟨k + 1, by omega, by go_num, hidden ⟨HS.out.1, HS.out.2⟩⟩
      case measure => simp [intOf]; omega
    · obtain rfl : m = k := by omega
      go_wp2
      go_ret
      exact ⟨_, _, rfl, Nat.le_refl _, by simpa using HI.out.1, HI.out.2⟩

end Go.Proofs.Ytfandhpjignabaa
