/- Contracts of the small functions that the five exact laws of this seat call: copies of byte lists, their comparison, sums, pairs. -/
import Derived.Test.YtcnkkoegfjggaaaRows
import Derived.WalkKit
import Derived.WalkSpells
import Derived.WalkLawsBesides
import Derived.Below
import Derived.Outline
import Derived.Laws.OwnMore
import Derived.Deep.QuietTactic
import Derived.BigQuiet
import Derived.OpenShut
namespace Go.Proofs.Ytcnkkoegfjggaaa.Byt
open Go.RowKit

/-- A list of bytes that came in: no byte, or a row of cells. -/
def Src (w : World) (p : Option Addr) (n : Nat) (l : List Int) : Prop :=
  l.length = n ∧ n ≤ 2000000 ∧ (∀ i, 0 ≤ l.getD i 0 ∧ l.getD i 0 ≤ 255) ∧
  (n = 0 ∨ ∃ b off, p = some ⟨b, off, none⟩ ∧ b < w.heap.size ∧ ∀ i, i < n → w.cell? ⟨b, off + i, none⟩ = some (.int .u8 (l.getD i 0)))

/-- What the frame tells of a slice of integers that came in. -/
def IsRow (k : IntKind) (w : World) (a : Option Addr) (len cap : Nat) (zs : List Int) : Prop :=
  (a = none ∧ len = 0 ∧ cap = 0 ∧ zs = []) ∨
  ∃ x, a = some x ∧ len ≤ cap ∧ cap ≤ maxLen ∧ zs.length = cap ∧ (∀ i, i < zs.length → w.cell? (x.add i) = some (.int k (zs.getD i 0))) ∧ ∀ n ∈ zs, (Lit.int k n).wf = true

theorem getD_take (zs : List Int) (n i : Nat) : (zs.take n).getD i 0 = if i < n then zs.getD i 0 else 0 := by
  simp only [List.getD_eq_getElem?_getD, List.getElem?_take]
  split <;> simp

theorem IsRow.src {w : World} {a : Option Addr} {len cap : Nat} {zs : List Int} (h : IsRow .u8 w a len cap zs) (hm : ¬ 1048576 < len) : Src w a len (zs.take len) := by
  rcases h with ⟨rfl, rfl, rfl, rfl⟩ | ⟨x, rfl, hl, _, hz, hcell, hwz⟩
  · exact ⟨rfl, by omega, fun i => by simp, Or.inl rfl⟩
  · refine ⟨by simp; omega, by omega, fun i => ?_, ?_⟩
    · have := range_u8 hwz i
      rw [getD_take, List.getD_eq_getElem?_getD]
      split <;> omega
    · by_cases h0 : len = 0
      · exact Or.inl h0
      · obtain ⟨b, off, spot⟩ := x
        have hc := hcell 0 (by omega)
        have hspot : spot = none := by simpa [Addr.add] using World.cell?_spot hc
        subst hspot
        refine Or.inr ⟨b, off, rfl, by simpa [Addr.add] using World.block_lt_of_cell? w _ hc, fun i hi => ?_⟩
        have ha : (⟨b, off, none⟩ : Addr).add i = ⟨b, off + i, none⟩ := by
          by_cases hi0 : i = 0 <;> simp [Addr.add, hi0]
        rw [getD_take, if_pos hi, ← ha]
        exact hcell i (by omega)

theorem take_map_step (l : List Int) (n k : Nat) (hn : l.length = n) (hk : k < n) :
    ((l.take k).map (Value.int .u8) ++ List.replicate (n - k) (Value.int .u8 0)).set k (.int .u8 (l.getD k 0)) = (l.take (k + 1)).map (Value.int .u8) ++ List.replicate (n - (k + 1)) (Value.int .u8 0) := by
  have e : n - k = (n - (k + 1)) + 1 := by omega
  rw [e, List.replicate_succ, List.set_append_right _ _ (by simp; omega)]
  have hl : ((l.take k).map (Value.int .u8)).length = k := by simp; omega
  rw [hl, Nat.sub_self, List.set_cons_zero, List.take_succ_eq_append_getElem (by omega), List.map_append, List.append_assoc]
  congr 1
  simp [List.getD_eq_getElem?_getD, List.getElem?_eq_getElem (show k < l.length by omega)]

set_option maxRecDepth 20000 in
set_option maxHeartbeats 400000 in
theorem toByteS_any (p : Option Addr) (n c : Nat) (l : List Int) (w : World) (h : Src w p n l) :
    Calls Try.prog 20 #[.slice p n c] w fun e w' => e = .returned (.slice (some ⟨w.heap.size, 0, none⟩) n n) ∧ w'.ownsRow w.heap.size 5 1 (.slice (some ⟨w.heap.size, 0, none⟩) n n) n (l.map (Value.int .u8)) ∧ Below w.heap.size w w' := by
  obtain ⟨hn, hmax, hbd, hsrc⟩ := h
  obtain ⟨w1, hmk, how, hgr⟩ := run_make_full (P := Try.prog) w w.heap.size 42 5 _ (.int .u8 0) 1 Try.underlying42 rfl rfl rfl .i64 .i64 n (by show 1 * n ≤ _; omega) (by unfold maxLen; omega) (Nat.le_refl _)
  go_enter Try.func20, Try.ntmps20
  go_wp2
  go_loopw [4] (fun i wr => ∃ k : Nat, k ≤ n ∧ i = .int .i64 k ∧ wr.ownsRow w.heap.size 5 1 (.slice (some ⟨w.heap.size, 0, none⟩) n n) n ((l.take k).map (Value.int .u8) ++ List.replicate (n - k) (Value.int .u8 0)) ∧ Below w.heap.size w wr) (fun i _ => n - (intOf i).toNat)
  case atStart =>
    refine ⟨0, Nat.zero_le _, rfl, ?_, (Below.refl _ _).grown hgr (Nat.le_refl _) (fun k hk => by cases hk)⟩
    have e : (madeCells (Value.int IntKind.u8 0).cells (n * 1)).toList = List.replicate n (Value.int .u8 0) := by
      rw [Nat.mul_one]; exact toList_madeCells_one _ _
    rw [e] at how
    simpa using how
  case round =>
    obtain ⟨k, hk, rfl, hown, hbel⟩ := hrel
    by_cases hlt : k < n
    · rcases hsrc with hz | ⟨b, off, rfl, hb, hcell⟩
      · omega
      have hld := hcell k hlt
      rw [← hbel.cell (p := ⟨b, off + k, none⟩) hb] at hld
      have hfr := hown.frozenAt k
      have hst := hown.cellAt k (by omega)
      have hst2 := hown.stored k (.int .u8 (l.getD k 0))
      have hstep := take_map_step l n k hn hlt
      clear hmk how hgr hcell
      rw [hstep] at hst2
      generalize l.getD k 0 = x at *
      have HS : Hid _ := hst2
      clear hst2 hstep
      go_wp2
      go_roundw
      case rel => exact ⟨k + 1, by omega, by go_num, HS.out.1, hbel.grown HS.out.2 hbel.size (fun j hj => by cases hj; exact Nat.le_refl _)⟩
      case measure => simp [intOf]; omega
    · go_wp2
      go_ret
      have e : k = n := by omega
      subst e
      refine ⟨rfl, ?_, hbel⟩
      have hown' := hown
      rw [List.take_of_length_le (by omega)] at hown'
      simpa using hown'

end Go.Proofs.Ytcnkkoegfjggaaa.Byt
