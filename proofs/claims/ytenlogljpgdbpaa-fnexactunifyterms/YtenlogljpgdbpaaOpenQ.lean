/- A signature that came in: what the frame tells of it. -/
import Derived.Test.YtenlogljpgdbpaaInts
import Derived.Deep.SlicePairs
import Derived.ProofKit
import Derived.WalkKit
import Derived.OpenShut
import Derived.ChangeOld
namespace Go.Proofs.Ytenlogljpgdbpaa
open Go.RowKit Go.WideShapes Go.Deep Go.ChangeShapes Go.ChangeAt

def strOf : Value → ByteArray
  | .string s => s
  | _ => ByteArray.empty

theorem add_at (b off i : Nat) : (⟨b, off, none⟩ : Addr).add i = ⟨b, off + i, none⟩ := by
  by_cases hi0 : i = 0 <;> simp [Addr.add, hi0]

theorem c54 : Try.prog.cellsOf 24 = 1 := by kernel_rfl
theorem c52 : Try.prog.cellsOf 22 = 1 := by kernel_rfl

set_option maxRecDepth 20000 in
theorem open_sig {H : Type} {enc : TypeId × Value → H} {W : World} {spare : Nat → Bool} {r : Reach} {b0 : Nat} {v : Value} {d : DataW H} {ps : List MemPlace}
    (hsp : ∀ b, spare b = true) (hv : Value.okWide Try.prog W r b0 24 v) (h : DataW.Trod enc Try.prog W 0 spare true 24 v d ps) :
    ∃ a n c N A, v = .agg #[.slice a n c] ∧ SrcS W a n N A := by
  obtain ⟨cs, rfl, hsz⟩ := okWide_struct Try.underlying24 hv
  have hsz' : cs.size = 1 := hsz.trans c54
  obtain ⟨l⟩ := cs
  match l, hsz' with
  | [c0], _ =>
    obtain ⟨fuel, hf⟩ := h
    obtain ⟨xs, m, _, _, _, hxl, hx⟩ := DataW.trod_struct Try.underlying24 hf
    have g0 := hx 0 _ rfl
    match xs, hxl, g0 with
    | [], hxl, g0 => exact absurd hxl (by simp)
    | y :: _, _, g0 =>
      simp [Value.cells, c52] at g0
      rcases open_slice_pairs Try.underlying22 Try.underlying91 (by kernel_rfl) rfl rfl (by kernel_rfl) (by kernel_rfl) g0 with ⟨hcs, _⟩ | ⟨a, len, cap, mm, nn, V0, V1, D0, D1, P0, P1, hcs, _, hl, hcm, hm, _, hc⟩
      · simp at hcs
        subst hcs
        exact ⟨none, 0, 0, fun _ => ByteArray.empty, fun _ => 0, rfl, by unfold maxLen; omega, Or.inl rfl⟩
      · simp at hcs
        subst hcs
        refine ⟨some a, len, cap, fun i => strOf (V0 i), fun i => intOf (V1 i), rfl, by omega, ?_⟩
        by_cases h0 : len = 0
        · exact Or.inl h0
        · have hmm : len ≤ mm := by rw [hm, hsp]; exact hl
          obtain ⟨b, off, spot⟩ := a
          obtain ⟨k0, k1, _, _⟩ := hc 0 (by omega)
          have hspot : spot = none := by simpa [Addr.add] using World.cell?_spot k0
          subst hspot
          refine Or.inr ⟨b, off, rfl, ?_⟩
          have each : ∀ i, i < len → W.cell? ⟨b, off + i * 2, none⟩ = some (.string (strOf (V0 i))) ∧ W.cell? ⟨b, off + i * 2 + 1, none⟩ = some (.int .i64 (intOf (V1 i))) ∧ (strOf (V0 i)).size ≤ maxLen ∧ -9223372036854775808 ≤ intOf (V1 i) ∧ intOf (V1 i) ≤ 9223372036854775807 := by
            intro i hi
            obtain ⟨e0, e1, e2, e3⟩ := hc i (by omega)
            obtain ⟨s, hs, _, hle⟩ := DataW.trod_string Try.underlying9 e2
            obtain ⟨z, hz, _, hw⟩ := DataW.trod_int Try.underlying2 e3
            simp at hs hz
            rw [add_at] at e0 e1
            rw [hs] at e0
            rw [hz] at e1
            rw [hs, hz]
            refine ⟨e0, by rw [Nat.add_assoc]; exact e1, hle, ?_⟩
            exact bounds_i64 hw
          exact ⟨fun _ => by simpa [Addr.add] using World.block_lt_of_cell? W _ k0, fun i hi => (each i hi).1, fun i hi => (each i hi).2.1, fun i hi => (each i hi).2.2.1, fun i hi => (each i hi).2.2.2⟩

theorem c25 : Try.prog.cellsOf 25 = 1 := by kernel_rfl

theorem IsRow.most {k : IntKind} {w : World} {a : Option Addr} {len cap : Nat} {zs : List Int} (h : IsRow k w a len cap zs) : len ≤ maxLen := by
  rcases h with ⟨_, e, _⟩ | ⟨x, _, h1, h2, _⟩
  · rw [e]; exact Nat.zero_le _
  · omega

theorem row_of {H : Type} {enc : TypeId × Value → H} {W : World} {spare : Nat → Bool} {m : Nat} {x : Value} {y : DataW H × List MemPlace}
    (hsp : ∀ b, spare b = true) (h : DataW.trod enc Try.prog W 0 spare true m 25 [x] = some y) : ∃ a n c zs, x = .slice a n c ∧ IsRow .i64 W a n c zs := by
  rcases open_ints Try.underlying25 Try.underlying2 (by kernel_rfl) h with ⟨hcs, _⟩ | ⟨b, l, c, zs, hcs, _, hl, hm, hz, _, hcell, hwz⟩
  · simp at hcs
    subst hcs
    exact ⟨none, 0, 0, [], rfl, .inl ⟨rfl, rfl, rfl, rfl⟩⟩
  · simp at hcs
    subst hcs
    exact ⟨some b, l, c, zs, rfl, .inr ⟨_, rfl, hl, hm, by simpa [hsp] using hz, hcell, hwz⟩⟩
