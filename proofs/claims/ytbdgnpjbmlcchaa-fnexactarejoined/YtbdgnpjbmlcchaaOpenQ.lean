/- A signature that came in: what the frame tells of it. -/
import Derived.Test.YtbdgnpjbmlcchaaInts
import Derived.Deep.SlicePairs
import Derived.ProofKit
import Derived.WalkKit
import Derived.OpenShut
import Derived.ChangeOld
namespace Go.Proofs.Ytbdgnpjbmlcchaa
open Go.RowKit Go.WideShapes Go.Deep Go.ChangeShapes Go.ChangeAt

def strOf : Value → ByteArray
  | .string s => s
  | _ => ByteArray.empty

theorem add_at (b off i : Nat) : (⟨b, off, none⟩ : Addr).add i = ⟨b, off + i, none⟩ := by
  by_cases hi0 : i = 0 <;> simp [Addr.add, hi0]

theorem c54 : Try.prog.cellsOf 24 = 1 := by kernel_rfl
theorem c52 : Try.prog.cellsOf 22 = 1 := by kernel_rfl

set_option maxRecDepth 20000 in
theorem open_sig {H : Type} {enc : TypeId × Value → H} {W : World} {spare : Nat → Bool} {r : Reach} {b0 : Nat} {v : Value} {d : DataW H} {ps : List MemPlace}
    (hsp : ∀ b, spare b = true) (hv : Value.okWide Try.prog W r b0 24 v) (h : DataW.Trod enc Try.prog W 0 spare true 24 v d ps) :
    ∃ a n c N A, v = .agg #[.slice a n c] ∧ SrcS W a n N A := by
  obtain ⟨cs, rfl, hsz⟩ := okWide_struct Try.underlying24 hv
  have hsz' : cs.size = 1 := hsz.trans c54
  obtain ⟨l⟩ := cs
  match l, hsz' with
  | [c0], _ =>
    obtain ⟨fuel, hf⟩ := h
    obtain ⟨xs, m, _, _, _, hxl, hx⟩ := DataW.trod_struct Try.underlying24 hf
    have g0 := hx 0 _ rfl
    match xs, hxl, g0 with
    | [], hxl, g0 => exact absurd hxl (by simp)
    | y :: _, _, g0 =>
      simp [Value.cells, c52] at g0
      rcases open_slice_pairs Try.underlying22 Try.underlying63 (by kernel_rfl) rfl rfl (by kernel_rfl) (by kernel_rfl) g0 with ⟨hcs, _⟩ | ⟨a, len, cap, mm, nn, V0, V1, D0, D1, P0, P1, hcs, _, hl, hcm, hm, _, hc⟩
      · simp at hcs
        subst hcs
        exact ⟨none, 0, 0, fun _ => ByteArray.empty, fun _ => 0, rfl, by unfold maxLen; omega, Or.inl rfl⟩
      · simp at hcs
        subst hcs
        refine ⟨some a, len, cap, fun i => strOf (V0 i), fun i => intOf (V1 i), rfl, by omega, ?_⟩
        by_cases h0 : len = 0
        · exact Or.inl h0
        · have hmm : len ≤ mm := by rw [hm, hsp]; exact hl
          obtain ⟨b, off, spot⟩ := a
          obtain ⟨k0, k1, _, _⟩ := hc 0 (by omega)
          have hspot : spot = none := by simpa [Addr.add] using World.cell?_spot k0
          subst hspot
          refine Or.inr ⟨b, off, rfl, ?_⟩
          have each : ∀ i, i < len → W.cell? ⟨b, off + i * 2, none⟩ = some (.string (strOf (V0 i))) ∧ W.cell? ⟨b, off + i * 2 + 1, none⟩ = some (.int .i64 (intOf (V1 i))) ∧ (strOf (V0 i)).size ≤ maxLen ∧ -9223372036854775808 ≤ intOf (V1 i) ∧ intOf (V1 i) ≤ 9223372036854775807 := by
            intro i hi
            obtain ⟨e0, e1, e2, e3⟩ := hc i (by omega)
            obtain ⟨s, hs, _, hle⟩ := DataW.trod_string Try.underlying9 e2
            obtain ⟨z, hz, _, hw⟩ := DataW.trod_int Try.underlying2 e3
            simp at hs hz
            rw [add_at] at e0 e1
            rw [hs] at e0
            rw [hz] at e1
            rw [hs, hz]
            refine ⟨e0, by rw [Nat.add_assoc]; exact e1, hle, ?_⟩
            exact bounds_i64 hw
          exact ⟨fun _ => by simpa [Addr.add] using World.block_lt_of_cell? W _ k0, fun i hi => (each i hi).1, fun i hi => (each i hi).2.1, fun i hi => (each i hi).2.2.1, fun i hi => (each i hi).2.2.2⟩

theorem c40 : Try.prog.cellsOf 47 = 2 := by kernel_rfl

theorem c25 : Try.prog.cellsOf 26 = 1 := by kernel_rfl

theorem IsRow.most {k : IntKind} {w : World} {a : Option Addr} {len cap : Nat} {zs : List Int} (h : IsRow k w a len cap zs) : len ≤ maxLen := by
  rcases h with ⟨_, e, _⟩ | ⟨x, _, h1, h2, _⟩
  · rw [e]; exact Nat.zero_le _
  · omega

theorem row_of {H : Type} {enc : TypeId × Value → H} {W : World} {spare : Nat → Bool} {m : Nat} {x : Value} {y : DataW H × List MemPlace}
    (hsp : ∀ b, spare b = true) (h : DataW.trod enc Try.prog W 0 spare true m 26 [x] = some y) : ∃ a n c zs, x = .slice a n c ∧ IsRow .i64 W a n c zs := by
  rcases open_ints Try.underlying26 Try.underlying2 (by kernel_rfl) h with ⟨hcs, _⟩ | ⟨b, l, c, zs, hcs, _, hl, hm, hz, _, hcell, hwz⟩
  · simp at hcs
    subst hcs
    exact ⟨none, 0, 0, [], rfl, .inl ⟨rfl, rfl, rfl, rfl⟩⟩
  · simp at hcs
    subst hcs
    exact ⟨some b, l, c, zs, rfl, .inr ⟨_, rfl, hl, hm, by simpa [hsp] using hz, hcell, hwz⟩⟩

set_option maxRecDepth 20000 in
theorem open_eqn {H : Type} {enc : TypeId × Value → H} {W : World} {spare : Nat → Bool} {r : Reach} {b0 : Nat} {v : Value} {d : DataW H} {ps : List MemPlace}
    (hsp : ∀ b, spare b = true) (hv : Value.okWide Try.prog W r b0 47 v) (h : DataW.Trod enc Try.prog W 0 spare true 47 v d ps) :
    ∃ a1 n1 k1 L1 a2 n2 k2 L2, v = .agg #[.slice a1 n1 k1, .slice a2 n2 k2] ∧ SrcI W a1 n1 L1 ∧ n1 ≤ maxLen ∧ SrcI W a2 n2 L2 ∧ n2 ≤ maxLen := by
  obtain ⟨cs, rfl, hsz⟩ := okWide_struct Try.underlying47 hv
  have hsz' : cs.size = 2 := hsz.trans c40
  obtain ⟨l⟩ := cs
  match l, hsz' with
  | [x0, x1], _ =>
    obtain ⟨fuel, hf⟩ := h
    obtain ⟨xs, m, _, _, _, hxl, hx⟩ := DataW.trod_struct Try.underlying47 hf
    have g0 := hx 0 _ rfl
    have g1 := hx 1 _ rfl
    match xs, hxl, g0, g1 with
    | [], hxl, g0, g1 => exact absurd hxl (by simp)
    | [_], hxl, g0, g1 => exact absurd hxl (by simp)
    | y :: y' :: _, _, g0, g1 =>
      simp [Value.cells, c25] at g0 g1
      have u0 := row_of hsp g0
      have u1 := row_of hsp g1
      clear g0 g1 hx
      obtain ⟨a1, n1, k1, z1, rfl, r1⟩ := u0
      obtain ⟨a2, n2, k2, z2, rfl, r2⟩ := u1
      exact ⟨a1, n1, k1, _, a2, n2, k2, _, rfl, r1.srcI, r1.most, r2.srcI, r2.most⟩
end Go.Proofs.Ytbdgnpjbmlcchaa
