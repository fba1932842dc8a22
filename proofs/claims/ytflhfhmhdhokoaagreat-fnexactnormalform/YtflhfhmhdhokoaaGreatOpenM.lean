/- Several texts as one: OpenQ, OpenE. -/
import Derived.Test.YtflhfhmhdhokoaaGreatInts
import Derived.Deep.SlicePairs
import Derived.ProofKit
import Derived.WalkKit
import Derived.OpenShut
import Derived.ChangeOld
import Derived.Test.YtflhfhmhdhokoaaGreatME
/- A signature that came in: what the frame tells of it. -/
namespace Go.Proofs.YtflhfhmhdhokoaaGreat
open Go.RowKit Go.WideShapes Go.Deep Go.ChangeShapes Go.ChangeAt

def strOf : Value → ByteArray
  | .string s => s
  | _ => ByteArray.empty

theorem add_at (b off i : Nat) : (⟨b, off, none⟩ : Addr).add i = ⟨b, off + i, none⟩ := by
  by_cases hi0 : i = 0 <;> simp [Addr.add, hi0]

theorem c54 : Tryz.prog.cellsOf 24 = 1 := by kernel_rfl
theorem c52 : Tryz.prog.cellsOf 22 = 1 := by kernel_rfl

set_option maxRecDepth 20000 in
theorem open_sig {H : Type} {enc : TypeId × Value → H} {W : World} {spare : Nat → Bool} {r : Reach} {b0 : Nat} {v : Value} {d : DataW H} {ps : List MemPlace}
    (hsp : ∀ b, spare b = true) (hv : Value.okWide Tryz.prog W r b0 24 v) (h : DataW.Trod enc Tryz.prog W 0 spare true 24 v d ps) :
    ∃ a n c N A, v = .agg #[.slice a n c] ∧ SrcS W a n N A := by
  obtain ⟨cs, rfl, hsz⟩ := okWide_struct Tryz.underlying24 hv
  have hsz' : cs.size = 1 := hsz.trans c54
  obtain ⟨l⟩ := cs
  match l, hsz' with
  | [c0], _ =>
    obtain ⟨fuel, hf⟩ := h
    obtain ⟨xs, m, _, _, _, hxl, hx⟩ := DataW.trod_struct Tryz.underlying24 hf
    have g0 := hx 0 _ rfl
    match xs, hxl, g0 with
    | [], hxl, g0 => exact absurd hxl (by simp)
    | y :: _, _, g0 =>
      simp [Value.cells, c52] at g0
      rcases open_slice_pairs Tryz.underlying22 Tryz.underlying84 (by kernel_rfl) rfl rfl (by kernel_rfl) (by kernel_rfl) g0 with ⟨hcs, _⟩ | ⟨a, len, cap, mm, nn, V0, V1, D0, D1, P0, P1, hcs, _, hl, hcm, hm, _, hc⟩
      · simp at hcs
        subst hcs
        exact ⟨none, 0, 0, fun _ => ByteArray.empty, fun _ => 0, rfl, by unfold maxLen; omega, Or.inl rfl⟩
      · simp at hcs
        subst hcs
        refine ⟨some a, len, cap, fun i => strOf (V0 i), fun i => intOf (V1 i), rfl, by omega, ?_⟩
        by_cases h0 : len = 0
        · exact Or.inl h0
        · have hmm : len ≤ mm := by rw [hm, hsp]; exact hl
          obtain ⟨b, off, spot⟩ := a
          obtain ⟨k0, k1, _, _⟩ := hc 0 (by omega)
          have hspot : spot = none := by simpa [Addr.add] using World.cell?_spot k0
          subst hspot
          refine Or.inr ⟨b, off, rfl, ?_⟩
          have each : ∀ i, i < len → W.cell? ⟨b, off + i * 2, none⟩ = some (.string (strOf (V0 i))) ∧ W.cell? ⟨b, off + i * 2 + 1, none⟩ = some (.int .i64 (intOf (V1 i))) ∧ (strOf (V0 i)).size ≤ maxLen ∧ -9223372036854775808 ≤ intOf (V1 i) ∧ intOf (V1 i) ≤ 9223372036854775807 := by
            intro i hi
            obtain ⟨e0, e1, e2, e3⟩ := hc i (by omega)
            obtain ⟨s, hs, _, hle⟩ := DataW.trod_string Tryz.underlying9 e2
            obtain ⟨z, hz, _, hw⟩ := DataW.trod_int Tryz.underlying2 e3
            simp at hs hz
            rw [add_at] at e0 e1
            rw [hs] at e0
            rw [hz] at e1
            rw [hs, hz]
            refine ⟨e0, by rw [Nat.add_assoc]; exact e1, hle, ?_⟩
            exact bounds_i64 hw
          exact ⟨fun _ => by simpa [Addr.add] using World.block_lt_of_cell? W _ k0, fun i hi => (each i hi).1, fun i hi => (each i hi).2.1, fun i hi => (each i hi).2.2.1, fun i hi => (each i hi).2.2.2⟩

theorem c40 : Tryz.prog.cellsOf 59 = 2 := by kernel_rfl

theorem c25 : Tryz.prog.cellsOf 26 = 1 := by kernel_rfl

theorem IsRow.most {k : IntKind} {w : World} {a : Option Addr} {len cap : Nat} {zs : List Int} (h : IsRow k w a len cap zs) : len ≤ maxLen := by
  rcases h with ⟨_, e, _⟩ | ⟨x, _, h1, h2, _⟩
  · rw [e]; exact Nat.zero_le _
  · omega

theorem row_of {H : Type} {enc : TypeId × Value → H} {W : World} {spare : Nat → Bool} {m : Nat} {x : Value} {y : DataW H × List MemPlace}
    (hsp : ∀ b, spare b = true) (h : DataW.trod enc Tryz.prog W 0 spare true m 26 [x] = some y) : ∃ a n c zs, x = .slice a n c ∧ IsRow .i64 W a n c zs := by
  rcases open_ints Tryz.underlying26 Tryz.underlying2 (by kernel_rfl) h with ⟨hcs, _⟩ | ⟨b, l, c, zs, hcs, _, hl, hm, hz, _, hcell, hwz⟩
  · simp at hcs
    subst hcs
    exact ⟨none, 0, 0, [], rfl, .inl ⟨rfl, rfl, rfl, rfl⟩⟩
  · simp at hcs
    subst hcs
    exact ⟨some b, l, c, zs, rfl, .inr ⟨_, rfl, hl, hm, by simpa [hsp] using hz, hcell, hwz⟩⟩

set_option maxRecDepth 20000 in
theorem open_eqn {H : Type} {enc : TypeId × Value → H} {W : World} {spare : Nat → Bool} {r : Reach} {b0 : Nat} {v : Value} {d : DataW H} {ps : List MemPlace}
    (hsp : ∀ b, spare b = true) (hv : Value.okWide Tryz.prog W r b0 59 v) (h : DataW.Trod enc Tryz.prog W 0 spare true 59 v d ps) :
    ∃ a1 n1 k1 L1 a2 n2 k2 L2, v = .agg #[.slice a1 n1 k1, .slice a2 n2 k2] ∧ SrcI W a1 n1 L1 ∧ n1 ≤ maxLen ∧ SrcI W a2 n2 L2 ∧ n2 ≤ maxLen := by
  obtain ⟨cs, rfl, hsz⟩ := okWide_struct Tryz.underlying59 hv
  have hsz' : cs.size = 2 := hsz.trans c40
  obtain ⟨l⟩ := cs
  match l, hsz' with
  | [x0, x1], _ =>
    obtain ⟨fuel, hf⟩ := h
    obtain ⟨xs, m, _, _, _, hxl, hx⟩ := DataW.trod_struct Tryz.underlying59 hf
    have g0 := hx 0 _ rfl
    have g1 := hx 1 _ rfl
    match xs, hxl, g0, g1 with
    | [], hxl, g0, g1 => exact absurd hxl (by simp)
    | [_], hxl, g0, g1 => exact absurd hxl (by simp)
    | y :: y' :: _, _, g0, g1 =>
      simp [Value.cells, c25] at g0 g1
      have u0 := row_of hsp g0
      have u1 := row_of hsp g1
      clear g0 g1 hx
      obtain ⟨a1, n1, k1, z1, rfl, r1⟩ := u0
      obtain ⟨a2, n2, k2, z2, rfl, r2⟩ := u1
      exact ⟨a1, n1, k1, _, a2, n2, k2, _, rfl, r1.srcI, r1.most, r2.srcI, r2.most⟩
end Go.Proofs.YtflhfhmhdhokoaaGreat

/- A list of equations that came in: what the frame tells of it. -/
namespace Go.Proofs.YtflhfhmhdhokoaaGreat
open Go.RowKit Go.WideShapes Go.Deep Go.ChangeShapes Go.ChangeAt

set_option maxRecDepth 20000 in
theorem open_eqns {H : Type} {enc : TypeId × Value → H} {W : World} {spare : Nat → Bool} {r : Reach} {b0 : Nat} {v : Value} {d : DataW H} {ps : List MemPlace}
    (hsp : ∀ b, spare b = true) (hv : Value.okWide Tryz.prog W r b0 25 v) (h : DataW.Trod enc Tryz.prog W 0 spare true 25 v d ps) :
    ∃ a n c D, v = .slice a n c ∧ SrcE W a n D := by
  obtain ⟨a0, n0, c0, rfl⟩ := okWide_slice Tryz.underlying25 hv
  obtain ⟨fuel, hf⟩ := h
  rcases open_slice_pairs Tryz.underlying25 Tryz.underlying59 (by kernel_rfl) rfl rfl (by kernel_rfl) (by kernel_rfl) hf with ⟨hcs, _⟩ | ⟨a, len, cap, mm, nn, V0, V1, D0, D1, P0, P1, hcs, _, hl, hcm, hm, _, hc⟩
  · simp [Value.cells] at hcs
    obtain ⟨rfl, rfl, rfl⟩ := hcs
    exact ⟨none, 0, 0, ⟨fun _ => 0, fun _ _ => 0, fun _ => 0, fun _ _ => 0⟩, rfl, by unfold maxLen; omega, Or.inl rfl⟩
  · simp [Value.cells] at hcs
    obtain ⟨rfl, rfl, rfl⟩ := hcs
    have hmm : n0 ≤ mm := by rw [hm, hsp]; exact hl
    have each : ∀ i, ∃ (m1 : Nat) (L1 : Nat → Int) (m2 : Nat) (L2 : Nat → Int), i < n0 → ∃ p1 c1 p2 c2, W.cell? (a.add (i * 2)) = some (.slice p1 m1 c1) ∧ W.cell? (a.add (i * 2 + 1)) = some (.slice p2 m2 c2) ∧ SrcI W p1 m1 L1 ∧ SrcI W p2 m2 L2 ∧ m1 ≤ maxLen ∧ m2 ≤ maxLen := by
      intro i
      by_cases hi : i < n0
      · obtain ⟨e0, e1, e2, e3⟩ := hc i (by omega)
        obtain ⟨a1, n1, k1, z1, q1, r1⟩ := row_of hsp e2
        obtain ⟨a2, n2, k2, z2, q2, r2⟩ := row_of hsp e3
        rw [q1] at e0
        rw [q2] at e1
        exact ⟨n1, _, n2, _, fun _ => ⟨a1, k1, a2, k2, e0, e1, r1.srcI, r2.srcI, r1.most, r2.most⟩⟩
      · exact ⟨0, fun _ => 0, 0, fun _ => 0, fun h => absurd h hi⟩
    refine ⟨some a, n0, c0, ⟨fun i => (each i).choose, fun i => (each i).choose_spec.choose, fun i => (each i).choose_spec.choose_spec.choose, fun i => (each i).choose_spec.choose_spec.choose_spec.choose⟩, rfl, by omega, ?_⟩
    have each' := fun i => (each i).choose_spec.choose_spec.choose_spec.choose_spec
    by_cases h0 : n0 = 0
    · exact Or.inl h0
    · obtain ⟨b, off, spot⟩ := a
      obtain ⟨k0, k1, _, _⟩ := hc 0 (by omega)
      have hspot : spot = none := by simpa [Addr.add] using World.cell?_spot k0
      subst hspot
      refine Or.inr ⟨b, off, rfl, fun _ => by simpa [Addr.add] using World.block_lt_of_cell? W _ k0, fun i hi => ?_⟩
      obtain ⟨p1, c1, p2, c2, u1, u2, u3, u4, u5, u6⟩ := each' i hi
      exact ⟨p1, c1, p2, c2, (congrArg W.cell? (add_at b off (i * 2))).symm.trans u1, (congrArg W.cell? (add_at b off (i * 2 + 1))).symm.trans u2, u3, u4, u5, u6⟩

end Go.Proofs.YtflhfhmhdhokoaaGreat
