/- A list of equations that came in: what the frame tells of it. -/
import Derived.Test.YtbdgnpjbmlcchaaOpenQ
import Derived.Test.YtbdgnpjbmlcchaaME
namespace Go.Proofs.Ytbdgnpjbmlcchaa
open Go.RowKit Go.WideShapes Go.Deep Go.ChangeShapes Go.ChangeAt

set_option maxRecDepth 20000 in
theorem open_eqns {H : Type} {enc : TypeId × Value → H} {W : World} {spare : Nat → Bool} {r : Reach} {b0 : Nat} {v : Value} {d : DataW H} {ps : List MemPlace}
    (hsp : ∀ b, spare b = true) (hv : Value.okWide Try.prog W r b0 25 v) (h : DataW.Trod enc Try.prog W 0 spare true 25 v d ps) :
    ∃ a n c D, v = .slice a n c ∧ SrcE W a n D := by
  obtain ⟨a0, n0, c0, rfl⟩ := okWide_slice Try.underlying25 hv
  obtain ⟨fuel, hf⟩ := h
  rcases open_slice_pairs Try.underlying25 Try.underlying47 (by kernel_rfl) rfl rfl (by kernel_rfl) (by kernel_rfl) hf with ⟨hcs, _⟩ | ⟨a, len, cap, mm, nn, V0, V1, D0, D1, P0, P1, hcs, _, hl, hcm, hm, _, hc⟩
  · simp [Value.cells] at hcs
    obtain ⟨rfl, rfl, rfl⟩ := hcs
    exact ⟨none, 0, 0, ⟨fun _ => 0, fun _ _ => 0, fun _ => 0, fun _ _ => 0⟩, rfl, by unfold maxLen; omega, Or.inl rfl⟩
  · simp [Value.cells] at hcs
    obtain ⟨rfl, rfl, rfl⟩ := hcs
    have hmm : n0 ≤ mm := by rw [hm, hsp]; exact hl
    have each : ∀ i, ∃ (m1 : Nat) (L1 : Nat → Int) (m2 : Nat) (L2 : Nat → Int), i < n0 → ∃ p1 c1 p2 c2, W.cell? (a.add (i * 2)) = some (.slice p1 m1 c1) ∧ W.cell? (a.add (i * 2 + 1)) = some (.slice p2 m2 c2) ∧ SrcI W p1 m1 L1 ∧ SrcI W p2 m2 L2 ∧ m1 ≤ maxLen ∧ m2 ≤ maxLen := by
      intro i
      by_cases hi : i < n0
      · obtain ⟨e0, e1, e2, e3⟩ := hc i (by omega)
        obtain ⟨a1, n1, k1, z1, q1, r1⟩ := row_of hsp e2
        obtain ⟨a2, n2, k2, z2, q2, r2⟩ := row_of hsp e3
        rw [q1] at e0
        rw [q2] at e1
        exact ⟨n1, _, n2, _, fun _ => ⟨a1, k1, a2, k2, e0, e1, r1.srcI, r2.srcI, r1.most, r2.most⟩⟩
      · exact ⟨0, fun _ => 0, 0, fun _ => 0, fun h => absurd h hi⟩
    refine ⟨some a, n0, c0, ⟨fun i => (each i).choose, fun i => (each i).choose_spec.choose, fun i => (each i).choose_spec.choose_spec.choose, fun i => (each i).choose_spec.choose_spec.choose_spec.choose⟩, rfl, by omega, ?_⟩
    have each' := fun i => (each i).choose_spec.choose_spec.choose_spec.choose_spec
    by_cases h0 : n0 = 0
    · exact Or.inl h0
    · obtain ⟨b, off, spot⟩ := a
      obtain ⟨k0, k1, _, _⟩ := hc 0 (by omega)
      have hspot : spot = none := by simpa [Addr.add] using World.cell?_spot k0
      subst hspot
      refine Or.inr ⟨b, off, rfl, fun _ => by simpa [Addr.add] using World.block_lt_of_cell? W _ k0, fun i hi => ?_⟩
      obtain ⟨p1, c1, p2, c2, u1, u2, u3, u4, u5, u6⟩ := each' i hi
      exact ⟨p1, c1, p2, c2, (congrArg W.cell? (add_at b off (i * 2))).symm.trans u1, (congrArg W.cell? (add_at b off (i * 2 + 1))).symm.trans u2, u3, u4, u5, u6⟩

end Go.Proofs.Ytbdgnpjbmlcchaa
