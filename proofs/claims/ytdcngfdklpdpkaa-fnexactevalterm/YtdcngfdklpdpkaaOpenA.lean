/- An algebra that came in: what the frame tells of it. -/
import Derived.Test.YtdcngfdklpdpkaaOpenQ
import Derived.Test.YtdcngfdklpdpkaaMat
import Derived.Deep.Slices
namespace Go.Proofs.Ytdcngfdklpdpkaa
open Go.RowKit Go.WideShapes Go.Deep Go.ChangeShapes Go.ChangeAt

theorem cAl : Try.prog.cellsOf 27 = 2 := by kernel_rfl
theorem c64 : Try.prog.cellsOf 2 = 1 := by kernel_rfl
theorem cII : Try.prog.cellsOf 25 = 1 := by kernel_rfl

set_option maxRecDepth 20000 in
theorem rows_of {H : Type} {enc : TypeId × Value → H} {W : World} {spare : Nat → Bool} {fuel : Nat} {x : Value} {y : DataW H × List MemPlace}
    (hsp : ∀ b, spare b = true) (hf : DataW.trod enc Try.prog W 0 spare true fuel 25 [x] = some y) : ∃ a n c D, x = .slice a n c ∧ SrcM W a n D := by
  rcases open_slice1 Try.underlying25 (by kernel_rfl) hf with ⟨hcs, _⟩ | ⟨a, len, cap, mm, nn, V, DD, PP, hcs, _, hl, hcm, hm, _, hc⟩
  · simp at hcs
    subst hcs
    exact ⟨none, 0, 0, ⟨fun _ => 0, fun _ _ => 0⟩, rfl, by unfold maxLen; omega, Or.inl rfl⟩
  · simp at hcs
    subst hcs
    have hmm : len ≤ mm := by rw [hm, hsp]; exact hl
    have each : ∀ i, ∃ (m1 : Nat) (L1 : Nat → Int), i < len → ∃ p1 c1, W.cell? (a.add i) = some (.slice p1 m1 c1) ∧ SrcI W p1 m1 L1 ∧ m1 ≤ maxLen := by
      intro i
      by_cases hi : i < len
      · obtain ⟨e0, e2⟩ := hc i (by omega)
        obtain ⟨a1, n1, k1, z1, q1, r1⟩ := row_of hsp e2
        rw [q1] at e0
        exact ⟨n1, _, fun _ => ⟨a1, k1, e0, r1.srcI, r1.most⟩⟩
      · exact ⟨0, fun _ => 0, fun h => absurd h hi⟩
    refine ⟨some a, len, cap, ⟨fun i => (each i).choose, fun i => (each i).choose_spec.choose⟩, rfl, by omega, ?_⟩
    have each' := fun i => (each i).choose_spec.choose_spec
    by_cases h0 : len = 0
    · exact Or.inl h0
    · obtain ⟨b, off, spot⟩ := a
      obtain ⟨k0, _⟩ := hc 0 (by omega)
      have hspot : spot = none := by simpa [Addr.add] using World.cell?_spot k0
      subst hspot
      refine Or.inr ⟨b, off, rfl, fun _ => by simpa [Addr.add] using World.block_lt_of_cell? W _ k0, fun i hi => ?_⟩
      obtain ⟨p1, c1, u1, u3, u5⟩ := each' i hi
      exact ⟨p1, c1, (congrArg W.cell? (add_at b off i)).symm.trans u1, u3, u5⟩

set_option maxRecDepth 20000 in
theorem open_al {H : Type} {enc : TypeId × Value → H} {W : World} {spare : Nat → Bool} {r : Reach} {b0 : Nat} {v : Value} {d : DataW H} {ps : List MemPlace}
    (hsp : ∀ b, spare b = true) (hv : Value.okWide Try.prog W r b0 27 v) (h : DataW.Trod enc Try.prog W 0 spare true 27 v d ps) :
    ∃ z a2 n2 k2 D2, v = .agg #[.int .i64 z, .slice a2 n2 k2] ∧ (Lit.int .i64 z).wf = true ∧ SrcM W a2 n2 D2 := by
  obtain ⟨cs, rfl, hsz⟩ := okWide_struct Try.underlying27 hv
  have hsz' : cs.size = 2 := hsz.trans cAl
  obtain ⟨l⟩ := cs
  match l, hsz' with
  | [x0, x1], _ =>
    obtain ⟨fuel, hf⟩ := h
    obtain ⟨xs, m, _, _, _, hxl, hx⟩ := DataW.trod_struct Try.underlying27 hf
    have g0 := hx 0 _ rfl
    have g1 := hx 1 _ rfl
    match xs, hxl, g0, g1 with
    | [], hxl, g0, g1 => exact absurd hxl (by simp)
    | [_], hxl, g0, g1 => exact absurd hxl (by simp)
    | y :: y' :: _, _, g0, g1 =>
      simp [Value.cells, c64, cII] at g0 g1
      have u1 := rows_of hsp g1
      obtain ⟨z, hz, _, hw⟩ := DataW.trod_int Try.underlying2 g0
      clear g0 g1 hx
      obtain ⟨a2, n2, k2, D2, rfl, r2⟩ := u1
      simp at hz
      subst hz
      exact ⟨z, a2, n2, k2, D2, rfl, hw, r2⟩

end Go.Proofs.Ytdcngfdklpdpkaa
