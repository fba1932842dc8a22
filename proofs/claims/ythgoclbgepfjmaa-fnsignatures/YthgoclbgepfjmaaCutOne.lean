/- Contracts: all symbols are cut off bytes: one byte alone; any bytes. -/
import Derived.Test.YthgoclbgepfjmaaCuts
namespace Go.Proofs.Ythgoclbgepfjmaa
open Go.RowKit

/-- What cutSymbols answers. -/
def CutAns (w : World) (l : List Int) (q : Nat) (e : Ending) (w' : World) : Prop :=
  (fit l q ∧ ∃ v, e = .returned (.tuple #[.agg #[v], .bool true]) ∧ SymRow w' w.heap.size v q (nmOf l) (arOf l)) ∨ (¬ fit l q ∧ e = .returned noSig)

set_option maxRecDepth 20000 in
set_option maxHeartbeats 3200000 in
theorem cutSymbols_one (b : Nat) (l : List Int) (w : World) (h : Byt.Row w b 0 1 l) (q : Nat) (hq : l.getD 0 0 = q) :
    Calls Try.prog 49 #[.slice (some ⟨b, 0, none⟩) 1 1] w fun e w' => CutAns w l q e w' ∧ Below w.heap.size w w' := by
  have c0 := fun ob => rowCell h (show 0 < 1 by omega) ob
  rw [hq] at c0
  simp only [Nat.add_zero] at c0
  have hq' : q ≤ 255 := by have := h.byt 0; omega
  have c0d : ∀ ob, (w.alloc ob).drew.cell? ⟨b, 0, none⟩ = some (.int .u8 (q : Int)) := c0
  have HV := hidden (CutInv.new w l)
  by_cases hz : q = 0
  · subst hz
    have r0 := HV.out.r0
    have rf := HV.out.rf
    clear hq
    go_enter Try.func49, Try.ntmps49
    go_wp2
    go_big_region
    clear c0 c0d
    go_wp2
    refine wp_loop_rounds 1 ?_
    rw [rounds_succ]
    go_wp2
    refine bodyPost_ret (v := .tuple #[.agg #[.slice none 0 0], .bool true]) (by simp [results, Try.results49, go_sem, r0]) rfl ⟨Or.inl ⟨fun i hi => by omega, _, rfl, [], ⟨rfl, Or.inl ⟨rfl, rfl⟩⟩, fun i hi => by omega⟩, ?_⟩
    first | exact HV.out.bel | exact HV.out.bel.setCell (by simp) _
  · have HNF := hidden (show ¬ fit l q from fun hf => by have := hf 0 (by omega); rw [h.len] at this; have e : pos l 0 = 1 := rfl; omega)
    have hq0 : (0 : Int) < q := by omega
    clear hq
    go_enter Try.func49, Try.ntmps49
    go_wp2
    go_big_region
    clear c0 c0d
    go_wp2
    refine wp_loop_rounds 1 ?_
    rw [rounds_succ]
    go_wp2_with fail
    refine (cutSymbol_none _ _ _).mono ?_
    rintro e w1 ⟨rfl, hb⟩
    have V1 := hidden ((HV.out.keep hb).keep (alloc_below _ (.cells #[.string ByteArray.empty, .int .i64 0] 41)))
    have r0 := V1.out.r0
    have rf := V1.out.rf
    unfold noSym
    clear hb HV
    go_wp2
    exact bodyPost_ret (v := noSig) (by simp [results, Try.results49, go_sem, noSig, r0]) rfl ⟨Or.inr ⟨HNF.out, rfl⟩, V1.out.bel.setCell (by simp) _⟩

theorem cutSymbols_all (b n c : Nat) (l : List Int) (w : World) (h : Byt.Row w b 0 n l) (hc : n ≤ c) (hx : n ≤ 1048576 ∧ c ≤ 9223372036854775807) (hn : 0 < n) (q : Nat) (hq : l.getD 0 0 = q) :
    Calls Try.prog 49 #[.slice (some ⟨b, 0, none⟩) n c] w fun e w' => CutAns w l q e w' ∧ Below w.heap.size w w' := by
  by_cases hc1 : c = 1
  · obtain rfl : n = 1 := by omega
    subst hc1
    exact cutSymbols_one b l w h q hq
  · exact cutSymbols_any b n c l w h hc hx hn hc1 q hq

end Go.Proofs.Ythgoclbgepfjmaa
