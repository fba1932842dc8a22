/- Contract: slices.Backward: a list's elements from the last one to the first. -/
import Derived.Test.YtdcngfdklpdpkaaAlR
namespace Go.Proofs.Ytdcngfdklpdpkaa
open Go.RowKit Go.Shelf

attribute [local go_sem] Oper.semAt_some

set_option maxRecDepth 20000 in
set_option maxHeartbeats 400000 in
theorem backward_any (p' : Option Addr) (m c' : Nat) (w : World) :
    Calls Try.prog 94 #[.slice p' m c'] w fun e w' => e = .returned (.func (.func 110) #[] #[.pointer (some ⟨w.heap.size, 0, none⟩)]) ∧ w' = w.alloc (.cells #[.slice p' m c'] 47) := by
  have hmf : ∀ (fn : Fn) (first cap : Array Value) (w : World), (Instr.makeFunc fn first cap).run Try.prog w = .ok (.func fn first cap) w := fun _ _ _ _ => rfl
  go_enter Try.func94, Try.ntmps94
  go_wp2
  go_ret
  exact ⟨rfl, rfl⟩

/-- What slices.Backward tells in its k-th round. -/
def bkT (m : Nat) (T : Nat → Int) (k : Nat) : Array Value := #[Value.int .i64 ((m - 1 - k : Nat) : Int), Value.int .i64 (T (m - 1 - k))]

set_option maxRecDepth 100000 in
set_option maxHeartbeats 2000000 in
theorem back_turns (k0 : Nat) (hn : 1 ≤ k0) (Bs X B b' o m cap : Nat) (T : Nat → Int) (hm : m ≤ 24) (w : World)
    (hb' : b' < B ∧ b' ≠ X ∧ b' ≠ X + 1 ∧ b' < w.heap.size) (hBs : Bs < B ∧ Bs ≠ X ∧ Bs ≠ X + 1 ∧ Bs < w.heap.size)
    (hct0 : w.cell? ⟨Bs, 0, none⟩ = some (.slice (some ⟨b', o, none⟩) m cap)) (hc0 : ∀ j, j < m → w.cell? ⟨b', o + j, none⟩ = some (.int .i64 (T j))) :
    Turns Fence.wide k0 Try.prog 110 #[.pointer (some ⟨Bs, 0, none⟩)] (bkT m T) (BuQ X B) m w := by
  intro l J W hW hY h0
  have hct := (hW.cell (p := ⟨Bs, 0, none⟩) hBs.2.2.2).trans hct0
  have HC := hidden (show ∀ j, j < m → W.cell? ⟨b', o + j, none⟩ = some (.int .i64 (T j)) from fun j hj => (hW.cell (p := ⟨b', o + j, none⟩) hb'.2.2.2).trans (hc0 j hj))
  show CallsIn Fence.wide k0 Try.prog 110 #[.func (.yield l) #[] #[], .pointer (some ⟨Bs, 0, none⟩)] W _
  refine callsIn_of_wp Try.func110 rfl trivial ?_ rfl
  simp only [Try.ntmps110, List.size_toArray, List.length_cons, List.length_nil, Nat.reduceAdd, Nat.reduceSub, Array.replicate_succ, Array.replicate_zero, List.push_toArray, List.append_toArray, List.nil_append, List.cons_append]
  have HY := hidden hY
  have HT := hidden hct
  have H0 := hidden h0
  have hc1 := hct
  clear hc0 hct0 hY h0 hct hW
  gi_wp2
  gi_loopw [3] (fun i wr => ∃ (x : Int) (p : Nat), p ≤ m ∧ i = .int .i64 x ∧ x = (p : Int) - 1 ∧ Hid (J (m - p) wr) ∧ Hid (BuQ X B W wr))
    (fun i _ => (intOf i + 1).toNat)
  case atStart => exact ⟨_, m, Nat.le_refl _, rfl, by first | rfl | omega | go_num, by rw [Nat.sub_self]; exact H0, hidden (BuQ.refl _ _ _)⟩
  case round =>
    obtain ⟨x, p, hp, rfl, hx, HI, HB⟩ := hrel
    by_cases hlt : 0 < p
    · obtain ⟨q, rfl⟩ : ∃ q, p = q + 1 := ⟨p - 1, by omega⟩
      obtain rfl : x = (q : Int) := by omega
      have hqm : q < m := by omega
      have c1 : wr.cell? ⟨b', o + q, none⟩ = some (.int .i64 (T q)) := (HB.out.cell hb'.1 hb'.2.1 hb'.2.2.1).trans (HC.out q (by omega))
      have c2 : wr.cell? ⟨Bs, 0, none⟩ = some (.slice (some ⟨b', o, none⟩) m cap) := (HB.out.cell hBs.1 hBs.2.1 hBs.2.2.1).trans HT.out
      have HU := hidden (show m - q = m - (q + 1) + 1 by omega)
      obtain ⟨fn, tmps, assign, body, hy, hR⟩ := HY.out (m - (q + 1)) wr (by omega) HI.out
      simp only [bkT, show m - 1 - (m - (q + 1)) = q by omega] at hy hR
      generalize T q = y at c1 hy hR
      clear hc1 hx HI
      gi_wp2
      refine hR.mono ?_
      rintro e W3 ⟨rfl, hJ3, hk3⟩
      have HJ3 := hidden hJ3
      have HB3 := hidden (HB.out.trans hk3)
      clear hJ3 hk3 hR hy HB c1 c2
      gi_wp2
      go_roundw
      case rel => exact ⟨_, q, by omega, rfl, by first | rfl | omega | go_num, hidden (by rw [HU.out]; exact HJ3.out), HB3⟩
      case measure => simp [intOf]
    · obtain rfl : p = 0 := by omega
      have hx0 : ¬ (0 : Int) ≤ x := by omega
      have hx1 : x < 0 := by omega
      clear hc1 hx
      gi_wp2
      go_end0
      exact ⟨⟨_, rfl⟩, HI.out⟩

end Go.Proofs.Ytdcngfdklpdpkaa
