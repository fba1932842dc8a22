/- Contracts: where the term ends that begins at a place, as the model tells it. -/
import Derived.Test.YtbdgnpjbmlcchaaNode
namespace Go.Proofs.Ytbdgnpjbmlcchaa
open Go.RowKit

/-- What l3End answers. -/
def endV (a : Nat → Nat) (m p : Nat) : Int := match skip a m p 1 with | some e => (e : Int) | none => -1

theorem endV_some {a : Nat → Nat} {m p e : Nat} (h : skip a m p 1 = some e) : endV a m p = e := by simp [endV, h]
theorem endV_none {a : Nat → Nat} {m p : Nat} (h : skip a m p 1 = none) : endV a m p = -1 := by simp [endV, h]

set_option maxRecDepth 20000 in
set_option maxHeartbeats 800000 in
theorem l3End_over (B b' off' m c' : Nat) (a : Nat → Nat) (w : World) :
    Calls Try.prog 33 #[.pointer (some ⟨B, 0, none⟩), .slice (some ⟨b', off', none⟩) m c', .int .i64 m] w fun e w' => e = .returned (.int .i64 (endV a m m)) ∧ Below w.heap.size w w' := by
  have HE := hidden (endV_none (skip_end a (m := m) (p := m) 0 (Nat.le_refl _)))
  go_enter Try.func33, Try.ntmps33
  go_wp2
  go_ret
  exact ⟨by rw [HE.out]; rfl, Below.refl _ _⟩

set_option maxRecDepth 20000 in
set_option maxHeartbeats 800000 in
theorem l3End_var (B b' off' m c' p : Nat) (A T : Nat → Int) (w : World) (hm : m ≤ 24) (hp : p < m) (h' : Ints w b' off' m T) (hx : T p < 0) :
    Calls Try.prog 33 #[.pointer (some ⟨B, 0, none⟩), .slice (some ⟨b', off', none⟩) m c', .int .i64 p] w fun e w' => e = .returned (.int .i64 (endV (aOf A T) m p)) ∧ Below w.heap.size w w' := by
  have HE := hidden (endV_some (show skip (aOf A T) m p 1 = some (p + 1) by rw [skip_one _ hp, aOf_var hx, skip_zero]))
  have c1 := h'.cell p hp
  generalize T p = x at c1 hx
  go_enter Try.func33, Try.ntmps33
  go_wp2
  go_ret
  exact ⟨by rw [HE.out]; go_num, Below.refl _ _⟩

set_option maxRecDepth 20000 in
set_option maxHeartbeats 1600000 in
theorem l3End_any (B b off n c b' off' m c' : Nat) (N : Nat → ByteArray) (A T : Nat → Int) (hg : Nods n A m T) : ∀ (d p : Nat), m - p ≤ d → p ≤ m → ∀ w : World, One w B (.slice (some ⟨b, off, none⟩) n c) → Syms w b off n N A → Ints w b' off' m T →
    Calls Try.prog 33 #[.pointer (some ⟨B, 0, none⟩), .slice (some ⟨b', off', none⟩) m c', .int .i64 p] w fun e w' => e = .returned (.int .i64 (endV (aOf A T) m p)) ∧ Below w.heap.size w w' := by
  intro d
  induction d with
  | zero =>
    intro p hd hp w _ _ _
    obtain rfl : p = m := by omega
    exact l3End_over B b' off' p c' _ w
  | succ d ih =>
    intro p hd hp w h0 h h'
    by_cases hpm : p = m
    · subst hpm; exact l3End_over B b' off' p c' _ w
    have hlt : p < m := by omega
    by_cases hx : T p < 0
    · exact l3End_var B b' off' m c' p A T w hg.most hlt h' hx
    rcases nodeB_cases (hg.node p hlt) with ⟨j, e, hj⟩ | hv
    rotate_left
    · omega
    have IH := hidden ih
    have H0 := hidden h0
    have H := hidden h
    have H' := hidden h'
    have HG := hidden hg
    have HA := hg.ar j hj
    have hm := hg.most
    have hj6 : j < 6 := by have := hg.few; omega
    have hn6 := hg.few
    obtain ⟨ar, har⟩ : ∃ ar : Nat, A j = ar := ⟨(A j).toNat, by omega⟩
    have EA := hidden (show aOf A T p = ar by rw [aOf_sym e, har]; rfl)
    have ar2 : ar ≤ 2 := by omega
    have c1 := h'.cell p hlt
    rw [e] at c1
    have ET := hidden e
    have EJ := hidden har
    have HS := hidden (skip_one (aOf A T) hlt)
    clear ih h0 h h' hg hx HA e har hp hpm
    have hmp : decide (m ≤ p) = false := by simp; omega
    have hj0 : decide ((j : Int) < 0) = false := by simp
    go_enter Try.func33, Try.ntmps33
    go_wp2
    go_loopw [7, 8] (fun q i wr => ∃ (k r : Nat), k ≤ ar ∧ r ≤ m ∧ p < r ∧ q = .int .i64 r ∧ i = .int .i64 k ∧ Hid (skip (aOf A T) m (p + 1) k = some r) ∧ Hid (Below w.heap.size w wr)) (fun _ i _ => ar - (intOf i).toNat)
    case atStart => exact ⟨0, p + 1, Nat.zero_le _, by omega, by omega, by go_num, rfl, hidden (skip_zero _ _ _), hidden (Below.refl _ _)⟩
    case round =>
      clear c1
      obtain ⟨k, r, hk, hr, hpr, rfl, rfl, HK, HB⟩ := hrel
      have d0 := (H0.out.keep HB.out).c0
      have c1 := (H'.out.keep HB.out).cell p hlt
      have c2 := (H.out.keep HB.out).arity j hj
      rw [ET.out] at c1
      rw [EJ.out] at c2
      by_cases hkl : k < ar
      · go_wp2
        go_quiet (fail)
        go_wp2_with fail
        with_reducible refine (IH.out r (by omega) hr _ (H0.out.keep (below_drewN HB.out _)) (H.out.keep (below_drewN HB.out _)) (H'.out.keep (below_drewN HB.out _))).mono ?_
        rintro e w1 ⟨rfl, hb⟩
        replace HB := hidden (keepB (below_drewN HB.out _) hb)
        clear hb d0 c1 c2
        cases hs : skip (aOf A T) m r 1 with
        | none =>
          have HE := hidden (show endV (aOf A T) m p = -1 from endV_none (by
            rw [HS.out, EA.out, show ar = k + (1 + (ar - k - 1)) by omega, skip_split, HK.out]
            simp only [Option.bind]
            rw [skip_split, hs]; rfl))
          rw [endV_none hs]
          clear hs
          go_wp2
          go_ret
          exact ⟨by rw [HE.out]; rfl, HB.out⟩
        | some r2 =>
          have HK2 := hidden (show skip (aOf A T) m (p + 1) (k + 1) = some r2 by rw [skip_split, HK.out]; exact hs)
          have hr2 := (skip_le hs).2 (by omega)
          rw [endV_some hs]
          clear hs
          go_wp2
          go_roundw
          case rel => exact ⟨k + 1, r2, by omega, by omega, by omega, rfl, by go_num, HK2, HB⟩
          case measure => simp [intOf]; omega
      · obtain rfl : k = ar := by omega
        have HE := hidden (show endV (aOf A T) m p = r from endV_some (by rw [HS.out, EA.out, HK.out]))
        go_wp2
        go_quiet (fail)
        go_wp2
        go_ret
        exact ⟨by rw [HE.out]; rfl, below_drewN HB.out _⟩

end Go.Proofs.Ytbdgnpjbmlcchaa
