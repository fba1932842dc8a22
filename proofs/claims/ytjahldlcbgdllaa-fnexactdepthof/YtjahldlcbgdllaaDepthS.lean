/- Contract: how deep the term at a place is, as the model tells it. -/
import Derived.Test.YtjahldlcbgdllaaSizeAt
namespace Go.Proofs.Ytjahldlcbgdllaa
open Go.RowKit

/-- The depth of the term at a place. -/
def dpt (a : Nat → Nat) (m p : Nat) : Nat := depN a m (p + 1) (a p) + 1

theorem dpt_le (a : Nat → Nat) {m p : Nat} (h : p < m) : dpt a m p ≤ m := by
  have := depN_le a m _ (p + 1) (a p) (Nat.le_refl _)
  unfold dpt; omega

theorem dep_next {a : Nat → Nat} {m r r2 k : Nat} (h : skip a m r 1 = some r2) : depN a m r (k + 1) = max (dpt a m r) (depN a m r2 k) := by
  rw [depN_succ k h, dpt, Nat.add_comm]

set_option maxHeartbeats 800000 in
theorem l3Depth_var (B b' off' m c' p : Nat) (A T : Nat → Int) (w : World) (hp : p < m) (h' : Ints w b' off' m T) (hx : T p < 0) :
    Calls Try.prog 55 #[.pointer (some ⟨B, 0, none⟩), .slice (some ⟨b', off', none⟩) m c', .int .i64 p] w fun e w' => e = .returned (.int .i64 (dpt (aOf A T) m p)) ∧ Below w.heap.size w w' := by
  have HE := hidden (show dpt (aOf A T) m p = 1 by rw [dpt, aOf_var hx, depN_zero])
  have c1 := h'.cell p hp
  generalize T p = x at c1 hx
  go_enter Try.func55, Try.ntmps55
  go_wp2
  go_ret
  exact ⟨by rw [HE.out]; rfl, Below.refl _ _⟩

set_option maxRecDepth 20000 in
set_option maxHeartbeats 3200000 in
theorem l3Depth_any (B b off n c b' off' m c' : Nat) (N : Nat → ByteArray) (A T : Nat → Int) (hg : Trm n A m T) : ∀ (d p : Nat), m - p ≤ d → p < m → ∀ w : World, One w B (.slice (some ⟨b, off, none⟩) n c) → Syms w b off n N A → Ints w b' off' m T →
    Calls Try.prog 55 #[.pointer (some ⟨B, 0, none⟩), .slice (some ⟨b', off', none⟩) m c', .int .i64 p] w fun e w' => e = .returned (.int .i64 (dpt (aOf A T) m p)) ∧ Below w.heap.size w w' := by
  intro d
  induction d with
  | zero => intro p hd hp; omega
  | succ d ih =>
    intro p hd hlt w h0 h h'
    by_cases hx : T p < 0
    · exact l3Depth_var B b' off' m c' p A T w hlt h' hx
    rcases nodeB_cases (hg.nods.node p hlt) with ⟨j, e, hj⟩ | hv
    rotate_left
    · omega
    have IH := hidden ih
    have H0 := hidden h0
    have H := hidden h
    have H' := hidden h'
    have HG := hidden hg
    have HA := hg.nods.ar j hj
    have hm := hg.nods.most
    have hj6 : j < 6 := by have := hg.nods.few; omega
    have hn6 := hg.nods.few
    obtain ⟨ar, har⟩ : ∃ ar : Nat, A j = ar := ⟨(A j).toNat, by omega⟩
    have EA := hidden (show aOf A T p = ar by rw [aOf_sym e, har]; rfl)
    have ar2 : ar ≤ 2 := by omega
    have c1 := h'.cell p hlt
    rw [e] at c1
    have ET := hidden e
    have EJ := hidden har
    obtain ⟨en, hen, _, _⟩ := skip_inner hg.whole hlt
    have HS := hidden (show skip (aOf A T) m (p + 1) ar = some en by rw [← EA.out, ← skip_one _ hlt]; exact hen)
    have HL := hidden (depN_le (aOf A T) m _ (p + 1) ar (Nat.le_refl _))
    clear ih h0 h h' hg hx HA e har hen
    have hj0 : decide ((j : Int) < 0) = false := by simp
    go_enter Try.func55, Try.ntmps55
    go_wp2
    go_loopw [7, 8, 9] (fun z q i wr => ∃ (k r v : Nat), k ≤ ar ∧ r ≤ m ∧ p < r ∧ v ≤ m ∧ z = .int .i64 v ∧ q = .int .i64 r ∧ i = .int .i64 k ∧ Hid (skip (aOf A T) m (p + 1) k = some r) ∧ Hid (max v (depN (aOf A T) m r (ar - k)) = depN (aOf A T) m (p + 1) ar) ∧ Hid (Below w.heap.size w wr)) (fun _ _ i _ => ar - (intOf i).toNat)
    case atStart => exact ⟨0, p + 1, 0, Nat.zero_le _, by omega, by omega, Nat.zero_le _, rfl, by go_num, rfl, hidden (skip_zero _ _ _), hidden (by rw [Nat.zero_max]; rfl), hidden (Below.refl _ _)⟩
    case round =>
      clear c1
      obtain ⟨k, r, v, hk, hr, hpr, hv, rfl, rfl, rfl, HK, HD, HB⟩ := hrel
      have d0 := (H0.out.keep HB.out).c0
      have c1 := (H'.out.keep HB.out).cell p hlt
      have c2 := (H.out.keep HB.out).arity j hj
      rw [ET.out] at c1
      rw [EJ.out] at c2
      by_cases hkl : k < ar
      · obtain ⟨r', r2, e1, e2, e3⟩ := skip_arg HS.out hkl
        obtain rfl : r = r' := by rw [HK.out] at e1; exact Option.some.inj e1
        have hr2 := (skip_le e2).2 (by omega)
        have hrm : r < m := by omega
        have HD2 := hidden (show max v (max (dpt (aOf A T) m r) (depN (aOf A T) m r2 (ar - (k + 1)))) = depN (aOf A T) m (p + 1) ar by
          rw [← dep_next e2, show ar - (k + 1) + 1 = ar - k by omega]; exact HD.out)
        have hdl := dpt_le (aOf A T) hrm
        have HE2 := hidden (endV_some e2)
        have HK2 := hidden e3
        clear e1 e2 e3 HK HD
        go_wp2
        go_quiet (fail)
        go_wp2_with fail
        with_reducible refine (IH.out r (by omega) hrm _ (H0.out.keep (below_drewN HB.out _)) (H.out.keep (below_drewN HB.out _)) (H'.out.keep (below_drewN HB.out _))).mono ?_
        rintro e w1 ⟨rfl, hb⟩
        replace HB := hidden (keepB (below_drewN HB.out _) hb)
        clear hb d0 c1 c2
        generalize dpt (aOf A T) m r = u at *
        by_cases huv : v < u
        · have HN := hidden (show max u (depN (aOf A T) m r2 (ar - (k + 1))) = depN (aOf A T) m (p + 1) ar by have := HD2.out; omega)
          have huv' : (v : Int) < u := by omega
          clear HD2
          go_wp2_with fail
          with_reducible refine (l3End_any _ _ _ _ _ _ _ _ _ N A T HG.out.nods m r (by omega) hr _ (H0.out.keep HB.out) (H.out.keep HB.out) (H'.out.keep HB.out)).mono ?_
          rintro e w2 ⟨rfl, hb⟩
          replace HB := hidden (keepB HB.out hb)
          rw [HE2.out]
          clear hb
          go_wp2
          go_roundw
          case rel => exact ⟨k + 1, r2, u, by omega, by omega, by omega, hdl, rfl, rfl, by go_num, HK2, HN, HB⟩
          case measure => simp [intOf]; omega
        · have HN := hidden (show max v (depN (aOf A T) m r2 (ar - (k + 1))) = depN (aOf A T) m (p + 1) ar by have := HD2.out; omega)
          have huv' : ¬ (v : Int) < u := by omega
          clear HD2
          go_wp2_with fail
          with_reducible refine (l3End_any _ _ _ _ _ _ _ _ _ N A T HG.out.nods m r (by omega) hr _ (H0.out.keep HB.out) (H.out.keep HB.out) (H'.out.keep HB.out)).mono ?_
          rintro e w2 ⟨rfl, hb⟩
          replace HB := hidden (keepB HB.out hb)
          rw [HE2.out]
          clear hb
          go_wp2
          go_roundw
          case rel => exact ⟨k + 1, r2, v, by omega, by omega, by omega, hv, rfl, rfl, by go_num, HK2, HN, HB⟩
          case measure => simp [intOf]; omega
      · obtain rfl : k = ar := by omega
        have HE := hidden (show dpt (aOf A T) m p = v + 1 by
          have := HD.out
          rw [Nat.sub_self, depN_zero] at this
          rw [dpt, EA.out, ← this]; omega)
        go_wp2
        go_quiet (fail)
        go_wp2
        go_ret
        exact ⟨by rw [HE.out]; go_num, below_drewN HB.out _⟩

end Go.Proofs.Ytjahldlcbgdllaa
