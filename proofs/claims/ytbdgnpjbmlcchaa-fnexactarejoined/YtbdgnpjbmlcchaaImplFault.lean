/- Contracts: the program's SignatureFault tells the same fault. -/
import Derived.Test.YtbdgnpjbmlcchaaContains
namespace Go.Proofs.Ytbdgnpjbmlcchaa
open Go.RowKit Go.Maps

set_option maxRecDepth 20000 in
set_option maxHeartbeats 400000 in
theorem implFault_many (p : Option Addr) (n c : Nat) (w : World) (h : n < 1 ∨ 6 < n) (N : Nat → ByteArray) (A : Nat → Int) :
    Calls Try.prog 59 #[.agg #[.slice p n c]] w fun e w' => e = .returned (.int .i64 (faultF n N A)) ∧ Below w.heap.size w w' := by
  have HN := hidden (show faultF n N A = 2 by rw [faultF, if_pos h])
  by_cases h0 : n < 1
  · have h1 : ((n : Int) == 0) = true := by rw [beq_iff_eq]; omega
    go_enter Try.func59, Try.ntmps59
    go_wp2
    go_ret
    exact ⟨by rw [HN.out]; rfl, alloc_below _ _⟩
  · have h1 : ((n : Int) == 0) = false := by rw [beq_eq_false_iff_ne]; omega
    have h2 : (6 : Int) < n := by omega
    go_enter Try.func59, Try.ntmps59
    go_wp2
    go_ret
    exact ⟨by rw [HN.out]; rfl, alloc_below _ _⟩

set_option maxRecDepth 20000 in
set_option maxHeartbeats 3200000 in
theorem implFault_any (b off n c : Nat) (N : Nat → ByteArray) (A : Nat → Int) (w : World) (h : Syms w b off n N A) (hk : Kept n N A) (hn : ¬ (n < 1 ∨ 6 < n)) :
    Calls Try.prog 59 #[.agg #[.slice (some ⟨b, off, none⟩) n c]] w fun e w' => e = .returned (.int .i64 (faultF n N A)) ∧ Below w.heap.size w w' := by
  have HN := hidden hn
  have h1 : ((n : Int) == 0) = false := by rw [beq_eq_false_iff_ne]; omega
  have h2 : ¬ (6 : Int) < n := by omega
  have h6 : n ≤ 6 := by omega
  have HS := hidden hk.short
  have HK := hidden hk
  clear hn hk
  go_enter Try.func59, Try.ntmps59
  go_wp2
  go_loopw [19] (fun i wr => ∃ k : Nat, k ≤ n ∧ i = .int .i64 k ∧ Hid (fb N A k = 0) ∧ Hid (One wr w.heap.size (.slice (some ⟨b, off, none⟩) n c) ∧ Below w.heap.size w wr)) (fun i _ => n - (intOf i).toNat)
  case atStart => exact ⟨0, Nat.zero_le _, rfl, hidden rfl, hidden ⟨One.new _ _ _, alloc_below _ _⟩⟩
  case round =>
    obtain ⟨k, hk, rfl, HF, HI⟩ := hrel
    by_cases hlt : k < n
    · have hs := h.later HI.out.2 h.blk
      have c1 := hs.name k hlt
      have c2 := hs.arity k hlt
      clear hs
      go_wp2_with fail
      refine (symbolFault_any _ _ _ (HS.out k hlt)).mono ?_
      rintro e w1 ⟨rfl, hb⟩
      replace hb := keepB (alloc_below _ _) hb
      have O1 := hidden (HI.out.1.keep hb)
      have B1 := hidden (keepB HI.out.2 hb)
      clear c1 c2 hb HI
      by_cases hc : oneF (N k) (A k) = 0
      · have HR := hidden (fb_next HF.out hc)
        rw [hc]
        clear hc
        go_wp2
        go_roundw
        case rel => exact ⟨k + 1, by omega, by go_num, HR, hidden ⟨O1.out, B1.out⟩⟩
        case measure => simp [intOf]; omega
      · have HR := hidden (fault_at HN.out HF.out hlt rfl hc)
        have hc' : (oneF (N k) (A k) != 0) = true := by simpa using hc
        generalize oneF (N k) (A k) = z at *
        clear hc
        go_wp2
        go_ret
        exact ⟨by rw [HR.out]; rfl, B1.out⟩
    · obtain rfl : n = k := by omega
      obtain ⟨hz1, hz2⟩ := mapTo_size N n
      have hzd : ∃ z : Nat, Maps.size (mapTo N n) = z := ⟨_, rfl⟩
      obtain ⟨z, hz⟩ := hzd
      rw [hz] at hz1 hz2
      have S1 := hidden (show ∀ wc, Below wr.heap.size wr wc → Calls Try.prog 80 #[.agg #[.slice (some ⟨b, off, none⟩) n c]] wc fun e w' => ∃ M, e = .returned (.map (some M)) ∧ Below wr.heap.size wr w' ∧ (∀ ty, (Builtin.len_ #[117] ty #[.map (some M)]).run Try.prog w' = .ok (.int .i64 z) w') ∧ w'.cell? ⟨w.heap.size, 0, none⟩ = some (.slice (some ⟨b, off, none⟩) n c) from fun wc hc => by
        refine (byName_any b off n c N A wc (h.later (HI.out.2.trans (hc.mono HI.out.2.size)) h.blk) HK.out).mono ?_
        rintro e w' ⟨M, rfl, _, hown, hb⟩
        exact ⟨M, rfl, keepB hc hb, fun ty => by rw [← hz]; exact hown.len Try.underlying117 ty, (HI.out.1.keep (keepB hc hb)).c0⟩)
      clear hz hlt hk
      have d0 := HI.out.1.c0
      have hbe : ∃ bb, decide (z < n) = bb := ⟨_, rfl⟩
      obtain ⟨bb, hbb⟩ := hbe
      have HZ := hidden (And.intro hz1 hz2)
      clear hz1 hz2
      go_wp2_with fail
      go_cut [35] (fun t wc => t = .bool bb ∧ Below wr.heap.size wr wc)
      case first =>
        go_region_with (first
          | (go_at_call 80; with_reducible refine (S1.out _ ?_).mono ?_; exact (Below.refl _ _).drew; rintro e v5 ⟨M, rfl, b5, l5, d5⟩))
        all_goals (go_wp2_with fail; go_meet)
        all_goals exact ⟨by first | rfl | rw [hbb], b5⟩
      case rest =>
        rename World => w5
        obtain ⟨rfl, hb⟩ := hcut
        have B5 := hidden (keepB HI.out.2 hb)
        have O5 := hidden (HI.out.1.keep hb)
        have HBB := hidden hbb
        clear HI d0 hb S1 hbb
        by_cases hd : dup n N
        · have hzl : decide (z < n) = true := by
            have : z ≠ n := fun e => HZ.out.2.1 e hd
            have := HZ.out.1
            simp; omega
          have e : bb = true := HBB.out.symm.trans hzl
          subst e
          have HR := hidden (fault_dup HN.out HF.out hd)
          clear hzl hd
          go_wp2_with fail
          go_ret
          exact ⟨by rw [HR.out]; rfl, B5.out⟩
        · have hzl : decide (z < n) = false := by
            have := HZ.out.2.2 hd
            simp; omega
          have e : bb = false := HBB.out.symm.trans hzl
          subst e
          have HD := hidden hd
          clear hzl hd
          have d0 := O5.out.c0
          go_wp2_with fail
          refine (contains_any b off n c N A _ (h.later B5.out h.blk) (by omega)).mono ?_
          rintro e w6 ⟨rfl, hb⟩
          have B6 := hidden (keepB B5.out hb)
          clear hb d0 O5 B5
          by_cases hc : cons0 n A
          · have e : consB n A = true := by simpa [consB] using hc
            have HR := hidden (fault_ok HN.out HF.out HD.out hc)
            rw [e]
            clear e hc
            go_wp2_with fail
            go_ret
            exact ⟨by rw [HR.out]; rfl, B6.out⟩
          · have e : consB n A = false := by simpa [consB] using hc
            have HR := hidden (fault_none HN.out HF.out HD.out hc)
            rw [e]
            clear e hc
            go_wp2_with fail
            go_ret
            exact ⟨by rw [HR.out]; rfl, B6.out⟩

/-- Both tell the fault of the signature. -/
theorem specFault_all (b off n c : Nat) (N : Nat → ByteArray) (A : Nat → Int) (w : World) (h : Syms w b off n N A) (hk : Kept n N A) :
    Calls Try.prog 51 #[.agg #[.slice (some ⟨b, off, none⟩) n c]] w fun e w' => e = .returned (.int .i64 (faultF n N A)) ∧ Below w.heap.size w w' := by
  by_cases hn : n < 1 ∨ 6 < n
  · exact specFault_many _ n c w hn N A
  · exact specFault_any b off n c N A w h hk hn

theorem implFault_all (b off n c : Nat) (N : Nat → ByteArray) (A : Nat → Int) (w : World) (h : Syms w b off n N A) (hk : Kept n N A) :
    Calls Try.prog 59 #[.agg #[.slice (some ⟨b, off, none⟩) n c]] w fun e w' => e = .returned (.int .i64 (faultF n N A)) ∧ Below w.heap.size w w' := by
  by_cases hn : n < 1 ∨ 6 < n
  · exact implFault_many _ n c w hn N A
  · exact implFault_any b off n c N A w h hk hn

end Go.Proofs.Ytbdgnpjbmlcchaa
