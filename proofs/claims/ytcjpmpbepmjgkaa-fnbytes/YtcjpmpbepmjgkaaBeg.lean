/- Contracts: whether bytes begin with others, as the model and as the program asks it. -/
import Derived.Test.YtcjpmpbepmjgkaaSum
import Derived.Test.YtcjpmpbepmjgkaaLists
namespace Go.Proofs.Ytcjpmpbepmjgkaa
open Go.RowKit

set_option maxHeartbeats 400000 in
theorem specBegins_any (b off n c b' off' m c' : Nat) (l r : List Int) (w : World) (h : Row w b off n l) (h' : Row w b' off' m r) :
    Calls Try.prog 19 #[.slice (some ⟨b, off, none⟩) n c, .slice (some ⟨b', off', none⟩) m c'] w fun e w' => e = .returned (.bool (begB l r)) ∧ Below w.heap.size w w' := by
  have hmx := h.most
  have hmx' := h'.most
  have hl := h.len
  have hl' := h'.len
  by_cases hnm : n < m
  · have hz : begB l r = false := begB_less l r (by omega)
    rw [hz]
    clear hz hl hl'
    go_enter Try.func19, Try.ntmps19
    go_wp2
    go_ret
    exact ⟨rfl, Below.refl _ _⟩
  · generalize hB : begB l r = B
    have HB : Hid _ := hB
    have HL : Hid _ := hl
    have HL' : Hid _ := hl'
    clear hB hl hl'
    go_enter Try.func19, Try.ntmps19
    go_wp2
    go_loopw [5] (fun i wr => ∃ k : Nat, k ≤ m ∧ i = .int .i64 k ∧ Hid (l.take k = r.take k) ∧ ∃ q, wr = w.drewN q) (fun i _ => m - (intOf i).toNat)
    case atStart => exact ⟨0, Nat.zero_le _, rfl, rfl, 0, rfl⟩
    case round =>
      obtain ⟨k, hk, rfl, HT, q, rfl⟩ := hrel
      by_cases hlt : k < m
      · have c1 := h.cell k (by omega)
        have c2 := h'.cell k hlt
        have hb := h.byt k
        have hb' := h'.byt k
        by_cases hxy : l.getD k 0 = r.getD k 0
        · have HT2 : Hid (l.take (k + 1) = r.take (k + 1)) := take_same l r k (by rw [HL.out]; omega) (by rw [HL'.out]; omega) HT.out hxy
          rw [hxy] at c1
          clear hxy hb
          generalize r.getD k 0 = x at *
          go_wp2
          go_quiet (fail)
          go_wp2
          go_roundw
          case rel => exact ⟨k + 1, by omega, by go_num, HT2, _, rfl⟩
          case measure => simp [intOf]; omega
        · have HF : Hid (begB l r = false) := begB_part l r k (by rw [HL'.out]; omega) hxy
          have hne : (l.getD k 0 != r.getD k 0) = true := by rw [bne_iff_ne]; exact hxy
          clear hxy
          generalize r.getD k 0 = x at *
          generalize l.getD k 0 = y at *
          go_wp2
          go_quiet (fail)
          go_wp2
          go_ret
          rw [← HB.out, HF.out]
          exact ⟨rfl, below_drewN (below_drewN (Below.refl _ _) _) _⟩
      · go_wp2
        go_ret
        have e : k = m := by omega
        subst e
        have ht := HT.out
        rw [List.take_of_length_le (l := r) (by rw [HL'.out]; omega)] at ht
        rw [← HB.out, begB_all l r (by rw [HL.out, HL'.out]; omega) (by rw [HL'.out]; exact ht)]
        exact ⟨rfl, below_drewN (Below.refl _ _) _⟩

set_option maxHeartbeats 400000 in
theorem bytesEqual_any (b off n c b' off' m c' : Nat) (l r : List Int) (w : World) (h : Row w b off n l) (h' : Row w b' off' m r) :
    Calls Try.prog 35 #[.slice (some ⟨b, off, none⟩) n c, .slice (some ⟨b', off', none⟩) m c'] w fun e w' => e = .returned (.bool (decide (l = r))) ∧ w' = w := by
  have k1 := run_convert_bytes_arg (P := Try.prog) w 22 5 Try.underlying22 Try.underlying5 b off n c l h.len h.cell 9 Try.underlying9
  have k2 := run_convert_bytes_arg (P := Try.prog) w 22 5 Try.underlying22 Try.underlying5 b' off' m c' r h'.len h'.cell 9 Try.underlying9
  have e : ((strOfNums l).toList == (strOfNums r).toList) = decide (l = r) := by
    rw [Lib.strOfNums_toList, Lib.strOfNums_toList, Bool.eq_iff_iff]
    simp only [beq_iff_eq, decide_eq_true_eq]
    exact ⟨bytesOf_inj l r (byt_of l h.byt) (byt_of r h'.byt), fun e => by rw [e]⟩
  go_enter Try.func35, Try.ntmps35
  go_wp2
  go_ret
  exact ⟨rfl, rfl⟩

theorem Row.take {w : World} {b off n : Nat} {l : List Int} (h : Row w b off n l) (m : Nat) (hm : m ≤ n) : Row w b off m (l.take m) :=
  ⟨by have := h.len; simp; omega, by have := h.most; omega, fun i => by rw [getD_take]; have := h.byt i; split <;> omega, h.blk, fun i hi => by rw [getD_take, if_pos hi]; exact h.cell i (by omega)⟩

set_option maxHeartbeats 400000 in
theorem hasPrefix_any (b off n c b' off' m c' : Nat) (l r : List Int) (w : World) (h : Row w b off n l) (h' : Row w b' off' m r) (hc : n ≤ c) :
    Calls Try.prog 33 #[.slice (some ⟨b, off, none⟩) n c, .slice (some ⟨b', off', none⟩) m c'] w fun e w' => e = .returned (.bool (begB l r)) ∧ w' = w := by
  have hmx := h.most
  have hmx' := h'.most
  by_cases hnm : m ≤ n
  · have hB : begB l r = decide (l.take m = r) := by
      have := h.len
      have := h'.len
      simp [begB, h.len, h'.len, hnm]
    rw [hB]
    generalize hv : decide (l.take m = r) = v
    have HV : Hid _ := hv
    clear hv hB
    have hi : (m : Int) ≤ (n : Int) := by omega
    go_enter Try.func33, Try.ntmps33
    go_wp2_with fail
    refine (bytesEqual_any _ _ _ _ _ _ _ _ _ _ _ (h.take m hnm) h').mono ?_
    rw [HV.out]
    rintro e w' ⟨rfl, rfl⟩
    go_wp2
    go_ret
    exact ⟨rfl, rfl⟩
  · rw [begB_less l r (by rw [h.len, h'.len]; omega)]
    have hd : decide ((m : Int) ≤ (n : Int)) = false := by simp; omega
    go_enter Try.func33, Try.ntmps33
    go_wp2
    go_ret
    exact ⟨rfl, rfl⟩

set_option maxHeartbeats 400000 in
theorem implBegins_any (b off n c b' off' m c' : Nat) (l r : List Int) (w : World) (h : Row w b off n l) (h' : Row w b' off' m r) (hc : n ≤ c) :
    Calls Try.prog 18 #[.slice (some ⟨b, off, none⟩) n c, .slice (some ⟨b', off', none⟩) m c'] w fun e w' => e = .returned (.bool (begB l r)) ∧ w' = w := by
  generalize hB : begB l r = B
  have HB : Hid _ := hB
  clear hB
  go_enter Try.func18, Try.ntmps18
  go_wp2_with fail
  refine (hasPrefix_any _ _ _ _ _ _ _ _ l r _ h h' hc).mono ?_
  rw [HB.out]
  rintro e w' ⟨rfl, rfl⟩
  go_wp2
  go_ret
  exact ⟨rfl, rfl⟩

end Go.Proofs.Ytcjpmpbepmjgkaa
