/- Contracts: the number of a text, as the model reads it. -/
import Derived.Test.YtcjpmpbepmjgkaaDoorLawText
import Derived.Test.YtcjpmpbepmjgkaaDoorNum
namespace Go.Proofs.YtcjpmpbepmjgkaaDoor
open Go.RowKit

theorem take_snoc8 (s : ByteArray) (k : Nat) (h : k < s.size) : s.data.toList.take (k + 1) = s.data.toList.take k ++ [s[k]] := by
  rw [List.take_succ_eq_append_getElem (by simpa using h)]; rfl

theorem mem_at (s : ByteArray) (k : Nat) (h : k < s.size) : s[k] ∈ s.data.toList := by
  have : s.data.toList[k]'(by simpa using h) ∈ s.data.toList := List.getElem_mem _
  exact this

theorem size_len (s : ByteArray) : s.data.toList.length = s.size := by rw [Array.length_toList]; rfl

theorem of_list (s : ByteArray) {l : List UInt8} (h : l = s.data.toList) : (⟨l.toArray⟩ : ByteArray) = s := by
  apply ByteArray.ext
  rw [h]

/-- What is left, behind a call, of the two cells that a struct result was given ahead of it. -/
theorem cellFacts {w w1 : World} {x y : Value} {t : TypeId} (hb : Below (w.alloc (.cells #[x, y] t)).heap.size (w.alloc (.cells #[x, y] t)) w1) :
    Below w.heap.size w w1 ∧ w.heap.size < w1.heap.size ∧ w1.cell? ⟨w.heap.size, 0, none⟩ = some x ∧ w1.cell? ⟨w.heap.size, 1, none⟩ = some y ∧ w1.frozen? ⟨w.heap.size, 0, none⟩ = false ∧ w1.frozen? ⟨w.heap.size, 1, none⟩ = false := by
  refine ⟨(alloc_below w _).trans (hb.mono (by simp)), by have := hb.size; simp at this; omega, ?_, ?_, ?_, ?_⟩
  · rw [hb.cell (p := ⟨w.heap.size, 0, none⟩) (by simp)]; simp [go_sem]
  · rw [hb.cell (p := ⟨w.heap.size, 1, none⟩) (by simp)]; simp [go_sem]
  · rw [hb.frozen (p := ⟨w.heap.size, 0, none⟩) (by simp)]; simp [go_sem]
  · rw [hb.frozen (p := ⟨w.heap.size, 1, none⟩) (by simp)]; simp [go_sem]

set_option maxHeartbeats 800000 in
theorem specNum_len (s : ByteArray) (w : World) (hs : s.size ≤ 1048576) (h : s.size < 1 ∨ 6 < s.size) :
    Calls Tryd.prog 10 #[.string s] w fun e w' => e = .returned (.agg #[.int .i64 5, .int .i64 0]) ∧ Below w.heap.size w w' := by
  by_cases h0 : s.size < 1
  · have h1 : ((s.size : Int) < 1) := by omega
    go_enter Tryd.func10, Tryd.ntmps10
    go_wp2
    exact bodyPost_ret (v := .agg #[.int .i64 5, .int .i64 0]) (by simp [results, Tryd.results10, go_sem]) rfl ⟨rfl, (Below.refl _ _).alloc (Nat.le_refl _) _⟩
  · have h2 : decide ((s.size : Int) < 1) = false := by simp; omega
    have h3 : (6 : Int) < (s.size : Int) := by omega
    clear h h0
    go_enter Tryd.func10, Tryd.ntmps10
    go_wp2
    exact bodyPost_ret (v := .agg #[.int .i64 5, .int .i64 0]) (by simp [results, Tryd.results10, go_sem]) rfl ⟨rfl, (Below.refl _ _).alloc (Nat.le_refl _) _⟩

set_option maxHeartbeats 1600000 in
theorem specNum_in (s : ByteArray) (w : World) (h0 : 1 ≤ s.size) (h6 : s.size ≤ 6) (R : Value)
    (hyes : isNum s.data.toList → R = .agg #[.int .i64 0, .int .i64 (valA 0 s.data.toList)]) (hno : ¬ isNum s.data.toList → R = .agg #[.int .i64 5, .int .i64 0]) :
    Calls Tryd.prog 10 #[.string s] w fun e w' => e = .returned R ∧ Below w.heap.size w w' := by
  have HY := hidden hyes
  have HN := hidden hno
  clear hyes hno
  have h2 : decide ((s.size : Int) < 1) = false := by simp; omega
  have h3 : ¬ (6 : Int) < (s.size : Int) := by omega
  go_enter Tryd.func10, Tryd.ntmps10
  go_wp2
  go_loop [3, 4] (fun n i => ∃ k : Nat, k ≤ s.size ∧ i = .int .i64 k ∧ n = .int .i64 (valA 0 (s.data.toList.take k)) ∧ Hid (∀ c ∈ s.data.toList.take k, isDig c)) (fun _ i => s.size - (intOf i).toNat)
  case atStart => exact ⟨0, Nat.zero_le _, rfl, rfl, by intro c hc; simp at hc⟩
  case round =>
    obtain ⟨k, hk, rfl, rfl, HD⟩ := hrel
    have hv := val_small _ HD.out (by rw [List.length_take]; omega)
    by_cases hlt : k < s.size
    · have hts := take_snoc8 s k hlt
      have HV := hidden (show valA 0 (s.data.toList.take (k + 1)) = valA 0 (s.data.toList.take k) * 10 + (s[k].toNat - 48) by rw [hts, valA_append])
      have HD2 := hidden (show isDig s[k] → ∀ c ∈ s.data.toList.take (k + 1), isDig c by
        intro hc c hm
        rw [hts] at hm
        rcases List.mem_append.1 hm with h | h
        · exact HD.out c h
        · simp only [List.mem_singleton] at h; rw [h]; exact hc)
      have HB := hidden (show ¬ isDig s[k] → ¬ isNum s.data.toList from fun hc hn => hc (isNum_dig hn _ (mem_at s k hlt)))
      clear hts
      generalize valA 0 (s.data.toList.take k) = y at *
      by_cases hd : isDig s[k]
      · have hd1 : ¬ ((s[k].toNat : Int) < 48) := by unfold isDig at hd; omega
        have hd2 : ¬ (57 : Int) < (s[k].toNat : Int) := by unfold isDig at hd; omega
        have HDD := hidden (HD2.out hd)
        have hdd := hd
        unfold isDig at hdd
        clear HD2 HB hd
        go_wp2
        go_round
        case rel => exact ⟨k + 1, by omega, by go_num, by rw [HV.out, show ((y * 10 + (s[k].toNat - 48) : Nat) : Int) = (y : Int) * 10 + ((s[k].toNat : Int) - 48) from by omega], HDD⟩
        case measure => simp [intOf]; omega
      · have HR := hidden (HN.out (HB.out hd))
        have hd' : (s[k].toNat : Int) < 48 ∨ (57 : Int) < (s[k].toNat : Int) := by unfold isDig at hd; omega
        clear hd HD2 HB
        rcases hd' with hd' | hd'
        · go_wp2
          exact bodyPost_ret (v := .agg #[.int .i64 5, .int .i64 0]) (by simp [results, Tryd.results10, go_sem]) rfl ⟨by rw [HR.out], (Below.refl _ _).alloc (Nat.le_refl _) _⟩
        · have hd1 : decide ((s[k].toNat : Int) < 48) = false := by simp; omega
          go_wp2
          exact bodyPost_ret (v := .agg #[.int .i64 5, .int .i64 0]) (by simp [results, Tryd.results10, go_sem]) rfl ⟨by rw [HR.out], (Below.refl _ _).alloc (Nat.le_refl _) _⟩
    · have e : s.data.toList.take k = s.data.toList := List.take_of_length_le (by rw [size_len]; omega)
      rw [e] at hv HD ⊢
      clear e
      have D := hidden (fun w => l1Digits_any (valA 0 s.data.toList) (valA 0 s.data.toList) (Nat.le_refl _) hv w)
      by_cases hn : isNum s.data.toList
      · have HR := hidden (HY.out hn)
        rw [of_list s hn.1] at D
        generalize valA 0 s.data.toList = y at *
        clear hn
        go_wp2_with fail
        refine (D.out _).mono ?_
        rintro e w1 ⟨rfl, hb⟩
        obtain ⟨bb, hz, q0, q1, f0, f1⟩ := cellFacts hb
        clear hb
        go_wp2
        exact bodyPost_ret (v := .agg #[.int .i64 0, .int .i64 y]) (by simp [results, Tryd.results10, go_sem, q0, q1]) rfl ⟨by rw [HR.out], (bb.setCell (by simp) _).setCell (by simp) _⟩
      · have HR := hidden (HN.out hn)
        have hne : ¬ Lib.decDigits (valA 0 s.data.toList) = s.data.toList := fun h => hn ⟨h, hv⟩
        have hne2 : ((⟨(Lib.decDigits (valA 0 s.data.toList)).toArray⟩ : ByteArray).toList == s.toList) = false := by
          rw [beq_eq_false_iff_ne, Lib.toList_data, Lib.toList_data]
          exact hne
        generalize (⟨(Lib.decDigits (valA 0 s.data.toList)).toArray⟩ : ByteArray) = S at *
        generalize valA 0 s.data.toList = y at *
        clear hn hne
        go_wp2_with fail
        refine (D.out _).mono ?_
        rintro e w1 ⟨rfl, hb⟩
        obtain ⟨bb, hz, q0, q1, f0, f1⟩ := cellFacts hb
        clear hb
        go_wp2
        exact bodyPost_ret (v := .agg #[.int .i64 5, .int .i64 0]) (by simp [results, Tryd.results10, go_sem, q0, q1]) rfl ⟨by rw [HR.out], (bb.setCell (by simp) _).setCell (by simp) _⟩

end Go.Proofs.YtcjpmpbepmjgkaaDoor
