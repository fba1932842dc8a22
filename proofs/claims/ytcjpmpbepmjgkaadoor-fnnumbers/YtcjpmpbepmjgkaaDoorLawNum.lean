/- Law FnExactNumberOf: at every text the program's NumberOf answers as the model's. -/
import Derived.Test.YtcjpmpbepmjgkaaDoorImplNum
namespace Go.Proofs.YtcjpmpbepmjgkaaDoor
open Go.RowKit

open Classical in
/-- What both answer: the number of a number's text, or that it is none. -/
noncomputable def numR (s : ByteArray) : Int × Int := if isNum s.data.toList then (0, (valA 0 s.data.toList : Int)) else (5, 0)

theorem numR_yes {s : ByteArray} (h : isNum s.data.toList) : numR s = (0, (valA 0 s.data.toList : Int)) := if_pos h
theorem numR_no {s : ByteArray} (h : ¬ isNum s.data.toList) : numR s = (5, 0) := if_neg h

theorem specNum_all (s : ByteArray) (w : World) (hs : s.size ≤ 1048576) :
    Calls Tryd.prog 10 #[.string s] w fun e w' => e = .returned (.agg #[.int .i64 (numR s).1, .int .i64 (numR s).2]) ∧ Below w.heap.size w w' := by
  by_cases h : s.size < 1 ∨ 6 < s.size
  · have hn : ¬ isNum s.data.toList := by
      intro hn
      have := isNum_len hn
      rw [size_len] at this
      omega
    rw [numR_no hn]
    exact specNum_len s w hs h
  · exact specNum_in s w (by omega) (by omega) _ (fun h => by rw [numR_yes h]) (fun h => by rw [numR_no h])

theorem implNum_all (s : ByteArray) (w : World) (hs : s.size ≤ 1048576) (ht : Tab w) (he : Errs w) :
    Calls Tryd.prog 8 #[.string s] w fun e w' => e = .returned (.agg #[.int .i64 (numR s).1, .int .i64 (numR s).2]) ∧ Below w.heap.size w w' := by
  by_cases hv : ∃ v, Lib.parseIntB 64 s.data.toList = .ok v
  · obtain ⟨v, hv⟩ := hv
    refine implNum_ok s w hs v hv ht _ ?_ ?_
    · intro hc hb
      have hr : ¬ (v < 0 ∨ 999999 < v) := by
        intro hr
        rw [textC, if_pos hr] at hc
        omega
      rw [textB, if_neg hr] at hb
      have hl : Lib.decDigits v.toNat = s.data.toList := by rw [← hb]
      have hn : isNum s.data.toList := by rw [← hl]; exact isNum_dec _ (by omega)
      rw [numR_yes hn, ← hl, val_dec, Int.toNat_of_nonneg (by omega)]
    · intro hno
      have hn : ¬ isNum s.data.toList := by
        intro hn
        have e := parse_num hn
        rw [hv] at e
        obtain rfl : v = (valA 0 s.data.toList : Int) := by injection e
        have h9 := hn.2
        apply hno
        rw [textC, textB, if_neg (by omega), if_neg (by omega)]
        exact ⟨rfl, of_list s (by simpa using hn.1)⟩
      rw [numR_no hn]
  · have hn : ¬ isNum s.data.toList := fun hn => hv ⟨_, parse_num hn⟩
    rw [numR_no hn]
    exact implNum_bad s w hs (fun v h => hv ⟨v, h⟩) he

end Go.Proofs.YtcjpmpbepmjgkaaDoor
