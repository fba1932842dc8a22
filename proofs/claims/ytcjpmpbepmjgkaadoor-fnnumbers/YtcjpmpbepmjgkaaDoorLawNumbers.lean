/- Law FnNumbers: a number is read back from its text, and has one text alone. -/
import Derived.Test.YtcjpmpbepmjgkaaDoorDrawNum
import Derived.Deep.DeepCutAuto
namespace Go.Proofs.YtcjpmpbepmjgkaaDoor
open Go.RowKit

set_option maxHeartbeats 800000 in
theorem lwBig_no (p : Option Addr) (n c : Nat) (w : World) (h : n ≤ 1048576) :
    Calls Tryd.prog 4 #[.slice p n c] w fun e w' => e = .returned (.bool false) ∧ w = w' := by
  have h1 : decide (1048576 < (n : Int)) = false := by simp; omega
  go_enter Tryd.func4, Tryd.ntmps4
  go_wp2
  go_ret
  exact ⟨rfl, rfl⟩

theorem fldI0 (a b : Value) (w : World) : (Instr.field 30 (.agg #[a, b]) 0).run Tryd.prog w = .ok a w := by kernel_rfl
theorem fldT0 (a b : Value) (w : World) : (Instr.field 26 (.agg #[a, b]) 0).run Tryd.prog w = .ok a w := by kernel_rfl

/-- A number is read back from its text. -/
theorem back (n : Int) (h : textC n = 0) : numR (textB n) = (0, n) := by
  have hr : ¬ (n < 0 ∨ 999999 < n) := by
    intro hr
    rw [textC, if_pos hr] at h
    omega
  rw [textB, if_neg hr]
  have hn : isNum ((⟨(Lib.decDigits n.toNat).toArray⟩ : ByteArray).data.toList) := by
    show isNum (Lib.decDigits n.toNat)
    exact isNum_dec _ (by omega)
  rw [numR_yes hn]
  show (0, ((valA 0 (Lib.decDigits n.toNat) : Nat) : Int)) = (0, n)
  rw [val_dec, Int.toNat_of_nonneg (by omega)]

/-- A number has one text alone. -/
theorem alone (s : ByteArray) (h : (numR s).1 = 0) : textB (numR s).2 = s := by
  by_cases hn : isNum s.data.toList
  · rw [numR_yes hn]
    have := hn.2
    show textB (valA 0 s.data.toList : Int) = s
    rw [textB, if_neg (by omega)]
    exact of_list s (by simpa using hn.1)
  · rw [numR_no hn] at h
    simp at h

set_option maxHeartbeats 800000 in
theorem law_numbers_big (p : Option Addr) (n c : Nat) (w : World) (h : 1048576 < n) :
    Calls Tryd.prog 3 #[.slice p n c] w fun e w' => e = .returned (.bool true) ∧ Below w.heap.size w w' := by
  go_enter Tryd.func3, Tryd.ntmps3
  go_wp2
  go_ret
  exact ⟨rfl, Below.refl _ _⟩

set_option maxHeartbeats 1600000 in
set_option maxRecDepth 100000 in
theorem law_numbers (p : Option Addr) (n c : Nat) (l : List Int) (w : World) (h : Src w p n l) (hn : n ≤ 1048576) (ht : Tab w) (he : Errs w) :
    Calls Tryd.prog 3 #[.slice p n c] w fun e w' => e = .returned (.bool true) ∧ Below w.heap.size w w' := by
  have H := hidden h
  have HT := hidden ht
  have HE := hidden he
  clear h ht he
  go_enter Tryd.func3, Tryd.ntmps3
  go_wp2_with fail
  refine (lwBig_no _ _ _ _ hn).mono ?_
  rintro e w' ⟨rfl, rfl⟩
  go_wp2_with fail
  refine (drawNumberText_any p n c l _ H.out).mono ?_
  rintro e w1 ⟨x, rfl, hx0, hx1, b1⟩
  go_wp2_with fail
  refine (implText_all x _ (by first | exact HT.out.later b1 | exact (HT.out.later b1).later (alloc_below _ _))).mono ?_
  rintro e w2 ⟨rfl, hb2⟩
  have BK := hidden (back x)
  have hz := textB_size x
  have C1 := hidden (specText_all x)
  have C2 := hidden (implText_all x)
  generalize textB x = tb at *
  generalize textC x = tc at *
  have B2 := hidden (show Below w.heap.size w w2 from b1.trans (hb2.mono b1.size))
  clear b1 hb2
  go_wp2_with fail
  refine (drawNumberOf_any p n c l _ ((H.out.keep B2.out).keep (alloc_below _ _))).mono ?_
  rintro e w3 ⟨s, rfl, hs, b3⟩
  have T3 := hidden ((Two.new w2 (.int .i64 tc) (.string tb) 26).keep b3)
  have B3 := hidden (show Below w.heap.size w w3 from (B2.out.alloc B2.out.size _).trans (b3.mono (by simp; have := B2.out.size; omega)))
  clear b3
  generalize w2.heap.size = a2 at *
  go_wp2_with fail
  refine (implNum_all s _ (by omega) (HT.out.later B3.out) (HE.out.later B3.out)).mono ?_
  rintro e w4 ⟨rfl, b4⟩
  have B4 := hidden (show Below w.heap.size w w4 from B3.out.trans (b4.mono B3.out.size))
  have T4 := hidden (T3.out.keep b4)
  clear b4
  have AL := hidden (alone s)
  have C3 := hidden (fun w => specNum_all s w (by omega))
  generalize numR s = uc at *
  go_wp2_with fail
  obtain ⟨uc, uv⟩ := uc
  dsimp only at *
  obtain ⟨W, hW⟩ : ∃ W, W = w4.alloc (Obj.cells #[Value.int IntKind.i64 uc, Value.int IntKind.i64 uv] 30) := ⟨_, rfl⟩
  rw [← hW]
  have B5 := hidden (show Below w.heap.size w W by rw [hW]; exact B4.out.alloc B4.out.size _)
  have T5 := hidden (show Two W a2 (.int .i64 tc) (.string tb) by rw [hW]; exact T4.out.keep (alloc_below _ _))
  have Q5 := hidden (show Two W w4.heap.size (.int .i64 uc) (.int .i64 uv) by rw [hW]; exact Two.new _ _ _ _)
  clear hW B4 T4 T3
  generalize w4.heap.size = a4 at *
  obtain ⟨y1, q1, q2⟩ := id T5.out
  obtain ⟨y2, q3, q4⟩ := id Q5.out
  have S1 := hidden (show ∀ w', Below W.heap.size W w' → Calls Tryd.prog 9 #[.int .i64 x] w' fun e w'' => e = .returned (.agg #[.int .i64 tc, .string tb]) ∧ Below W.heap.size W w'' ∧ w''.cell? ⟨a2, 0, none⟩ = some (.int .i64 tc) ∧ w''.cell? ⟨a4, 0, none⟩ = some (.int .i64 uc) by
    intro w' hw'
    refine (C1.out _).mono ?_
    rintro e w'' ⟨rfl, hb⟩
    have bb := hw'.trans (hb.mono hw'.size)
    exact ⟨rfl, bb, (T5.out.keep bb).c0, (Q5.out.keep bb).c0⟩)
  have S2 := hidden (show ∀ w', Below W.heap.size W w' → Calls Tryd.prog 10 #[.string s] w' fun e w'' => e = .returned (.agg #[.int .i64 uc, .int .i64 uv]) ∧ Below W.heap.size W w'' ∧ w''.cell? ⟨a2, 0, none⟩ = some (.int .i64 tc) ∧ w''.cell? ⟨a4, 0, none⟩ = some (.int .i64 uc) by
    intro w' hw'
    refine (C3.out _).mono ?_
    rintro e w'' ⟨rfl, hb⟩
    have bb := hw'.trans (hb.mono hw'.size)
    exact ⟨rfl, bb, (T5.out.keep bb).c0, (Q5.out.keep bb).c0⟩)
  have F1 := fldT0
  have F2 := fldI0
  clear C1 C3
  go_cut [30] (fun t wc => t = .bool false ∧ Below W.heap.size W wc)
  case first =>
    go_region_with (first | (go_at_call 9; refine (S1.out _ ?_).mono ?_; (first | exact Below.refl _ _ | exact (Below.refl _ _).drew); rintro e w5 ⟨rfl, hb5, hc5, hd5⟩) | (go_at_call 10; refine (S2.out _ ?_).mono ?_; (first | assumption | exact Below.drew (by assumption)); rintro e w6 ⟨rfl, hb6, hc6, hd6⟩))
    all_goals (go_wp2_with fail; go_meet)
    all_goals (first | exact ⟨rfl, hb6⟩ | exact ⟨rfl, hb5⟩)
  case rest =>
    rename World => w5
    obtain ⟨rfl, bc⟩ := hcut
    have B6 := hidden (show Below w.heap.size w w5 from B5.out.trans (bc.mono B5.out.size))
    have T6 := hidden (T5.out.keep bc)
    have Q6 := hidden (Q5.out.keep bc)
    clear bc B5 T5 Q5 S1 S2 q1 q2 q3 q4 y1 y2
    obtain ⟨y1, q1, q2⟩ := id T6.out
    obtain ⟨y2, q3, q4⟩ := id Q6.out
    have F3 := fldT1
    by_cases hu : uc = 0
    · have hv := AL.out hu
      have CV := hidden (implText_all uv)
      rw [hv] at CV
      generalize textC uv = vc at *
      subst hu
      clear hv AL
      go_wp2_with fail
      refine (CV.out _ (HT.out.later B6.out)).mono ?_
      rintro e w6 ⟨rfl, b7⟩
      have B7 := hidden (show Below w.heap.size w w6 from B6.out.trans (b7.mono B6.out.size))
      have T7 := hidden (T6.out.keep b7)
      clear b7 q1 q2 q3 q4 y1 y2 Q6 T6 B6
      obtain ⟨y1, q1, q2⟩ := id T7.out
      by_cases ht : tc = 0
      · have CN := hidden (fun w => implNum_all tb w (by omega))
        rw [BK.out ht] at CN
        subst ht
        clear BK
        go_wp2_with fail
        refine (CN.out _ (HT.out.later B7.out) (HE.out.later B7.out)).mono ?_
        rintro e w7 ⟨rfl, b8⟩
        have B8 := hidden (show Below w.heap.size w w7 from B7.out.trans (b8.mono B7.out.size))
        clear b8 q1 q2 y1 T7 B7
        go_wp2_with fail
        go_ret
        exact ⟨rfl, by first | exact B8.out | exact B8.out.alloc B8.out.size _⟩
      · go_wp2_with fail
        go_ret
        exact ⟨rfl, B7.out⟩
    · by_cases ht : tc = 0
      · have CN := hidden (fun w => implNum_all tb w (by omega))
        rw [BK.out ht] at CN
        subst ht
        clear BK
        go_wp2_with fail
        refine (CN.out _ (HT.out.later B6.out) (HE.out.later B6.out)).mono ?_
        rintro e w7 ⟨rfl, b8⟩
        have B8 := hidden (show Below w.heap.size w w7 from B6.out.trans (b8.mono B6.out.size))
        clear b8 q1 q2 q3 q4 y1 y2 T6 B6 Q6
        go_wp2_with fail
        go_ret
        exact ⟨rfl, by first | exact B8.out | exact B8.out.alloc B8.out.size _⟩
      · go_wp2_with fail
        go_ret
        exact ⟨rfl, B6.out⟩

end Go.Proofs.YtcjpmpbepmjgkaaDoor
