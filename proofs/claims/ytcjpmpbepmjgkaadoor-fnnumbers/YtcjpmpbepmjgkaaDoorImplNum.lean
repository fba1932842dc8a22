/- Contracts: the number of a text, as the program reads it. -/
import Derived.Test.YtcjpmpbepmjgkaaDoorSpecNum
namespace Go.Proofs.YtcjpmpbepmjgkaaDoor
open Go.RowKit

/-- The two variables that the library hands on hold interface values. -/
structure Errs (w : World) : Prop where
  e1 : ∃ t v, w.cell? ⟨1, 0, none⟩ = some (.iface t v)
  e2 : ∃ t v, w.cell? ⟨2, 0, none⟩ = some (.iface t v)

theorem Errs.later {w w' : World} (h : Errs w) (hb : Below w.heap.size w w') : Errs w' := by
  obtain ⟨⟨t1, v1, h1⟩, ⟨t2, v2, h2⟩⟩ := h
  have l1 := World.block_lt_of_cell? w _ h1
  have l2 := World.block_lt_of_cell? w _ h2
  exact ⟨⟨t1, v1, by rw [hb.cell (p := ⟨1, 0, none⟩) l1]; exact h1⟩, ⟨t2, v2, by rw [hb.cell (p := ⟨2, 0, none⟩) l2]; exact h2⟩⟩

theorem bytes_below (w : World) (s : ByteArray) : Below w.heap.size w (Lib.bytesWorld w 5 s) := by
  have h1 : Below w.heap.size w (w.drew.alloc (.cells (Lib.bytesCells w 5 s) 5)) := (Below.refl _ _).drew.alloc (Nat.le_refl _) _
  refine h1.trans ⟨rfl, rfl, rfl, ?_, ?_⟩
  · simp [Lib.bytesWorld, World.freeze]
  · intro k hk
    simp only [Lib.bytesWorld, World.freeze]
    rw [if_neg (by omega)]
    show (Array.modify _ _ _)[k]? = _
    rw [Array.getElem?_modify, if_neg (by omega)]

theorem parse_ok (s : ByteArray) (hs : s.size ≤ 1048576) (v : Int) (h : Lib.parseIntB 64 s.data.toList = .ok v) (w : World) :
    Calls Tryd.prog 16 #[.string s, .int .i64 10, .int .i64 64] w fun e w' => e = .returned (.tuple #[.int .i64 v, .nilIface]) ∧ Below w.heap.size w w' := by
  refine (show Calls Tryd.prog 16 #[.string s, .int .i64 10, .int .i64 64] w fun e w' => e = .returned (.tuple #[.int .i64 v, .nilIface]) ∧ (w' = w ∨ ∃ t, w' = Lib.bytesWorld w 5 t) from Any.strconv_ParseInt_10_at64_ok Tryd.laysC174 s (by omega) v h w).mono ?_
  rintro e w' ⟨rfl, rfl | ⟨t, rfl⟩⟩
  · exact ⟨rfl, Below.refl _ _⟩
  · exact ⟨rfl, bytes_below _ _⟩

theorem parse_bad (s : ByteArray) (hs : s.size ≤ 1048576) (h : ∀ v, Lib.parseIntB 64 s.data.toList ≠ .ok v) (w : World) (he : Errs w) :
    Calls Tryd.prog 16 #[.string s, .int .i64 10, .int .i64 64] w fun e w' => ∃ (x : Int) (N : Nat), e = .returned (.tuple #[.int .i64 x, .iface 59 (.pointer (some ⟨N, 0, none⟩))]) ∧ Below w.heap.size w w' := by
  obtain ⟨⟨t1, v1, h1⟩, ⟨t2, v2, h2⟩⟩ := he
  cases hr : Lib.parseIntB 64 s.data.toList with
  | ok v => exact absurd hr (h v)
  | range =>
    refine (show Calls Tryd.prog 16 #[.string s, .int .i64 10, .int .i64 64] w _ from Any.strconv_ParseInt_10_at64_range Tryd.laysC174 s (by omega) hr _ w h2 (Or.inr ⟨_, _, rfl⟩)).mono ?_
    rintro e w' ⟨N, rfl, _, _, hb⟩
    exact ⟨_, N, rfl, hb⟩
  | _ =>
    refine (show Calls Tryd.prog 16 #[.string s, .int .i64 10, .int .i64 64] w _ from Any.strconv_ParseInt_10_at64_syntax Tryd.laysC174 s (by omega) hr _ w h1 (Or.inr ⟨_, _, rfl⟩)).mono ?_
    rintro e w' ⟨N, rfl, _, _, hb⟩
    exact ⟨_, N, rfl, hb⟩

set_option maxHeartbeats 1600000 in
theorem implNum_bad (s : ByteArray) (w : World) (hs : s.size ≤ 1048576) (h : ∀ v, Lib.parseIntB 64 s.data.toList ≠ .ok v) (he : Errs w) :
    Calls Tryd.prog 8 #[.string s] w fun e w' => e = .returned (.agg #[.int .i64 5, .int .i64 0]) ∧ Below w.heap.size w w' := by
  have C := hidden (fun w he => parse_bad s hs h w he)
  have HE := hidden he
  clear h he
  go_enter Tryd.func8, Tryd.ntmps8
  go_wp2_with fail
  refine (C.out _ (HE.out.later (alloc_below _ _))).mono ?_
  rintro e w1 ⟨x, N, rfl, hb⟩
  obtain ⟨bb, hz, q0, q1, f0, f1⟩ := cellFacts hb
  clear hb
  go_wp2_with fail
  exact bodyPost_ret (v := .agg #[.int .i64 5, .int .i64 0]) (by simp [results, Tryd.results8, go_sem, q0, q1]) rfl ⟨rfl, (bb.setCell (by simp) _).setCell (by simp) _⟩

theorem toList_ne {a b : ByteArray} (h : ¬ a = b) : (a.toList == b.toList) = false := by
  rw [beq_eq_false_iff_ne, Lib.toList_data, Lib.toList_data]
  intro e
  exact h (ByteArray.ext (Array.toList_inj.1 e))

set_option maxHeartbeats 1600000 in
theorem implNum_ok (s : ByteArray) (w : World) (hs : s.size ≤ 1048576) (v : Int) (h : Lib.parseIntB 64 s.data.toList = .ok v) (ht : Tab w) (R : Value)
    (hyes : textC v = 0 → textB v = s → R = .agg #[.int .i64 0, .int .i64 v]) (hno : ¬ (textC v = 0 ∧ textB v = s) → R = .agg #[.int .i64 5, .int .i64 0]) :
    Calls Tryd.prog 8 #[.string s] w fun e w' => e = .returned R ∧ Below w.heap.size w w' := by
  have C := hidden (fun w => parse_ok s hs v h w)
  have HT := hidden ht
  have CT := hidden (implText_all v)
  have HY := hidden hyes
  have HN := hidden hno
  clear h ht hyes hno
  generalize textC v = tc at *
  generalize textB v = tb at *
  go_enter Tryd.func8, Tryd.ntmps8
  go_wp2_with fail
  refine (C.out _).mono ?_
  rintro e w1 ⟨rfl, hb⟩
  have HT1 := hidden ((HT.out.later (alloc_below _ _)).later hb)
  obtain ⟨bb, hz, q0, q1, f0, f1⟩ := cellFacts hb
  clear hb
  go_wp2_with fail
  refine (CT.out _ HT1.out).mono ?_
  rintro e w2 ⟨rfl, hb⟩
  have b2 : Below w.heap.size w w2 := bb.trans (hb.mono (by have := hz; omega))
  have hz2 : w.heap.size < w2.heap.size := Nat.lt_of_lt_of_le hz hb.size
  rw [← hb.cell (p := ⟨w.heap.size, 0, none⟩) hz] at q0
  rw [← hb.cell (p := ⟨w.heap.size, 1, none⟩) hz] at q1
  rw [← hb.frozen (p := ⟨w.heap.size, 0, none⟩) hz] at f0
  rw [← hb.frozen (p := ⟨w.heap.size, 1, none⟩) hz] at f1
  clear hb hz
  by_cases h1 : tc = 0
  · by_cases h2 : tb = s
    · have HR := hidden (HY.out h1 h2)
      subst h1 h2
      clear HN HY
      go_wp2_with fail
      exact bodyPost_ret (v := .agg #[.int .i64 0, .int .i64 v]) (by simp [results, Tryd.results8, go_sem, q0, q1]) rfl ⟨by rw [HR.out], (b2.setCell (by simp) _).setCell (by simp) _⟩
    · have HR := hidden (HN.out (fun h => h2 h.2))
      have h3 := toList_ne h2
      subst h1
      clear HN HY h2
      go_wp2_with fail
      exact bodyPost_ret (v := .agg #[.int .i64 5, .int .i64 0]) (by simp [results, Tryd.results8, go_sem, q0, q1]) rfl ⟨by rw [HR.out], (b2.setCell (by simp) _).setCell (by simp) _⟩
  · have HR := hidden (HN.out (fun h => h1 h.1))
    clear HN HY
    go_wp2_with fail
    exact bodyPost_ret (v := .agg #[.int .i64 5, .int .i64 0]) (by simp [results, Tryd.results8, go_sem, q0, q1]) rfl ⟨by rw [HR.out], (b2.setCell (by simp) _).setCell (by simp) _⟩

end Go.Proofs.YtcjpmpbepmjgkaaDoor
