/- Law FnExactCompareBytes: at every two lists of bytes the program's CompareBytes answers as the model's, and leaves both as they were. -/
import Derived.Test.YtcjpmpbepmjgkalCmp
namespace Go.Proofs.Ytcjpmpbepmjgkal
open Go.RowKit

set_option maxHeartbeats 800000 in
theorem law_cmp_big (p p' : Option Addr) (n c n' c' : Nat) (w : World) (h : 1048576 < n ∨ 1048576 < n') :
    Calls Try.prog 6 #[.slice p n c, .slice p' n' c'] w fun e w' => e = .returned (.bool true) ∧ Below w.heap.size w w' := by
  by_cases h1 : 1048576 < n
  · go_enter Try.func6, Try.ntmps6
    go_wp2
    go_ret
    exact ⟨rfl, Below.refl _ _⟩
  · have h2 : 1048576 < n' := h.resolve_left h1
    clear h
    go_enter Try.func6, Try.ntmps6
    go_wp2
    go_ret
    exact ⟨rfl, Below.refl _ _⟩

set_option maxHeartbeats 800000 in
theorem law_cmp (p p' : Option Addr) (n c n' c' : Nat) (l l' : List Int) (w : World) (h : Src w p n l) (h' : Src w p' n' l') :
    Calls Try.prog 6 #[.slice p n c, .slice p' n' c'] w fun e w' => e = .returned (.bool true) ∧ Below w.heap.size w w' := by
  have hm := h.2.1
  have hm' := h'.2.1
  generalize hC : cmpC l l' = sc
  generalize hV : cmpV l l' = sv
  have HC : Hid _ := hC
  have HV : Hid _ := hV
  clear hC hV
  go_enter Try.func6, Try.ntmps6
  go_wp2_with fail
  refine (toByteS_new _ _ _ l _ h).mono ?_
  rintro e w1 ⟨g1, rfl, hg1, r1, b1⟩
  go_wp2_with fail
  refine (toByteS_new _ _ _ l' _ (h'.later b1)).mono ?_
  rintro e w2 ⟨g2, rfl, hg2, r2, hb2⟩
  have b2 : Below w.heap.size w w2 := b1.trans (hb2.mono b1.size)
  have s2 := r1.later hb2 r1.blk
  clear hb2 r1 b1
  go_wp2_with fail
  refine (specCmp_all _ _ _ _ _ _ _ _ l l' _ s2 r2).mono ?_
  rw [HC.out, HV.out]
  rintro e w3 ⟨rfl, hb3⟩
  have b3 : Below w.heap.size w w3 := b2.trans (hb3.mono b2.size)
  clear hb3 b2 s2 r2
  go_wp2_with fail
  refine (toByteS_new _ _ _ l _ (h.later (b3.alloc b3.size _))).mono ?_
  rintro e w4 ⟨g4, rfl, hg4, r4, hb4⟩
  have b4 : Below w.heap.size w w4 := (b3.alloc b3.size _).trans (hb4.mono (by simp; have := b3.size; omega))
  have t4 := (Two.new w3 (.int .i64 sc) (.int .i64 sv) 24).later hb4 (by simp)
  clear hb4 b3
  go_wp2_with fail
  refine (toByteS_new _ _ _ l' _ (h'.later b4)).mono ?_
  rintro e w5 ⟨g5, rfl, hg5, r5, hb5⟩
  have b5 : Below w.heap.size w w5 := b4.trans (hb5.mono b4.size)
  have s5 := r4.later hb5 r4.blk
  have t5 := t4.later hb5 t4.blk
  clear hb5 b4 r4 t4
  go_wp2_with fail
  refine (implCmp_all _ _ _ _ _ _ _ _ l l' _ s5 r5).mono ?_
  rw [HC.out, HV.out]
  rintro e w6 ⟨rfl, hb6⟩
  have b6 : Below w.heap.size w w6 := b5.trans (hb6.mono b5.size)
  have s6 := s5.later hb6 s5.blk
  have r6 := r5.later hb6 r5.blk
  obtain ⟨t6, q0, q1⟩ := t5.later hb6 t5.blk
  clear hb6 b5 s5 r5 t5
  go_wp2_with fail
  refine (eqInt_eq _ _ _).mono ?_
  rintro e w7 ⟨rfl, hb7⟩
  have b7 : Below w.heap.size w w7 := (b6.alloc b6.size _).trans (hb7.mono (by simp; have := b6.size; omega))
  have s7 := (s6.later ((Below.refl _ _).alloc (Nat.le_refl _) _) s6.blk).later hb7 (by have := s6.blk; simp; omega)
  have r7 := (r6.later ((Below.refl _ _).alloc (Nat.le_refl _) _) r6.blk).later hb7 (by have := r6.blk; simp; omega)
  clear hb7 b6 s6 r6 q0 q1 t6
  go_wp2_with fail
  refine (toByteS_new _ _ _ l _ (h.later b7)).mono ?_
  rintro e w8 ⟨g8, rfl, hg8, r8, hb8⟩
  have b8 : Below w.heap.size w w8 := b7.trans (hb8.mono b7.size)
  have s8 := s7.later hb8 s7.blk
  have t8 := r7.later hb8 r7.blk
  clear hb8 b7 s7 r7
  go_wp2_with fail
  refine (eqByteS_eq _ _ _ _ _ _ _ l _ s8 r8).mono ?_
  rintro e w9 ⟨rfl, hb9⟩
  have b9 : Below w.heap.size w w9 := b8.trans (hb9.mono b8.size)
  have t9 := t8.later hb9 t8.blk
  clear hb9 b8 s8 t8 r8
  go_wp2_with fail
  refine (toByteS_new _ _ _ l' _ (h'.later b9)).mono ?_
  rintro e wa ⟨ga, rfl, hga, ra, hba⟩
  have ba : Below w.heap.size w wa := b9.trans (hba.mono b9.size)
  have ta := t9.later hba t9.blk
  clear hba b9 t9
  go_wp2_with fail
  refine (eqByteS_eq _ _ _ _ _ _ _ l' _ ta ra).mono ?_
  rintro e wb ⟨rfl, hbb⟩
  have bb : Below w.heap.size w wb := ba.trans (hbb.mono ba.size)
  clear hbb ba ta ra
  go_wp2_with fail
  go_ret
  exact ⟨rfl, bb⟩

end Go.Proofs.Ytcjpmpbepmjgkal
