/- Law FnExactBegins: at every two lists of bytes the program's Begins answers as the model's, and leaves both as they were. -/
import Derived.Test.YtcjpmpbepmjgkalBeg
namespace Go.Proofs.Ytcjpmpbepmjgkal
open Go.RowKit

set_option maxHeartbeats 800000 in
theorem law_begins_big (p p' : Option Addr) (n c n' c' : Nat) (w : World) (h : 1048576 < n ∨ 1048576 < n') :
    Calls Try.prog 7 #[.slice p n c, .slice p' n' c'] w fun e w' => e = .returned (.bool true) ∧ Below w.heap.size w w' := by
  by_cases h1 : 1048576 < n
  · go_enter Try.func7, Try.ntmps7
    go_wp2
    go_ret
    exact ⟨rfl, Below.refl _ _⟩
  · have h2 : 1048576 < n' := h.resolve_left h1
    clear h
    go_enter Try.func7, Try.ntmps7
    go_wp2
    go_ret
    exact ⟨rfl, Below.refl _ _⟩

set_option maxHeartbeats 800000 in
theorem law_begins (p p' : Option Addr) (n c n' c' : Nat) (l l' : List Int) (w : World) (h : Src w p n l) (h' : Src w p' n' l') :
    Calls Try.prog 7 #[.slice p n c, .slice p' n' c'] w fun e w' => e = .returned (.bool true) ∧ Below w.heap.size w w' := by
  have hm := h.2.1
  have hm' := h'.2.1
  generalize hB : begB l l' = B
  have HB : Hid _ := hB
  clear hB
  go_enter Try.func7, Try.ntmps7
  go_wp2_with fail
  refine (toByteS_new _ _ _ l _ h).mono ?_
  rintro e w1 ⟨g1, rfl, hg1, r1, b1⟩
  go_wp2_with fail
  refine (toByteS_new _ _ _ l' _ (h'.later b1)).mono ?_
  rintro e w2 ⟨g2, rfl, hg2, r2, hb2⟩
  have b2 : Below w.heap.size w w2 := b1.trans (hb2.mono b1.size)
  have s2 := r1.later hb2 r1.blk
  clear hb2 r1 b1
  go_wp2_with fail
  refine (specBegins_any _ _ _ _ _ _ _ _ l l' _ s2 r2).mono ?_
  rw [HB.out]
  rintro e w3 ⟨rfl, hb3⟩
  have b3 : Below w.heap.size w w3 := b2.trans (hb3.mono b2.size)
  clear hb3 b2 s2 r2
  go_wp2_with fail
  refine (toByteS_new _ _ _ l _ (h.later b3)).mono ?_
  rintro e w4 ⟨g4, rfl, hg4, r4, hb4⟩
  have b4 : Below w.heap.size w w4 := b3.trans (hb4.mono b3.size)
  clear hb4 b3
  go_wp2_with fail
  refine (toByteS_new _ _ _ l' _ (h'.later b4)).mono ?_
  rintro e w5 ⟨g5, rfl, hg5, r5, hb5⟩
  have b5 : Below w.heap.size w w5 := b4.trans (hb5.mono b4.size)
  have s5 := r4.later hb5 r4.blk
  clear hb5 b4 r4
  go_wp2_with fail
  refine (implBegins_any _ _ _ _ _ _ _ _ l l' _ s5 r5 (Nat.le_refl _)).mono ?_
  rw [HB.out]
  rintro e w6 ⟨rfl, rfl⟩
  go_wp2_with fail
  refine (toByteS_new _ _ _ l _ (h.later b5)).mono ?_
  rintro e w7 ⟨g7, rfl, hg7, r7, hb7⟩
  have b7 : Below w.heap.size w w7 := b5.trans (hb7.mono b5.size)
  have s7 := s5.later hb7 s5.blk
  have t7 := r5.later hb7 r5.blk
  clear hb7 b5 s5 r5
  go_wp2_with fail
  refine (eqByteS_eq _ _ _ _ _ _ _ l _ s7 r7).mono ?_
  rintro e w8 ⟨rfl, hb8⟩
  have b8 : Below w.heap.size w w8 := b7.trans (hb8.mono b7.size)
  have t8 := t7.later hb8 t7.blk
  clear hb8 b7 s7 t7 r7
  go_wp2_with fail
  refine (toByteS_new _ _ _ l' _ (h'.later b8)).mono ?_
  rintro e w9 ⟨g9, rfl, hg9, r9, hb9⟩
  have b9 : Below w.heap.size w w9 := b8.trans (hb9.mono b8.size)
  have t9 := t8.later hb9 t8.blk
  clear hb9 b8 t8
  go_wp2_with fail
  refine (eqByteS_eq _ _ _ _ _ _ _ l' _ t9 r9).mono ?_
  rintro e wa ⟨rfl, hba⟩
  have ba : Below w.heap.size w wa := b9.trans (hba.mono b9.size)
  clear hba b9 t9 r9
  go_wp2_with fail
  go_ret
  exact ⟨rfl, ba⟩

end Go.Proofs.Ytcjpmpbepmjgkal
