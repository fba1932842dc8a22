/- Law FnExactPairAt: at every list of bytes and every place the program's PairAt answers as the model's, and leaves the list as it was. -/
import Derived.Test.YtcjpmpbepmjgkalPair
namespace Go.Proofs.Ytcjpmpbepmjgkal
open Go.RowKit

set_option maxHeartbeats 800000 in
theorem law_pairAt_big (p : Option Addr) (n c : Nat) (x : Int) (w : World) (h : 1048576 < n) :
    Calls Try.prog 5 #[.slice p n c, .int .i64 x] w fun e w' => e = .returned (.bool true) ∧ Below w.heap.size w w' := by
  go_enter Try.func5, Try.ntmps5
  go_wp2
  go_ret
  exact ⟨rfl, Below.refl _ _⟩

set_option maxHeartbeats 800000 in
theorem law_pairAt (p : Option Addr) (n c : Nat) (l : List Int) (x : Int) (w : World) (h : Src w p n l) :
    Calls Try.prog 5 #[.slice p n c, .int .i64 x] w fun e w' => e = .returned (.bool true) ∧ Below w.heap.size w w' := by
  have hm := h.2.1
  generalize hC : pairC l x = sc
  generalize hV : pairV l x = sv
  have HC : Hid _ := hC
  have HV : Hid _ := hV
  clear hC hV
  go_enter Try.func5, Try.ntmps5
  go_wp2_with fail
  refine (toByteS_new _ _ _ l _ h).mono ?_
  rintro e w1 ⟨g1, rfl, hg1, r1, b1⟩
  go_wp2_with fail
  refine (specPairAt_all _ _ _ _ l _ _ r1).mono ?_
  rw [HC.out, HV.out]
  rintro e w2 ⟨rfl, hb2⟩
  have b2 : Below w.heap.size w w2 := b1.trans (hb2.mono b1.size)
  clear hb2 r1 b1
  go_wp2_with fail
  refine (toByteS_new _ _ _ l _ (h.later (b2.alloc b2.size _))).mono ?_
  rintro e w3 ⟨g3, rfl, hg3, r3, hb3⟩
  have b3 : Below w.heap.size w w3 := (b2.alloc b2.size _).trans (hb3.mono (by simp; have := b2.size; omega))
  have t3 := (Two.new w2 (.int .i64 sc) (.int .i64 sv) 24).later hb3 (by simp)
  clear hb3 b2 hg3
  go_wp2_with fail
  refine (implPairAt_all _ _ _ _ l _ _ r3 (Nat.le_refl _)).mono ?_
  rw [HC.out, HV.out]
  rintro e w4 ⟨rfl, hb4⟩
  have b4 : Below w.heap.size w w4 := b3.trans (hb4.mono b3.size)
  have r4 := r3.later hb4 r3.blk
  obtain ⟨t4, q0, q1⟩ := t3.later hb4 t3.blk
  clear hb4 r3 b3 t3
  go_wp2_with fail
  refine (eqInt_eq _ _ _).mono ?_
  rintro e w5 ⟨rfl, hb5⟩
  have b5 : Below w.heap.size w w5 := (b4.alloc b4.size _).trans (hb5.mono (by simp; have := b4.size; omega))
  have r5 := (r4.later ((Below.refl _ _).alloc (Nat.le_refl _) _) r4.blk).later hb5 (by have := r4.blk; simp; omega)
  clear hb5 r4 b4 q0 q1 t4
  go_wp2_with fail
  refine (toByteS_new _ _ _ l _ (h.later b5)).mono ?_
  rintro e w6 ⟨g6, rfl, hg6, r6, hb6⟩
  have b6 : Below w.heap.size w w6 := b5.trans (hb6.mono b5.size)
  have s6 := r5.later hb6 r5.blk
  clear hb6 r5 b5 hg6
  go_wp2_with fail
  refine (eqByteS_eq _ _ _ _ _ _ _ l _ s6 r6).mono ?_
  rintro e w7 ⟨rfl, hb7⟩
  have b7 : Below w.heap.size w w7 := b6.trans (hb7.mono b6.size)
  clear hb7 s6 r6 b6
  go_wp2_with fail
  go_ret
  exact ⟨rfl, b7⟩

end Go.Proofs.Ytcjpmpbepmjgkal
