/- Law FnExactPairOf: at every number the program's PairOf answers as the model's, and its answer owns its memory. -/
import Derived.Test.YtcjpmpbepmjgkalPairOf
namespace Go.Proofs.Ytcjpmpbepmjgkal
open Go.RowKit

theorem ownsRow_later {w w' : World} {B B' e size g n c : Nat} {xs : List Value} (h : w.ownsRow B e size (.slice (some ⟨g, 0, none⟩) n c) n xs) (hb : Below B' w w') (hg : g < B') : w'.ownsRow B e size (.slice (some ⟨g, 0, none⟩) n c) n xs := by
  refine ⟨h.1, h.2.imp id ?_⟩
  rintro ⟨g', cap, cur, h1, h2, h3, h4⟩
  have e : g' = g := by simp at h1; exact h1.1.symm
  subst e
  exact ⟨g', cap, cur, h1, h2, by rw [hb.block g' hg]; exact h3, h4⟩

theorem Two.grown {w w' : World} {b g : Nat} {x y : Value} (h : Two w b x y) (hg : w.grownBy w' (some g)) (hne : b ≠ g) : Two w' b x y :=
  ⟨Nat.lt_of_lt_of_le h.blk hg.size, hg.cell h.c0 (by simpa using hne), hg.cell h.c1 (by simpa using hne)⟩

theorem Row.grown {w w' : World} {b off n g : Nat} {l : List Int} (h : Row w b off n l) (hg : w.grownBy w' (some g)) (hne : b ≠ g) : Row w' b off n l :=
  ⟨h.len, h.most, h.byt, Nat.lt_of_lt_of_le h.blk hg.size, fun i hi => hg.cell (h.cell i hi) (by simpa using hne)⟩

theorem alloc_below (w : World) (o : Obj) : Below w.heap.size w (w.alloc o) := (Below.refl _ _).alloc (Nat.le_refl _) o

theorem pair_byt (n : Int) (h0 : 0 ≤ n) (h1 : n ≤ 65535) (i : Nat) : 0 ≤ [n / 256, n % 256].getD i 0 ∧ [n / 256, n % 256].getD i 0 ≤ 255 := by
  match i with
  | 0 => simp; omega
  | 1 => simp; omega
  | k + 2 => simp

set_option maxHeartbeats 1600000 in
theorem law_pairOf_in (n : Int) (w : World) (h0 : 0 ≤ n) (h1 : n ≤ 65535) :
    Calls Try.prog 4 #[.int .i64 n] w fun e w' => e = .returned (.bool true) ∧ Below w.heap.size w w' := by
  have HB : Hid _ := pair_byt n h0 h1
  go_enter Try.func4, Try.ntmps4
  go_wp2_with fail
  refine (specPairOf_in n _ h0 h1).mono ?_
  rintro e w1 ⟨g1, rfl, hg1, r1, b1⟩
  go_wp2_with fail
  refine (implPairOf_in n _ h0 h1).mono ?_
  rintro e w2 ⟨g2, d2, rfl, hg2, o2, hb2⟩
  have b2 : Below w.heap.size w w2 := (b1.alloc b1.size _).trans (hb2.mono (by simp; have := b1.size; omega))
  have t2 := (Two.new w1 (.int .i64 0) (.slice (some ⟨g1, 0, none⟩) 2 2) 31).later hb2 (by simp)
  have s2 := (r1.later (alloc_below _ _) r1.blk).later hb2 (by have := r1.blk; simp; omega)
  have n2 : g1 < g2 := by have := r1.blk; simp at hg2; omega
  have m2 : w1.heap.size < g2 := by simp at hg2; omega
  have k2 : w.heap.size ≤ g2 := by have := b1.size; omega
  have l2 := (o2.lt g2 rfl).2
  simp only [World.size_alloc] at o2
  clear hb2 r1 hg2
  obtain ⟨y2, q0, q1⟩ := id t2
  go_wp2_with fail
  refine (eqBytes_eq _ _ _ _ _ _ _ _ [n / 256, n % 256] _ ((ownRow o2 (by omega) HB.out).later (alloc_below _ _) l2) (s2.later (alloc_below _ _) s2.blk)).mono ?_
  rintro e w3 ⟨rfl, hb3⟩
  have b3 : Below w.heap.size w w3 := (b2.alloc b2.size _).trans (hb3.mono (by simp; have := b2.size; omega))
  have t3 := (t2.later (alloc_below _ _) t2.blk).later hb3 (by have := t2.blk; simp; omega)
  have v3 := (Two.new w2 (.int .i64 0) (.slice (some ⟨g2, 0, none⟩) 2 d2) 31).later hb3 (by simp)
  have s3 := (s2.later (alloc_below _ _) s2.blk).later hb3 (by have := s2.blk; simp; omega)
  have o3 := ownsRow_later (ownsRow_later o2 (alloc_below _ _) l2) hb3 (by simp; omega)
  clear hb3 q0 q1 y2 t2 s2 o2
  obtain ⟨y3, q0, q1⟩ := id v3
  go_wp2_with fail
  refine (markBytes_any 0 _ _ _ _ 1 _ _ o3 (by omega) (by omega) (by omega)).mono ?_
  rintro e w4 ⟨rfl, o4, hg4⟩
  have b4 : Below w.heap.size w w4 := b3.grown hg4 b3.size (fun k hk => by cases hk; exact k2)
  have t4 := t3.grown hg4 (by omega)
  have v4 := v3.grown hg4 (by omega)
  have s4 := s3.grown hg4 (by omega)
  clear hg4 q0 q1 y3 t3 v3 s3 o3 b3
  obtain ⟨y4, q0, q1⟩ := id v4
  go_wp2_with fail
  refine (heldBytes_any 0 _ _ _ _ 1 _ o4 (by omega) (by omega) (by omega)).mono ?_
  rintro e w5 ⟨rfl, hb5⟩
  have b5 : Below w.heap.size w w5 := b4.trans (hb5.mono b4.size)
  have t5 := t4.later hb5 t4.blk
  have v5 := v4.later hb5 v4.blk
  have s5 := s4.later hb5 s4.blk
  have l5 := (o4.lt g2 rfl).2
  have o5 := ownsRow_later o4 hb5 l5
  have z5 := hb5.size
  clear hb5 q0 q1 y4 t4 v4 s4 o4 b4
  go_wp2_with fail
  refine (implPairOf_in n _ h0 h1).mono ?_
  rintro e w6 ⟨g6, d6, rfl, hg6, o6, hb6⟩
  have b6 : Below w.heap.size w w6 := b5.trans (hb6.mono b5.size)
  have t6 := t5.later hb6 t5.blk
  have v6 := v5.later hb6 v5.blk
  have s6 := s5.later hb6 s5.blk
  have p6 := ownsRow_later o5 hb6 (by omega)
  have l6 := (o6.lt g6 rfl).2
  have k6 := (p6.lt g2 rfl).2
  clear hb6 t5 v5 s5 o5 b5
  obtain ⟨y6, q0, q1⟩ := id t6
  go_wp2_with fail
  refine (eqBytes_eq _ _ _ _ _ _ _ _ [n / 256, n % 256] _ ((ownRow o6 (by omega) HB.out).later (alloc_below _ _) l6) (s6.later (alloc_below _ _) s6.blk)).mono ?_
  rintro e w7 ⟨rfl, hb7⟩
  have b7 : Below w.heap.size w w7 := (b6.alloc b6.size _).trans (hb7.mono (by simp; have := b6.size; omega))
  have v7 := (v6.later (alloc_below _ _) v6.blk).later hb7 (by have := v6.blk; simp; omega)
  have p7 := ownsRow_later (ownsRow_later p6 (alloc_below _ _) k6) hb7 (by simp; omega)
  clear hb7 q0 q1 y6 t6 v6 s6 o6 p6 b6
  obtain ⟨y7, q0, q1⟩ := id v7
  go_wp2_with fail
  refine (heldBytes_any 0 _ _ _ _ 1 _ p7 (by omega) (by omega) (by omega)).mono ?_
  rintro e w8 ⟨rfl, hb8⟩
  have b8 : Below w.heap.size w w8 := b7.trans (hb8.mono b7.size)
  clear hb8 q0 q1 y7 v7 p7 b7
  go_wp2_with fail
  go_ret
  exact ⟨rfl, b8⟩

set_option maxHeartbeats 1600000 in
theorem law_pairOf_out (n : Int) (w : World) (hn : n < 0 ∨ 65535 < n) :
    Calls Try.prog 4 #[.int .i64 n] w fun e w' => e = .returned (.bool true) ∧ Below w.heap.size w w' := by
  have HN : Hid _ := hn
  clear hn
  go_enter Try.func4, Try.ntmps4
  go_wp2_with fail
  refine (specPairOf_out n _ HN.out).mono ?_
  rintro e w1 ⟨rfl, b1⟩
  go_wp2_with fail
  refine (implPairOf_out n _ HN.out).mono ?_
  rintro e w2 ⟨rfl, hb2⟩
  have b2 : Below w.heap.size w w2 := (b1.alloc b1.size _).trans (hb2.mono (by simp; have := b1.size; omega))
  have t2 := (Two.new w1 (.int .i64 3) (.slice none 0 0) 31).later hb2 (by simp)
  clear hb2
  obtain ⟨y2, q0, q1⟩ := id t2
  go_wp2_with fail
  refine (eqBytes_none _ _).mono ?_
  rintro e w3 ⟨rfl, hb3⟩
  have b3 : Below w.heap.size w w3 := (b2.alloc b2.size _).trans (hb3.mono (by simp; have := b2.size; omega))
  have t3 := (t2.later (alloc_below _ _) t2.blk).later hb3 (by have := t2.blk; simp; omega)
  have v3 := (Two.new w2 (.int .i64 3) (.slice none 0 0) 31).later hb3 (by simp)
  clear hb3 q0 q1 y2 t2
  obtain ⟨y3, q0, q1⟩ := id v3
  go_wp2_with fail
  refine (markBytes_none 3 1 _).mono ?_
  rintro e w4 ⟨rfl, hb4⟩
  have b4 : Below w.heap.size w w4 := b3.trans (hb4.mono b3.size)
  have t4 := t3.later hb4 t3.blk
  have v4 := v3.later hb4 v3.blk
  clear hb4 q0 q1 y3 t3 v3 b3
  obtain ⟨y4, q0, q1⟩ := id v4
  go_wp2_with fail
  refine (heldBytes_none 3 1 (by omega) _).mono ?_
  rintro e w5 ⟨rfl, hb5⟩
  have b5 : Below w.heap.size w w5 := b4.trans (hb5.mono b4.size)
  have t5 := t4.later hb5 t4.blk
  have v5 := v4.later hb5 v4.blk
  clear hb5 q0 q1 y4 t4 v4 b4
  go_wp2_with fail
  refine (implPairOf_out n _ HN.out).mono ?_
  rintro e w6 ⟨rfl, hb6⟩
  have b6 : Below w.heap.size w w6 := b5.trans (hb6.mono b5.size)
  have t6 := t5.later hb6 t5.blk
  have v6 := v5.later hb6 v5.blk
  clear hb6 t5 v5 b5
  obtain ⟨y6, q0, q1⟩ := id t6
  go_wp2_with fail
  refine (eqBytes_none _ _).mono ?_
  rintro e w7 ⟨rfl, hb7⟩
  have b7 : Below w.heap.size w w7 := (b6.alloc b6.size _).trans (hb7.mono (by simp; have := b6.size; omega))
  have v7 := (v6.later (alloc_below _ _) v6.blk).later hb7 (by have := v6.blk; simp; omega)
  clear hb7 q0 q1 y6 t6 v6 b6
  obtain ⟨y7, q0, q1⟩ := id v7
  go_wp2_with fail
  refine (heldBytes_none 3 1 (by omega) _).mono ?_
  rintro e w8 ⟨rfl, hb8⟩
  have b8 : Below w.heap.size w w8 := b7.trans (hb8.mono b7.size)
  clear hb8 q0 q1 y7 v7 b7
  go_wp2_with fail
  go_ret
  exact ⟨rfl, b8⟩

end Go.Proofs.Ytcjpmpbepmjgkal
