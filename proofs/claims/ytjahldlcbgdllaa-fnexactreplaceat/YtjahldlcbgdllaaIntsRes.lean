/- Contracts: answers that hold a list of numbers: compared, marked, looked at again. -/
import Derived.Test.YtjahldlcbgdllaaRaise
namespace Go.Proofs.Ytjahldlcbgdllaa
open Go.RowKit

set_option maxHeartbeats 800000 in
theorem eqInts_eq (z : Int) (b b' n c c' : Nat) (L : Nat → Int) (w : World) (h : Ints w b 0 n L) (h' : Ints w b' 0 n L) (hn : n ≤ 1048576) :
    Calls Try.prog 37 #[.agg #[.int .i64 z, .slice (some ⟨b, 0, none⟩) n c], .agg #[.int .i64 z, .slice (some ⟨b', 0, none⟩) n c']] w fun e w' => e = .returned (.bool true) ∧ Below w.heap.size w w' := by
  have h1 := fun o1 o2 => (h.keep (alloc_below w o1)).keep (alloc_below _ o2)
  have h2 := fun o1 o2 => (h'.keep (alloc_below w o1)).keep (alloc_below _ o2)
  go_enter Try.func37, Try.ntmps37
  go_wp2_with fail
  refine (eqInt64S_eq _ _ _ _ _ _ _ L _ (h1 _ _) (h2 _ _) hn).mono ?_
  rintro e w' ⟨rfl, hb⟩
  have bb := keepB (keepB (alloc_below w _) (alloc_below _ _)) hb
  clear hb h1 h2
  go_wp2
  go_ret
  exact ⟨rfl, bb⟩

set_option maxHeartbeats 400000 in
theorem eqInt64S_none (w : World) :
    Calls Try.prog 18 #[.slice none 0 0, .slice none 0 0] w fun e w' => e = .returned (.bool true) ∧ w' = w := by
  go_enter Try.func18, Try.ntmps18
  go_wp2
  refine wp_loop_rounds 1 ?_
  rw [rounds_succ]
  go_wp2
  go_ret
  exact ⟨rfl, rfl⟩

set_option maxHeartbeats 800000 in
theorem eqInts_none (z : Int) (w : World) :
    Calls Try.prog 37 #[.agg #[.int .i64 z, .slice none 0 0], .agg #[.int .i64 z, .slice none 0 0]] w fun e w' => e = .returned (.bool true) ∧ Below w.heap.size w w' := by
  go_enter Try.func37, Try.ntmps37
  go_wp2_with fail
  refine (eqInt64S_none _).mono ?_
  rintro e w' ⟨rfl, rfl⟩
  go_wp2
  go_ret
  exact ⟨rfl, keepB (alloc_below w _) (alloc_below _ _)⟩

set_option maxHeartbeats 800000 in
theorem markInts_any (z : Int) (B g n c k : Nat) (L : Nat → Int) (w : World) (h : OwnI w B g n c L n) (hn : n ≤ 1048576) (hk : k ≤ 1099511627776) :
    Calls Try.prog 38 #[.agg #[.int .i64 z, .slice (some ⟨g, 0, none⟩) n c], .int .i64 (k : Int)] w fun e w' => e = .returned (.int .i64 ((k + n : Nat) : Int)) ∧ OwnI w' B g n c (mkI k) n ∧ w.grownBy w' (some g) := by
  go_enter Try.func38, Try.ntmps38
  go_wp2_with fail
  refine (markInt64S_any B g n c k L _ (h.keep (alloc_below _ _)) hn hk).mono ?_
  rintro e w1 ⟨rfl, ho, hg⟩
  have H1 := hidden (And.intro ho (grownBy_trans (World.grownBy_alloc w _ (some g)) hg))
  clear ho hg
  go_wp2
  go_ret
  exact ⟨rfl, H1.out.1, H1.out.2⟩

set_option maxHeartbeats 400000 in
theorem markInt64S_none (k : Nat) (w : World) :
    Calls Try.prog 30 #[.slice none 0 0, .int .i64 (k : Int)] w fun e w' => e = .returned (.int .i64 (k : Int)) ∧ w' = w := by
  go_enter Try.func30, Try.ntmps30
  go_wp2
  refine wp_loop_rounds 1 ?_
  rw [rounds_succ]
  go_wp2
  go_ret
  exact ⟨rfl, rfl⟩

set_option maxHeartbeats 800000 in
theorem markInts_none (z : Int) (k : Nat) (w : World) :
    Calls Try.prog 38 #[.agg #[.int .i64 z, .slice none 0 0], .int .i64 (k : Int)] w fun e w' => e = .returned (.int .i64 (k : Int)) ∧ Below w.heap.size w w' := by
  go_enter Try.func38, Try.ntmps38
  go_wp2_with fail
  refine (markInt64S_none k _).mono ?_
  rintro e w1 ⟨rfl, rfl⟩
  go_wp2
  go_ret
  exact ⟨rfl, alloc_below w _⟩

set_option maxHeartbeats 800000 in
theorem heldInts_any (z : Int) (g n c k : Nat) (w : World) (h : Ints w g 0 n (mkI k)) (hn : n ≤ 1048576) (hk : k ≤ 1099511627776) :
    Calls Try.prog 39 #[.agg #[.int .i64 z, .slice (some ⟨g, 0, none⟩) n c], .int .i64 (k : Int)] w fun e w' => e = .returned (.int .i64 ((k + n : Nat) : Int)) ∧ Below w.heap.size w w' := by
  go_enter Try.func39, Try.ntmps39
  go_wp2_with fail
  refine (heldInt64S_any g n c k _ (h.keep (alloc_below _ _)) hn hk).mono ?_
  rintro e w1 ⟨rfl, hb⟩
  have bb := keepB (alloc_below w _) hb
  clear hb
  have hz : ¬ ((k + n : Nat) : Int) < 0 := by omega
  generalize hq : ((k + n : Nat) : Int) = q at hz ⊢
  have HQ := hidden hq
  clear hq
  go_wp2
  go_ret
  exact ⟨by rw [HQ.out]; rfl, bb⟩

set_option maxHeartbeats 400000 in
theorem heldInt64S_none (k : Nat) (w : World) :
    Calls Try.prog 64 #[.slice none 0 0, .int .i64 (k : Int)] w fun e w' => e = .returned (.int .i64 (k : Int)) ∧ w' = w := by
  go_enter Try.func64, Try.ntmps64
  go_wp2
  refine wp_loop_rounds 1 ?_
  rw [rounds_succ]
  go_wp2
  go_ret
  exact ⟨rfl, rfl⟩

set_option maxHeartbeats 800000 in
theorem heldInts_none (z : Int) (k : Nat) (w : World) :
    Calls Try.prog 39 #[.agg #[.int .i64 z, .slice none 0 0], .int .i64 (k : Int)] w fun e w' => e = .returned (.int .i64 (k : Int)) ∧ Below w.heap.size w w' := by
  have hz : ¬ (k : Int) < 0 := by omega
  go_enter Try.func39, Try.ntmps39
  go_wp2_with fail
  refine (heldInt64S_none k _).mono ?_
  rintro e w1 ⟨rfl, rfl⟩
  go_wp2
  go_ret
  exact ⟨rfl, alloc_below w _⟩

theorem OwnI.grown {w w' : World} {B g n c : Nat} {L : Nat → Int} {k g' : Nat} (h : OwnI w B g n c L k) (hg : w.grownBy w' (some g')) (hne : g ≠ g') : OwnI w' B g n c L k := by
  have hl := h.lt
  obtain ⟨xs, ho, hx⟩ := h
  refine ⟨xs, ⟨ho.1, ho.2.imp id ?_⟩, hx⟩
  rintro ⟨g1, cap, cur, h1, h2, h3, h4⟩
  have e : g1 = g := by simp at h1; exact h1.1.symm
  subst e
  exact ⟨g1, cap, cur, h1, h2, by rw [hg.block g1 hl (by simpa using hne)]; exact h3, h4⟩

theorem OwnS.grown {w w' : World} {B g n c : Nat} {N : Nat → ByteArray} {A : Nat → Int} {k g' : Nat} (h : OwnS w B g n c N A k) (hg : w.grownBy w' (some g')) (hne : g ≠ g') : OwnS w' B g n c N A k := by
  have hl := h.lt
  obtain ⟨xs, ho, hx⟩ := h
  refine ⟨xs, ⟨ho.1, ho.2.imp id ?_⟩, hx⟩
  rintro ⟨g1, cap, cur, h1, h2, h3, h4⟩
  have e : g1 = g := by simp at h1; exact h1.1.symm
  subst e
  exact ⟨g1, cap, cur, h1, h2, by rw [hg.block g1 hl (by simpa using hne)]; exact h3, h4⟩

theorem Two.grown {w w' : World} {b g : Nat} {x y : Value} (h : Two w b x y) (hg : w.grownBy w' (some g)) (hne : b ≠ g) : Two w' b x y :=
  ⟨Nat.lt_of_lt_of_le h.blk hg.size, hg.cell h.c0 (by simpa using hne), hg.cell h.c1 (by simpa using hne)⟩

theorem grownB {w a b : World} {g : Nat} (h : Below w.heap.size w a) (hg : a.grownBy b (some g)) (hw : w.heap.size ≤ g) : Below w.heap.size w b :=
  h.grown hg h.size (fun k hk => by cases hk; exact hw)

/- The same at an integer as the walk has it. -/
theorem markSignature_z (B g n c : Nat) (z : Int) (N : Nat → ByteArray) (A : Nat → Int) (w : World) (h : OwnS w B g n c N A n) (hn : n ≤ 1048576) (hk0 : 0 < z) (hk : z ≤ 1099511627776) :
    Calls Try.prog 29 #[.agg #[.slice (some ⟨g, 0, none⟩) n c], .int .i64 z] w fun e w' => e = .returned (.int .i64 (z + 2 * n)) ∧ OwnS w' B g n c (mkN z.toNat) (mkA z.toNat) n ∧ w.grownBy w' (some g) := by
  obtain ⟨k, rfl⟩ := Int.eq_ofNat_of_zero_le (by omega : 0 ≤ z)
  refine (markSignature_any B g n c k N A w h hn (by omega) (by omega)).mono ?_
  rintro e w' ⟨rfl, h1, h2⟩
  exact ⟨by congr 2, h1, h2⟩

theorem markInt64S_z (B g n c : Nat) (z : Int) (L : Nat → Int) (w : World) (h : OwnI w B g n c L n) (hn : n ≤ 1048576) (hk0 : 0 ≤ z) (hk : z ≤ 1099511627776) :
    Calls Try.prog 30 #[.slice (some ⟨g, 0, none⟩) n c, .int .i64 z] w fun e w' => e = .returned (.int .i64 (z + n)) ∧ OwnI w' B g n c (mkI z.toNat) n ∧ w.grownBy w' (some g) := by
  obtain ⟨k, rfl⟩ := Int.eq_ofNat_of_zero_le hk0
  refine (markInt64S_any B g n c k L w h hn (by omega)).mono ?_
  rintro e w' ⟨rfl, h1, h2⟩
  exact ⟨by congr 2, h1, h2⟩

theorem markInts_z (y : Int) (B g n c : Nat) (L : Nat → Int) (w : World) (h : OwnI w B g n c L n) (hn : n ≤ 1048576) :
    Calls Try.prog 38 #[.agg #[.int .i64 y, .slice (some ⟨g, 0, none⟩) n c], .int .i64 1] w fun e w' => e = .returned (.int .i64 (1 + n)) ∧ OwnI w' B g n c (mkI 1) n ∧ w.grownBy w' (some g) := by
  refine (markInts_any y B g n c 1 L w h hn (by omega)).mono ?_
  rintro e w' ⟨rfl, h1, h2⟩
  exact ⟨by congr 2, h1, h2⟩

theorem heldInts_z (y : Int) (g n c : Nat) (w : World) (h : Ints w g 0 n (mkI 1)) (hn : n ≤ 1048576) :
    Calls Try.prog 39 #[.agg #[.int .i64 y, .slice (some ⟨g, 0, none⟩) n c], .int .i64 1] w fun e w' => e = .returned (.int .i64 (1 + n)) ∧ Below w.heap.size w w' := by
  refine (heldInts_any y g n c 1 w h hn (by omega)).mono ?_
  rintro e w' ⟨rfl, h1⟩
  exact ⟨by congr 2, h1⟩

theorem markInts_none1 (y : Int) (w : World) :
    Calls Try.prog 38 #[.agg #[.int .i64 y, .slice none 0 0], .int .i64 1] w fun e w' => e = .returned (.int .i64 1) ∧ Below w.heap.size w w' := markInts_none y 1 w

theorem heldInts_none1 (y : Int) (w : World) :
    Calls Try.prog 39 #[.agg #[.int .i64 y, .slice none 0 0], .int .i64 1] w fun e w' => e = .returned (.int .i64 1) ∧ Below w.heap.size w w' := heldInts_none y 1 w

end Go.Proofs.Ytjahldlcbgdllaa
