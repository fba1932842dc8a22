/- Contracts: answers that hold a term: compared, marked, looked at again. -/
import Derived.Test.YtcnkkoegfjggaaaIntsRes
namespace Go.Proofs.Ytcnkkoegfjggaaa
open Go.RowKit

set_option maxRecDepth 20000 in
set_option maxHeartbeats 800000 in
theorem eqTerm_eq (z : Int) (b b' n c c' : Nat) (L : Nat → Int) (w : World) (h : Ints w b 0 n L) (h' : Ints w b' 0 n L) (hn : n ≤ 1048576) :
    Calls Try.prog 12 #[.agg #[.int .i64 z, .slice (some ⟨b, 0, none⟩) n c], .agg #[.int .i64 z, .slice (some ⟨b', 0, none⟩) n c']] w fun e w' => e = .returned (.bool true) ∧ Below w.heap.size w w' := by
  have h1 := fun o1 o2 => (h.keep (alloc_below w o1)).keep (alloc_below _ o2)
  have h2 := fun o1 o2 => (h'.keep (alloc_below w o1)).keep (alloc_below _ o2)
  go_enter Try.func12, Try.ntmps12
  go_wp2_with fail
  refine (eqInt64S_eq _ _ _ _ _ _ _ L _ (h1 _ _) (h2 _ _) hn).mono ?_
  rintro e w' ⟨rfl, hb⟩
  have bb := keepB (keepB (alloc_below w _) (alloc_below _ _)) hb
  clear hb h1 h2
  go_wp2
  go_ret
  exact ⟨rfl, bb⟩

set_option maxRecDepth 20000 in
set_option maxHeartbeats 800000 in
theorem eqTerm_none (z : Int) (w : World) :
    Calls Try.prog 12 #[.agg #[.int .i64 z, .slice none 0 0], .agg #[.int .i64 z, .slice none 0 0]] w fun e w' => e = .returned (.bool true) ∧ Below w.heap.size w w' := by
  go_enter Try.func12, Try.ntmps12
  go_wp2_with fail
  refine (eqInt64S_none _).mono ?_
  rintro e w' ⟨rfl, rfl⟩
  go_wp2
  go_ret
  exact ⟨rfl, keepB (alloc_below w _) (alloc_below _ _)⟩

set_option maxRecDepth 20000 in
set_option maxHeartbeats 800000 in
theorem markTerm_any (z : Int) (B g n c k : Nat) (L : Nat → Int) (w : World) (h : OwnI w B g n c L n) (hn : n ≤ 1048576) (hk : k ≤ 1099511627776) :
    Calls Try.prog 17 #[.agg #[.int .i64 z, .slice (some ⟨g, 0, none⟩) n c], .int .i64 (k : Int)] w fun e w' => e = .returned (.int .i64 ((k + n : Nat) : Int)) ∧ OwnI w' B g n c (mkI k) n ∧ w.grownBy w' (some g) := by
  go_enter Try.func17, Try.ntmps17
  go_wp2_with fail
  refine (markInt64S_any B g n c k L _ (h.keep (alloc_below _ _)) hn hk).mono ?_
  rintro e w1 ⟨rfl, ho, hg⟩
  have H1 := hidden (And.intro ho (grownBy_trans (World.grownBy_alloc w _ (some g)) hg))
  clear ho hg
  go_wp2
  go_ret
  exact ⟨rfl, H1.out.1, H1.out.2⟩

set_option maxRecDepth 20000 in
set_option maxHeartbeats 800000 in
theorem markTerm_none (z : Int) (k : Nat) (w : World) :
    Calls Try.prog 17 #[.agg #[.int .i64 z, .slice none 0 0], .int .i64 (k : Int)] w fun e w' => e = .returned (.int .i64 (k : Int)) ∧ Below w.heap.size w w' := by
  go_enter Try.func17, Try.ntmps17
  go_wp2_with fail
  refine (markInt64S_none k _).mono ?_
  rintro e w1 ⟨rfl, rfl⟩
  go_wp2
  go_ret
  exact ⟨rfl, alloc_below w _⟩

set_option maxRecDepth 20000 in
set_option maxHeartbeats 800000 in
theorem heldTerm_any (z : Int) (g n c k : Nat) (w : World) (h : Ints w g 0 n (mkI k)) (hn : n ≤ 1048576) (hk : k ≤ 1099511627776) :
    Calls Try.prog 18 #[.agg #[.int .i64 z, .slice (some ⟨g, 0, none⟩) n c], .int .i64 (k : Int)] w fun e w' => e = .returned (.int .i64 ((k + n : Nat) : Int)) ∧ Below w.heap.size w w' := by
  go_enter Try.func18, Try.ntmps18
  go_wp2_with fail
  refine (heldInt64S_any g n c k _ (h.keep (alloc_below _ _)) hn hk).mono ?_
  rintro e w1 ⟨rfl, hb⟩
  have bb := keepB (alloc_below w _) hb
  clear hb
  have hz : ¬ ((k + n : Nat) : Int) < 0 := by omega
  generalize hq : ((k + n : Nat) : Int) = q at hz ⊢
  have HQ := hidden hq
  clear hq
  go_wp2
  go_ret
  exact ⟨by rw [HQ.out]; rfl, bb⟩

set_option maxRecDepth 20000 in
set_option maxHeartbeats 800000 in
theorem heldTerm_none (z : Int) (k : Nat) (w : World) :
    Calls Try.prog 18 #[.agg #[.int .i64 z, .slice none 0 0], .int .i64 (k : Int)] w fun e w' => e = .returned (.int .i64 (k : Int)) ∧ Below w.heap.size w w' := by
  have hz : ¬ (k : Int) < 0 := by omega
  go_enter Try.func18, Try.ntmps18
  go_wp2_with fail
  refine (heldInt64S_none k _).mono ?_
  rintro e w1 ⟨rfl, rfl⟩
  go_wp2
  go_ret
  exact ⟨rfl, alloc_below w _⟩

theorem markTerm_z (y : Int) (B g n c : Nat) (L : Nat → Int) (w : World) (h : OwnI w B g n c L n) (hn : n ≤ 1048576) :
    Calls Try.prog 17 #[.agg #[.int .i64 y, .slice (some ⟨g, 0, none⟩) n c], .int .i64 1] w fun e w' => e = .returned (.int .i64 (1 + n)) ∧ OwnI w' B g n c (mkI 1) n ∧ w.grownBy w' (some g) := by
  refine (markTerm_any y B g n c 1 L w h hn (by omega)).mono ?_
  rintro e w' ⟨rfl, h1, h2⟩
  exact ⟨by congr 2, h1, h2⟩

theorem heldTerm_z (y : Int) (g n c : Nat) (w : World) (h : Ints w g 0 n (mkI 1)) (hn : n ≤ 1048576) :
    Calls Try.prog 18 #[.agg #[.int .i64 y, .slice (some ⟨g, 0, none⟩) n c], .int .i64 1] w fun e w' => e = .returned (.int .i64 (1 + n)) ∧ Below w.heap.size w w' := by
  refine (heldTerm_any y g n c 1 w h hn (by omega)).mono ?_
  rintro e w' ⟨rfl, h1⟩
  exact ⟨by congr 2, h1⟩

theorem markTerm_none1 (y : Int) (w : World) :
    Calls Try.prog 17 #[.agg #[.int .i64 y, .slice none 0 0], .int .i64 1] w fun e w' => e = .returned (.int .i64 1) ∧ Below w.heap.size w w' := markTerm_none y 1 w

theorem heldTerm_none1 (y : Int) (w : World) :
    Calls Try.prog 18 #[.agg #[.int .i64 y, .slice none 0 0], .int .i64 1] w fun e w' => e = .returned (.int .i64 1) ∧ Below w.heap.size w w' := heldTerm_none y 1 w

end Go.Proofs.Ytcnkkoegfjggaaa
