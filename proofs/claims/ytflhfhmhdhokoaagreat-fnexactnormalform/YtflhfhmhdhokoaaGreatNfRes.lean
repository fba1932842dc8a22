/- Contracts: answers of a term and a number: compared, marked, looked at again. -/
import Derived.Test.YtflhfhmhdhokoaaGreatIntsRes
import Derived.Test.YtflhfhmhdhokoaaGreatMB
namespace Go.Proofs.YtflhfhmhdhokoaaGreat
open Go.RowKit

/-- A block of three cells. -/
structure Tri (w : World) (b : Nat) (x y z : Value) : Prop where
  blk : b < w.heap.size
  c0 : w.cell? ⟨b, 0, none⟩ = some x
  c1 : w.cell? ⟨b, 1, none⟩ = some y
  c2 : w.cell? ⟨b, 2, none⟩ = some z

theorem Tri.new (w : World) (x y z : Value) (t : TypeId) : Tri (w.alloc (.cells #[x, y, z] t)) w.heap.size x y z := by
  refine ⟨by simp, ?_, ?_, ?_⟩ <;> simp [go_sem]

theorem Tri.keep {w w' : World} {b : Nat} {x y z : Value} (h : Tri w b x y z) (hb : Below w.heap.size w w') : Tri w' b x y z :=
  ⟨Nat.lt_of_lt_of_le h.blk hb.size, by rw [hb.cell (p := ⟨b, 0, none⟩) h.blk]; exact h.c0, by rw [hb.cell (p := ⟨b, 1, none⟩) h.blk]; exact h.c1, by rw [hb.cell (p := ⟨b, 2, none⟩) h.blk]; exact h.c2⟩

theorem Tri.grown {w w' : World} {b g : Nat} {x y z : Value} (h : Tri w b x y z) (hg : w.grownBy w' (some g)) (hne : b ≠ g) : Tri w' b x y z :=
  ⟨Nat.lt_of_lt_of_le h.blk hg.size, hg.cell h.c0 (by simpa using hne), hg.cell h.c1 (by simpa using hne), hg.cell h.c2 (by simpa using hne)⟩

theorem Tri.rng {w w' : World} {b lo hi : Nat} {x y z : Value} (h : Tri w b x y z) (k : Rng lo hi w w') (hx : b < lo ∨ hi ≤ b) : Tri w' b x y z :=
  ⟨Nat.lt_of_lt_of_le h.blk k.size, by rw [cell_of_blk (k.block b h.blk hx)]; exact h.c0, by rw [cell_of_blk (k.block b h.blk hx)]; exact h.c1, by rw [cell_of_blk (k.block b h.blk hx)]; exact h.c2⟩

set_option maxRecDepth 20000 in
set_option maxHeartbeats 800000 in
theorem eqNf_eq (z s : Int) (b b' n c c' : Nat) (L : Nat → Int) (w : World) (h : Ints w b 0 n L) (h' : Ints w b' 0 n L) (hn : n ≤ 1048576) :
    Calls Tryz.prog 13 #[.agg #[.int .i64 z, .slice (some ⟨b, 0, none⟩) n c, .int .i64 s], .agg #[.int .i64 z, .slice (some ⟨b', 0, none⟩) n c', .int .i64 s]] w fun e w' => e = .returned (.bool true) ∧ Below w.heap.size w w' := by
  have h1 := fun o1 o2 => (h.keep (alloc_below w o1)).keep (alloc_below _ o2)
  have h2 := fun o1 o2 => (h'.keep (alloc_below w o1)).keep (alloc_below _ o2)
  go_enter Tryz.func13, Tryz.ntmps13
  go_wp2_with fail
  refine (eqInt64S_eq _ _ _ _ _ _ _ L _ (h1 _ _) (h2 _ _) hn).mono ?_
  rintro e w' ⟨rfl, hb⟩
  have x2 := (((Tri.new w (.int .i64 z) (.slice (some ⟨b, 0, none⟩) n c) (.int .i64 s) 30).keep (alloc_below _ (.cells #[.int .i64 z, .slice (some ⟨b', 0, none⟩) n c', .int .i64 s] 30))).keep hb).c2
  have y2 := ((Tri.new (w.alloc (.cells #[.int .i64 z, .slice (some ⟨b, 0, none⟩) n c, .int .i64 s] 30)) (.int .i64 z) (.slice (some ⟨b', 0, none⟩) n c') (.int .i64 s) 30).keep hb).c2
  simp only [World.size_alloc] at y2
  have bb := keepB (keepB (alloc_below w _) (alloc_below _ _)) hb
  clear hb h1 h2
  go_wp2
  go_ret
  exact ⟨rfl, bb⟩

set_option maxRecDepth 20000 in
set_option maxHeartbeats 800000 in
theorem eqNf_none (z s : Int) (w : World) :
    Calls Tryz.prog 13 #[.agg #[.int .i64 z, .slice none 0 0, .int .i64 s], .agg #[.int .i64 z, .slice none 0 0, .int .i64 s]] w fun e w' => e = .returned (.bool true) ∧ Below w.heap.size w w' := by
  go_enter Tryz.func13, Tryz.ntmps13
  go_wp2_with fail
  refine (eqInt64S_none _).mono ?_
  rintro e w' ⟨rfl, rfl⟩
  go_wp2
  go_ret
  exact ⟨rfl, keepB (alloc_below w _) (alloc_below _ _)⟩

set_option maxRecDepth 20000 in
set_option maxHeartbeats 800000 in
theorem markNf_any (z s : Int) (B g n c k : Nat) (L : Nat → Int) (w : World) (h : OwnI w B g n c L n) (hn : n ≤ 1048576) (hk : k ≤ 1099511627776) :
    Calls Tryz.prog 20 #[.agg #[.int .i64 z, .slice (some ⟨g, 0, none⟩) n c, .int .i64 s], .int .i64 (k : Int)] w fun e w' => e = .returned (.int .i64 ((k + n : Nat) : Int)) ∧ OwnI w' B g n c (mkI k) n ∧ w.grownBy w' (some g) := by
  go_enter Tryz.func20, Tryz.ntmps20
  go_wp2_with fail
  refine (markInt64S_any B g n c k L _ (h.keep (alloc_below _ _)) hn hk).mono ?_
  rintro e w1 ⟨rfl, ho, hg⟩
  have H1 := hidden (And.intro ho (grownBy_trans (World.grownBy_alloc w _ (some g)) hg))
  clear ho hg
  go_wp2
  go_ret
  exact ⟨rfl, H1.out.1, H1.out.2⟩

set_option maxRecDepth 20000 in
set_option maxHeartbeats 800000 in
theorem markNf_none (z s : Int) (k : Nat) (w : World) :
    Calls Tryz.prog 20 #[.agg #[.int .i64 z, .slice none 0 0, .int .i64 s], .int .i64 (k : Int)] w fun e w' => e = .returned (.int .i64 (k : Int)) ∧ Below w.heap.size w w' := by
  go_enter Tryz.func20, Tryz.ntmps20
  go_wp2_with fail
  refine (markInt64S_none k _).mono ?_
  rintro e w1 ⟨rfl, rfl⟩
  go_wp2
  go_ret
  exact ⟨rfl, alloc_below w _⟩

set_option maxRecDepth 20000 in
set_option maxHeartbeats 800000 in
theorem heldNf_any (z s : Int) (g n c k : Nat) (w : World) (h : Ints w g 0 n (mkI k)) (hn : n ≤ 1048576) (hk : k ≤ 1099511627776) :
    Calls Tryz.prog 21 #[.agg #[.int .i64 z, .slice (some ⟨g, 0, none⟩) n c, .int .i64 s], .int .i64 (k : Int)] w fun e w' => e = .returned (.int .i64 ((k + n : Nat) : Int)) ∧ Below w.heap.size w w' := by
  go_enter Tryz.func21, Tryz.ntmps21
  go_wp2_with fail
  refine (heldInt64S_any g n c k _ (h.keep (alloc_below _ _)) hn hk).mono ?_
  rintro e w1 ⟨rfl, hb⟩
  have bb := keepB (alloc_below w _) hb
  clear hb
  have hz : ¬ ((k + n : Nat) : Int) < 0 := by omega
  generalize hq : ((k + n : Nat) : Int) = q at hz ⊢
  have HQ := hidden hq
  clear hq
  go_wp2
  go_ret
  exact ⟨by rw [HQ.out]; rfl, bb⟩

set_option maxRecDepth 20000 in
set_option maxHeartbeats 800000 in
theorem heldNf_none (z s : Int) (k : Nat) (w : World) :
    Calls Tryz.prog 21 #[.agg #[.int .i64 z, .slice none 0 0, .int .i64 s], .int .i64 (k : Int)] w fun e w' => e = .returned (.int .i64 (k : Int)) ∧ Below w.heap.size w w' := by
  have hz : ¬ (k : Int) < 0 := by omega
  go_enter Tryz.func21, Tryz.ntmps21
  go_wp2_with fail
  refine (heldInt64S_none k _).mono ?_
  rintro e w1 ⟨rfl, rfl⟩
  go_wp2
  go_ret
  exact ⟨rfl, alloc_below w _⟩

theorem markNf_z (y s : Int) (B g n c : Nat) (L : Nat → Int) (w : World) (h : OwnI w B g n c L n) (hn : n ≤ 1048576) :
    Calls Tryz.prog 20 #[.agg #[.int .i64 y, .slice (some ⟨g, 0, none⟩) n c, .int .i64 s], .int .i64 1] w fun e w' => e = .returned (.int .i64 (1 + n)) ∧ OwnI w' B g n c (mkI 1) n ∧ w.grownBy w' (some g) := by
  refine (markNf_any y s B g n c 1 L w h hn (by omega)).mono ?_
  rintro e w' ⟨rfl, h1, h2⟩
  exact ⟨by congr 2, h1, h2⟩

theorem heldNf_z (y s : Int) (g n c : Nat) (w : World) (h : Ints w g 0 n (mkI 1)) (hn : n ≤ 1048576) :
    Calls Tryz.prog 21 #[.agg #[.int .i64 y, .slice (some ⟨g, 0, none⟩) n c, .int .i64 s], .int .i64 1] w fun e w' => e = .returned (.int .i64 (1 + n)) ∧ Below w.heap.size w w' := by
  refine (heldNf_any y s g n c 1 w h hn (by omega)).mono ?_
  rintro e w' ⟨rfl, h1⟩
  exact ⟨by congr 2, h1⟩

theorem markNf_none1 (y s : Int) (w : World) :
    Calls Tryz.prog 20 #[.agg #[.int .i64 y, .slice none 0 0, .int .i64 s], .int .i64 1] w fun e w' => e = .returned (.int .i64 1) ∧ Below w.heap.size w w' := markNf_none y s 1 w

theorem heldNf_none1 (y s : Int) (w : World) :
    Calls Tryz.prog 21 #[.agg #[.int .i64 y, .slice none 0 0, .int .i64 s], .int .i64 1] w fun e w' => e = .returned (.int .i64 1) ∧ Below w.heap.size w w' := heldNf_none y s 1 w

end Go.Proofs.YtflhfhmhdhokoaaGreat
