/- Contracts: an algebra as an answer, in memory of its own: its comparison, its marks, and that they are held. -/
import Derived.Test.YtdcngfdklpdpkaaAlgI
import Derived.Test.YtdcngfdklpdpkaaBndR
namespace Go.Proofs.Ytdcngfdklpdpkaa
open Go.RowKit

theorem OwnMR.top {w : World} {lo hi g n c : Nat} {D : LsL} (h : OwnMR w lo hi g n c D) : hi ≤ w.heap.size := h.2.2.1
theorem OwnMR.low {w : World} {lo hi g n c : Nat} {D : LsL} (h : OwnMR w lo hi g n c D) : lo ≤ g := h.1
theorem OwnMR.grown {w w' : World} {lo hi g n c g' : Nat} {D : LsL} (h : OwnMR w lo hi g n c D) (k : w.grownBy w' (some g')) (hx : g' < lo ∨ hi ≤ g') : OwnMR w' lo hi g n c D := h.rng (grown_rng k) (by omega)
theorem OwnMR.x {w : World} {lo hi g n c : Nat} {D : LsL} (h : OwnMR w lo hi g n c D) : OwnMX w lo hi hi g n c D := by
  obtain ⟨h1, h2, h3, xs, G, ho, hx, hm⟩ := h
  refine ⟨h1, h2, h3, by omega, xs, G, ho, fun i hi => ?_, hm⟩
  obtain ⟨d, a1, a2, a3, a4, a5, a6⟩ := hx i hi
  exact ⟨d, a1, a2, a3, a4, a5, by omega, a6⟩

/-- Three cells. -/
structure Tr3 (w : World) (b : Nat) (x y z : Value) : Prop where
  blk : b < w.heap.size
  c0 : w.cell? ⟨b, 0, none⟩ = some x
  c1 : w.cell? ⟨b, 1, none⟩ = some y
  c2 : w.cell? ⟨b, 2, none⟩ = some z
theorem Tr3.new (w : World) (x y z : Value) (t : TypeId) : Tr3 (w.alloc (.cells #[x, y, z] t)) w.heap.size x y z := ⟨by simp, by simp [go_sem], by simp [go_sem], by simp [go_sem]⟩
theorem Tr3.keep {w w' : World} {b : Nat} {x y z : Value} (h : Tr3 w b x y z) (hb : Below w.heap.size w w') : Tr3 w' b x y z :=
  ⟨Nat.lt_of_lt_of_le h.blk hb.size, by rw [hb.cell (p := ⟨b, 0, none⟩) h.blk]; exact h.c0, by rw [hb.cell (p := ⟨b, 1, none⟩) h.blk]; exact h.c1, by rw [hb.cell (p := ⟨b, 2, none⟩) h.blk]; exact h.c2⟩
theorem Tr3.rng {w w' : World} {b lo hi : Nat} {x y z : Value} (h : Tr3 w b x y z) (k : Rng lo hi w w') (hx : b < lo ∨ hi ≤ b) : Tr3 w' b x y z :=
  ⟨Nat.lt_of_lt_of_le h.blk k.size, (cell_of_blk (k.block b h.blk hx)).trans h.c0, (cell_of_blk (k.block b h.blk hx)).trans h.c1, (cell_of_blk (k.block b h.blk hx)).trans h.c2⟩
theorem Tr3.grown {w w' : World} {b g : Nat} {x y z : Value} (h : Tr3 w b x y z) (k : w.grownBy w' (some g)) (hx : b ≠ g) : Tr3 w' b x y z := h.rng (grown_rng k) (by omega)

set_option maxRecDepth 20000 in
set_option maxHeartbeats 400000 in
theorem eqSS_none (p p' : Option Addr) (c c' : Nat) (w : World) :
    Calls Try.prog 48 #[.slice p 0 c, .slice p' 0 c'] w fun e w' => e = .returned (.bool true) ∧ Below w.heap.size w w' := by
  go_enter Try.func48, Try.ntmps48
  go_wp2
  refine wp_loop_rounds 1 ?_
  rw [rounds_succ]
  go_wp2
  go_ret
  exact ⟨by simp, Below.refl _ _⟩

set_option maxRecDepth 20000 in
set_option maxHeartbeats 400000 in
theorem markSS_none (p : Option Addr) (c : Nat) (w : World) :
    Calls Try.prog 84 #[.slice p 0 c, .int .i64 1] w fun e w' => e = .returned (.int .i64 1) ∧ Below w.heap.size w w' := by
  go_enter Try.func84, Try.ntmps84
  go_wp2
  refine wp_loop_rounds 1 ?_
  rw [rounds_succ]
  go_wp2
  go_ret
  exact ⟨by simp, Below.refl _ _⟩

set_option maxRecDepth 20000 in
set_option maxHeartbeats 400000 in
theorem heldSS_none (p : Option Addr) (c : Nat) (w : World) :
    Calls Try.prog 85 #[.slice p 0 c, .int .i64 1] w fun e w' => e = .returned (.int .i64 1) ∧ Below w.heap.size w w' := by
  go_enter Try.func85, Try.ntmps85
  go_wp2
  refine wp_loop_rounds 1 ?_
  rw [rounds_succ]
  go_wp2
  go_ret
  exact ⟨by simp, Below.refl _ _⟩

set_option maxRecDepth 20000 in
set_option maxHeartbeats 400000 in
theorem eqAl_by (z : Int) (p2 p4 : Option Addr) (m2 c2 c4 : Nat) (w : World) (h : ∀ wc, Below w.heap.size w wc → Calls Try.prog 48 #[.slice p2 m2 c2, .slice p4 m2 c4] wc fun e w' => e = .returned (.bool true) ∧ Below wc.heap.size wc w') :
    Calls Try.prog 15 #[.agg #[.int .i64 z, .slice p2 m2 c2], .agg #[.int .i64 z, .slice p4 m2 c4]] w fun e w' => e = .returned (.bool true) ∧ Below w.heap.size w w' := by
  have X1 := hidden ((Two.new w (.int .i64 z) (.slice p2 m2 c2) 35).keep (alloc_below _ (.cells #[.int .i64 z, .slice p4 m2 c4] 35)))
  have X2 := hidden (Two.new (w.alloc (.cells #[.int .i64 z, .slice p2 m2 c2] 35)) (.int .i64 z) (.slice p4 m2 c4) 35)
  have B := hidden (keepB (alloc_below w (.cells #[.int .i64 z, .slice p2 m2 c2] 35)) (alloc_below (w.alloc (.cells #[.int .i64 z, .slice p2 m2 c2] 35)) (.cells #[.int .i64 z, .slice p4 m2 c4] 35)))
  have S := hidden (h _ B.out)
  clear h
  have y0 := X1.out.c0
  have y1 := X1.out.c1
  have x0 := X2.out.c0
  have x1 := X2.out.c1
  simp only [World.size_alloc] at x1 x0
  go_enter Try.func15, Try.ntmps15
  go_wp2_with fail
  with_reducible refine S.out.mono ?_
  rintro e w2 ⟨rfl, hb⟩
  replace B := hidden (keepB B.out hb)
  clear hb
  go_wp2
  go_ret
  exact ⟨rfl, B.out⟩

set_option maxRecDepth 20000 in
set_option maxHeartbeats 800000 in
theorem eqAlR_by (y z : Int) (p p' : Option Addr) (n c c' : Nat) (w : World) (h : ∀ wc, Below w.heap.size w wc → Calls Try.prog 48 #[.slice p n c, .slice p' n c'] wc fun e w' => e = .returned (.bool true) ∧ Below wc.heap.size wc w') :
    Calls Try.prog 18 #[.agg #[.int .i64 y, .int .i64 z, .slice p n c], .agg #[.int .i64 y, .int .i64 z, .slice p' n c']] w fun e w' => e = .returned (.bool true) ∧ Below w.heap.size w w' := by
  have X1 := hidden ((Tr3.new w (.int .i64 y) (.int .i64 z) (.slice p n c) 41).keep (alloc_below _ (.cells #[.int .i64 y, .int .i64 z, .slice p' n c'] 41)))
  have X2 := hidden (Tr3.new (w.alloc (.cells #[.int .i64 y, .int .i64 z, .slice p n c] 41)) (.int .i64 y) (.int .i64 z) (.slice p' n c') 41)
  simp only [World.size_alloc] at X2
  have B := hidden (keepB (alloc_below w (.cells #[.int .i64 y, .int .i64 z, .slice p n c] 41)) (alloc_below (w.alloc (.cells #[.int .i64 y, .int .i64 z, .slice p n c] 41)) (.cells #[.int .i64 y, .int .i64 z, .slice p' n c'] 41)))
  have S := hidden (eqAl_by z p p' n c c' _ (fun wc hb => h wc (keepB B.out hb)))
  clear h
  have x0 := X1.out.c0
  have x1 := X1.out.c1
  have x2 := X1.out.c2
  have y0 := X2.out.c0
  have y1 := X2.out.c1
  have y2 := X2.out.c2
  go_enter Try.func18, Try.ntmps18
  go_wp2_with fail
  with_reducible refine S.out.mono ?_
  rintro e w1 ⟨rfl, hb⟩
  replace B := hidden (keepB B.out hb)
  clear hb x0 x1 x2 y0 y1 y2 S
  go_wp2
  go_ret
  exact ⟨rfl, B.out⟩

theorem eqAlR_eq (y z : Int) (g g' n c c' : Nat) (D : LsL) (w : World) (h : Mats w g 0 n D) (h' : Mats w g' 0 n D) (hk : KeptM n D) :
    Calls Try.prog 18 #[.agg #[.int .i64 y, .int .i64 z, .slice (some ⟨g, 0, none⟩) n c], .agg #[.int .i64 y, .int .i64 z, .slice (some ⟨g', 0, none⟩) n c']] w fun e w' => e = .returned (.bool true) ∧ Below w.heap.size w w' :=
  eqAlR_by y z _ _ n c c' w fun wc hb => eqInt64SS_eq _ _ _ _ _ _ _ D wc (h.keep hb) (h'.keep hb) hk

theorem eqAlR_none (y z : Int) (p p' : Option Addr) (c c' : Nat) (w : World) :
    Calls Try.prog 18 #[.agg #[.int .i64 y, .int .i64 z, .slice p 0 c], .agg #[.int .i64 y, .int .i64 z, .slice p' 0 c']] w fun e w' => e = .returned (.bool true) ∧ Below w.heap.size w w' :=
  eqAlR_by y z p p' 0 c c' w fun wc _ => eqSS_none p p' c c' wc

set_option maxRecDepth 20000 in
set_option maxHeartbeats 800000 in
theorem markAlR_any (y z : Int) (lo hi g n c : Nat) (D : LsL) (w : World) (h : OwnMR w lo hi g n c D) (hk : KeptM n D) (ht : (1 : Int) + sumM D n ≤ 1099511627776) :
    Calls Try.prog 20 #[.agg #[.int .i64 y, .int .i64 z, .slice (some ⟨g, 0, none⟩) n c], .int .i64 1] w fun e w' => e = .returned (.int .i64 (1 + sumM D n)) ∧ OwnMR w' lo hi g n c (mkD 1 D n) ∧ Rng lo hi w w' := by
  have X := hidden (Tr3.new w (.int .i64 y) (.int .i64 z) (.slice (some ⟨g, 0, none⟩) n c) 41)
  have hb := alloc_below w (.cells #[.int .i64 y, .int .i64 z, .slice (some ⟨g, 0, none⟩) n c] 41)
  have S := hidden (show Calls Try.prog 52 #[.agg #[.int .i64 z, .slice (some ⟨g, 0, none⟩) n c], .int .i64 1] (w.alloc (.cells #[.int .i64 y, .int .i64 z, .slice (some ⟨g, 0, none⟩) n c] 41)) fun e w' => e = .returned (.int .i64 (1 + sumM D n)) ∧ OwnMR w' lo hi g n c (mkD 1 D n) ∧ Rng lo hi (w.alloc (.cells #[.int .i64 y, .int .i64 z, .slice (some ⟨g, 0, none⟩) n c] 41)) w' from by
    have h1 := h.keep hb
    generalize (w.alloc (.cells #[.int .i64 y, .int .i64 z, .slice (some ⟨g, 0, none⟩) n c] 41)) = wm at h1 ⊢
    have Y := hidden (Two.new wm (.int .i64 z) (.slice (some ⟨g, 0, none⟩) n c) 35)
    have hb2 := alloc_below wm (.cells #[.int .i64 z, .slice (some ⟨g, 0, none⟩) n c] 35)
    have S := hidden (markInt64SS_any lo hi g n c 1 D _ (h1.keep hb2) hk (by omega) ht)
    have HB := hidden hb2
    have x1 := Y.out.c1
    clear h h1 hb hb2 hk X
    go_enter Try.func52, Try.ntmps52
    go_wp2_with fail
    with_reducible refine S.out.mono ?_
    rintro e w2 ⟨rfl, ho, hr⟩
    have O := hidden ho
    have R := hidden ((Rng.by HB.out).trans hr)
    clear x1 ho hr S
    go_wp2
    go_ret
    exact ⟨rfl, O.out, R.out⟩)
  have HB := hidden hb
  have x1 := X.out.c1
  have x2 := X.out.c2
  clear h hb hk
  go_enter Try.func20, Try.ntmps20
  go_wp2_with fail
  with_reducible refine S.out.mono ?_
  rintro e w2 ⟨rfl, ho, hr⟩
  have O := hidden ho
  have R := hidden ((Rng.by HB.out).trans hr)
  clear x1 x2 ho hr S
  go_wp2
  go_ret
  exact ⟨rfl, O.out, R.out⟩

set_option maxRecDepth 20000 in
set_option maxHeartbeats 800000 in
theorem heldAl_by (z r : Int) (p : Option Addr) (n c : Nat) (w : World) (hr : 0 ≤ r) (h : ∀ wc, Below w.heap.size w wc → Calls Try.prog 85 #[.slice p n c, .int .i64 1] wc fun e w' => e = .returned (.int .i64 r) ∧ Below wc.heap.size wc w') :
    Calls Try.prog 53 #[.agg #[.int .i64 z, .slice p n c], .int .i64 1] w fun e w' => e = .returned (.int .i64 r) ∧ Below w.heap.size w w' := by
  have Y := hidden (Two.new w (.int .i64 z) (.slice p n c) 35)
  have hb := alloc_below w (.cells #[.int .i64 z, .slice p n c] 35)
  have S := hidden (h _ hb)
  have HB := hidden hb
  have x1 := Y.out.c1
  clear hb h
  go_enter Try.func53, Try.ntmps53
  go_wp2_with fail
  with_reducible refine S.out.mono ?_
  rintro e w2 ⟨rfl, hb⟩
  have B := hidden (keepB HB.out hb)
  clear x1 hb S
  go_wp2
  go_ret
  exact ⟨rfl, B.out⟩

set_option maxRecDepth 20000 in
set_option maxHeartbeats 800000 in
theorem heldAlR_by (y z r : Int) (p : Option Addr) (n c : Nat) (w : World) (hr : 0 ≤ r) (h : ∀ wc, Below w.heap.size w wc → Calls Try.prog 85 #[.slice p n c, .int .i64 1] wc fun e w' => e = .returned (.int .i64 r) ∧ Below wc.heap.size wc w') :
    Calls Try.prog 21 #[.agg #[.int .i64 y, .int .i64 z, .slice p n c], .int .i64 1] w fun e w' => e = .returned (.int .i64 r) ∧ Below w.heap.size w w' := by
  have X := hidden (Tr3.new w (.int .i64 y) (.int .i64 z) (.slice p n c) 41)
  have hb := alloc_below w (.cells #[.int .i64 y, .int .i64 z, .slice p n c] 41)
  have S := hidden (heldAl_by z r p n c _ hr (fun wc hc => h wc (keepB hb hc)))
  have HB := hidden hb
  have x1 := X.out.c1
  have x2 := X.out.c2
  clear hb h
  go_enter Try.func21, Try.ntmps21
  go_wp2_with fail
  with_reducible refine S.out.mono ?_
  rintro e w2 ⟨rfl, hb⟩
  have B := hidden (keepB HB.out hb)
  clear x1 x2 hb S
  go_wp2
  go_ret
  exact ⟨rfl, B.out⟩

theorem heldAlR_any (y z : Int) (lo hi g n c : Nat) (D : LsL) (w : World) (h : OwnMR w lo hi g n c (mkD 1 D n)) (hk : KeptM n D) (ht : 1 + sumM D n ≤ 1099511627776) :
    Calls Try.prog 21 #[.agg #[.int .i64 y, .int .i64 z, .slice (some ⟨g, 0, none⟩) n c], .int .i64 1] w fun e w' => e = .returned (.int .i64 (1 + sumM D n)) ∧ Below w.heap.size w w' :=
  heldAlR_by y z _ _ n c w (by omega) fun wc hb => heldSSX_any lo hi hi g n c 1 D wc (h.keep hb).x hk ht

theorem heldAlR_none (y z : Int) (p : Option Addr) (c : Nat) (w : World) :
    Calls Try.prog 21 #[.agg #[.int .i64 y, .int .i64 z, .slice p 0 c], .int .i64 1] w fun e w' => e = .returned (.int .i64 1) ∧ Below w.heap.size w w' :=
  heldAlR_by y z 1 p 0 c w (by omega) fun wc _ => heldSS_none p c wc

set_option maxRecDepth 20000 in
set_option maxHeartbeats 800000 in
theorem markAlR_none (y z : Int) (p : Option Addr) (c : Nat) (w : World) :
    Calls Try.prog 20 #[.agg #[.int .i64 y, .int .i64 z, .slice p 0 c], .int .i64 1] w fun e w' => e = .returned (.int .i64 1) ∧ Below w.heap.size w w' := by
  have X := hidden (Tr3.new w (.int .i64 y) (.int .i64 z) (.slice p 0 c) 41)
  have hb := alloc_below w (.cells #[.int .i64 y, .int .i64 z, .slice p 0 c] 41)
  have S := hidden (show Calls Try.prog 52 #[.agg #[.int .i64 z, .slice p 0 c], .int .i64 1] (w.alloc (.cells #[.int .i64 y, .int .i64 z, .slice p 0 c] 41)) fun e w' => e = .returned (.int .i64 1) ∧ Below (w.alloc (.cells #[.int .i64 y, .int .i64 z, .slice p 0 c] 41)).heap.size (w.alloc (.cells #[.int .i64 y, .int .i64 z, .slice p 0 c] 41)) w' from by
    generalize (w.alloc (.cells #[.int .i64 y, .int .i64 z, .slice p 0 c] 41)) = wm
    have Y := hidden (Two.new wm (.int .i64 z) (.slice p 0 c) 35)
    have HB := hidden (alloc_below wm (.cells #[.int .i64 z, .slice p 0 c] 35))
    have x1 := Y.out.c1
    clear hb X
    go_enter Try.func52, Try.ntmps52
    go_wp2_with fail
    with_reducible refine (markSS_none _ _ _).mono ?_
    rintro e w2 ⟨rfl, hb⟩
    have B := hidden (keepB HB.out hb)
    clear x1 hb
    go_wp2
    go_ret
    exact ⟨rfl, B.out⟩)
  have HB := hidden hb
  have x1 := X.out.c1
  have x2 := X.out.c2
  clear hb
  go_enter Try.func20, Try.ntmps20
  go_wp2_with fail
  with_reducible refine S.out.mono ?_
  rintro e w2 ⟨rfl, hb⟩
  have B := hidden (keepB HB.out hb)
  clear x1 x2 hb S
  go_wp2
  go_ret
  exact ⟨rfl, B.out⟩

end Go.Proofs.Ytdcngfdklpdpkaa
