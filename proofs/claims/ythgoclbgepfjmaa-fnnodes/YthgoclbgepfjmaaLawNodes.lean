/- Law FnNodes, walked. -/
import Derived.Test.YthgoclbgepfjmaaNodesK
import Derived.Deep.RegionHeld3
namespace Go.Proofs.Ythgoclbgepfjmaa
open Go.RowKit

set_option maxRecDepth 20000 in
set_option maxHeartbeats 25600000 in
theorem law_nodes (p : Option Addr) (nn c : Nat) (l : List Int) (w : World) (h : Byt.Src w p nn l) (hn : nn ≤ 1048576) :
    Calls Try.prog 6 #[.slice p nn c] w fun e w' => e = .returned (.bool true) ∧ Below w.heap.size w w' := by
  have H := hidden h
  clear h
  go_enter Try.func6, Try.ntmps6
  go_wp2_with fail
  with_reducible refine (lwBig_any p nn c w hn).mono ?_
  rintro e w0 ⟨rfl, rfl⟩
  go_wp2_with fail
  with_reducible refine (drawVars_any p nn c l w0 H.out).mono ?_
  rintro e w1 ⟨q, n, d0, g, m, d, rfl, hA⟩
  have hm := hA.few
  have hmd := hA.cap
  have KEY := nodes_key q n d0 g m d w1 hm hA.row hA.sig
  have B := hidden (keepB hA.below (alloc_below w1 (.cells #[.slice q n d0] 26)))
  have D := hidden (One.new w1 (.slice q n d0) 26)
  have BW := hidden (alloc_below w1 (.cells #[.slice q n d0] 26))
  clear hA H
  have f48 := fld48
  have f48b := fld48b
  have f38a := fld38a
  have f38b := fld38b
  rcases KEY with ⟨C, hC, c36, c37, c34, c38⟩ | ⟨g0, N, A, L, rfl, hn7, hk, hS, hI, hc⟩
  · have C36 := hidden c36
    have C37 := hidden c37
    have C34 := hidden c34
    have C38 := hidden c38
    have HC := hidden hC
    clear c36 c37 c34 c38 hC
    go_wp2_with fail
    with_reducible refine (C36.out _ BW.out).mono ?_
    rintro e w2 ⟨rfl, hb⟩
    replace hb := keepB hb (alloc_below _ (.cells #[.int .i64 C, .slice none 0 0] 48))
    replace D := hidden (D.out.keep hb)
    replace B := hidden (keepB B.out hb)
    replace BW := hidden (keepB BW.out hb)
    have R := hidden (Two.new w2 (.int .i64 C) (.slice none 0 0) 48)
    clear hb C36
    have S37 := hidden (show ∀ wc, Below (w2.alloc (.cells #[.int .i64 C, .slice none 0 0] 48)).heap.size (w2.alloc (.cells #[.int .i64 C, .slice none 0 0] 48)) wc → Calls Try.prog 37 #[.agg #[.slice q n d0], .slice (some ⟨g, 0, none⟩) m d] wc fun e w' => e = .returned (.int .i64 C) ∧ Below (w2.alloc (.cells #[.int .i64 C, .slice none 0 0] 48)).heap.size (w2.alloc (.cells #[.int .i64 C, .slice none 0 0] 48)) w' ∧ w'.cell? ⟨w1.heap.size, 0, none⟩ = some (.slice q n d0) ∧ w'.cell? ⟨w2.heap.size, 0, none⟩ = some (.int .i64 C) from fun wc hc => by
      refine (show Calls Try.prog 37 #[.agg #[.slice q n d0], .slice (some ⟨g, 0, none⟩) m d] wc (fun e w' => e = .returned (.int .i64 C) ∧ Below wc.heap.size wc w') from C37.out wc (keepB BW.out hc)).mono ?_
      rintro e w' ⟨h, hb'⟩
      exact ⟨h, keepB hc hb', (D.out.keep (keepB hc hb')).c0, (R.out.keep (keepB hc hb')).c0⟩)
    have S34 := hidden (show ∀ wc, Below (w2.alloc (.cells #[.int .i64 C, .slice none 0 0] 48)).heap.size (w2.alloc (.cells #[.int .i64 C, .slice none 0 0] 48)) wc → Calls Try.prog 34 #[.agg #[.slice q n d0], .slice (some ⟨g, 0, none⟩) m d] wc fun e w' => e = .returned (.int .i64 C) ∧ Below (w2.alloc (.cells #[.int .i64 C, .slice none 0 0] 48)).heap.size (w2.alloc (.cells #[.int .i64 C, .slice none 0 0] 48)) w' ∧ w'.cell? ⟨w1.heap.size, 0, none⟩ = some (.slice q n d0) ∧ w'.cell? ⟨w2.heap.size, 0, none⟩ = some (.int .i64 C) from fun wc hc => by
      refine (show Calls Try.prog 34 #[.agg #[.slice q n d0], .slice (some ⟨g, 0, none⟩) m d] wc (fun e w' => e = .returned (.int .i64 C) ∧ Below wc.heap.size wc w') from C34.out wc (keepB BW.out hc)).mono ?_
      rintro e w' ⟨h, hb'⟩
      exact ⟨h, keepB hc hb', (D.out.keep (keepB hc hb')).c0, (R.out.keep (keepB hc hb')).c0⟩)
    have S38 := hidden (show ∀ wc, Below (w2.alloc (.cells #[.int .i64 C, .slice none 0 0] 48)).heap.size (w2.alloc (.cells #[.int .i64 C, .slice none 0 0] 48)) wc → Calls Try.prog 38 #[.agg #[.slice q n d0], .slice (some ⟨g, 0, none⟩) m d] wc fun e w' => e = .returned (.bool false) ∧ Below (w2.alloc (.cells #[.int .i64 C, .slice none 0 0] 48)).heap.size (w2.alloc (.cells #[.int .i64 C, .slice none 0 0] 48)) w' ∧ w'.cell? ⟨w1.heap.size, 0, none⟩ = some (.slice q n d0) ∧ w'.cell? ⟨w2.heap.size, 0, none⟩ = some (.int .i64 C) from fun wc hc => by
      refine (show Calls Try.prog 38 #[.agg #[.slice q n d0], .slice (some ⟨g, 0, none⟩) m d] wc (fun e w' => e = .returned (.bool false) ∧ Below wc.heap.size wc w') from C38.out wc (keepB BW.out hc)).mono ?_
      rintro e w' ⟨h, hb'⟩
      exact ⟨h, keepB hc hb', (D.out.keep (keepB hc hb')).c0, (R.out.keep (keepB hc hb')).c0⟩)
    have e0 := D.out.c0
    have r0 := R.out.c0
    have hcc : (C != C) = false := by simp
    have hc0 : (C == 0) = false := by have := HC.out; simpa using this
    have hc1 : ¬ C = 0 := HC.out
    have hc2 : decide (C = 0) = false := decide_eq_false HC.out
    go_wp2_with fail
    go_cut [51] (fun t wc => t = .bool false ∧ Below (w2.alloc (.cells #[.int .i64 C, .slice none 0 0] 48)).heap.size (w2.alloc (.cells #[.int .i64 C, .slice none 0 0] 48)) wc)
    case first =>
      refine wp_region_held_drew (S := fun wz => wz.cell? ⟨w1.heap.size, 0, none⟩ = some (.slice q n d0) ∧ wz.cell? ⟨w2.heap.size, 0, none⟩ = some (.int .i64 C)) (by kernel_rfl) ⟨e0, r0⟩ (fun hHeld => ?_)
      refine wpAnyH_take (i := 0) (oi := { dst := some 21, op := Op.fieldAddr 48 (Operand.tmp 5) 0, type := 0, pos := "laws.go:237", after := #[], guard := none }) (v := ?_) rfl (by kernel_rfl) (by kernel_rfl) (by kernel_rfl) (fun _ _ _ h => h) (Or.inl ⟨by rfl, ?_⟩) (by assumption) ?_
      rotate_left
      · (intro wv hSw; (try dsimp only at hSw); go_simp; try with_reducible rfl)
      try simp only [Act.put, List.setIfInBounds_toArray, List.set_cons_zero, List.set_cons_succ]
      refine wpAnyH_take (i := 1) (oi := { dst := some 22, op := Op.load 2 (Operand.tmp 21), type := 2, pos := "laws.go:237", after := #[{ on := 0, ground := Ground.data }], guard := none }) (v := ?_) rfl (by kernel_rfl) (by kernel_rfl) (by kernel_rfl) (fun _ _ _ h => h) (Or.inl ⟨by rfl, ?_⟩) (by assumption) ?_
      rotate_left
      · (intro wv hSw; (try dsimp only at hSw); go_simp; try with_reducible rfl)
      try simp only [Act.put, List.setIfInBounds_toArray, List.set_cons_zero, List.set_cons_succ]
      refine wpAnyH_take (i := 2) (oi := { dst := some 23, op := Op.load 26 (Operand.tmp 3), type := 26, pos := "laws.go:237", after := #[], guard := none }) (v := ?_) rfl (by kernel_rfl) (by kernel_rfl) (by kernel_rfl) (fun _ _ _ h => h) (Or.inl ⟨by rfl, ?_⟩) (by assumption) ?_
      rotate_left
      · (intro wv hSw; (try dsimp only at hSw); go_simp; try with_reducible rfl)
      try simp only [Act.put, List.setIfInBounds_toArray, List.set_cons_zero, List.set_cons_succ]
      refine wpAnyH_take (i := 3) (oi := { dst := some 24, op := Op.move (Operand.tmp 4), type := 44, pos := "laws.go:237", after := #[], guard := none }) (v := ?_) rfl (by kernel_rfl) (by kernel_rfl) (by kernel_rfl) (fun _ _ _ h => h) (Or.inl ⟨by rfl, ?_⟩) (by assumption) ?_
      rotate_left
      · (intro wv hSw; (try dsimp only at hSw); go_simp; try with_reducible rfl)
      try simp only [Act.put, List.setIfInBounds_toArray, List.set_cons_zero, List.set_cons_succ]
      refine wpAnyH_ready (rs := [4]) (by kernel_rfl) (by simp) ?_
      refine AllReadyH.cons (o := { dst := some 25, op := Op.call { callee := Callee.value (Operand.func 37), args := #[Operand.tmp 23, Operand.tmp 24], argTypes := #[26, 44] }, type := 2, pos := "laws.go:237", after := #[{ on := 2, ground := Ground.data }, { on := 3, ground := Ground.data }], guard := none }) rfl (fun K hK => ?_) AllReadyH.nil
      go_simp
      go_at_call 37; with_reducible refine (S37.out _ ?_).mono ?_; exact (Below.refl _ _).drew; rintro e v5 ⟨rfl, bb5, t5, r5⟩
      try go_wp2_with fail
      refine hK.out _ _ ?_ (fun hHeld => ?_)
      · exact ⟨t5, r5⟩
      clear hK K
      try simp only [Act.put, List.setIfInBounds_toArray, List.set_cons_zero, List.set_cons_succ]
      refine wpAnyH_take (i := 5) (oi := { dst := some 26, op := Op.binOp BinOp.neq 2 (Operand.tmp 22) (Operand.tmp 25) 2, type := 4, pos := "laws.go:237", after := #[{ on := 1, ground := Ground.data }, { on := 4, ground := Ground.data }], guard := none }) (v := ?_) rfl (by kernel_rfl) (by kernel_rfl) (by kernel_rfl) (fun _ _ _ h => h) (Or.inl ⟨by rfl, ?_⟩) (by assumption) ?_
      rotate_left
      · (intro wv hSw; (try dsimp only at hSw); go_simp; try with_reducible rfl)
      try simp only [Act.put, List.setIfInBounds_toArray, List.set_cons_zero, List.set_cons_succ]
      refine wpAnyH_take (i := 6) (oi := { dst := some 27, op := Op.move (Operand.tmp 26), type := 4, pos := "laws.go:237", after := #[{ on := 5, ground := Ground.data }, { on := 4, ground := Ground.chain }], guard := none }) (v := ?_) rfl (by kernel_rfl) (by kernel_rfl) (by kernel_rfl) (fun _ _ _ h => h) (Or.inl ⟨by rfl, ?_⟩) (by assumption) ?_
      rotate_left
      · (intro wv hSw; (try dsimp only at hSw); go_simp; try with_reducible rfl)
      try simp only [Act.put, List.setIfInBounds_toArray, List.set_cons_zero, List.set_cons_succ]
      refine wpAnyH_take (i := 7) (oi := { dst := some 28, op := Op.load 26 (Operand.tmp 3), type := 26, pos := "laws.go:237", after := #[{ on := 6, ground := Ground.guard }], guard := some (6, false) }) (v := ?_) rfl (by kernel_rfl) (by kernel_rfl) (by kernel_rfl) (fun _ _ _ h => h) (Or.inl ⟨by rfl, ?_⟩) (by assumption) ?_
      rotate_left
      · (intro wv hSw; (try dsimp only at hSw); go_simp; try with_reducible rfl)
      try simp only [Act.put, List.setIfInBounds_toArray, List.set_cons_zero, List.set_cons_succ]
      refine wpAnyH_take (i := 8) (oi := { dst := some 29, op := Op.move (Operand.tmp 4), type := 44, pos := "laws.go:237", after := #[{ on := 6, ground := Ground.guard }], guard := some (6, false) }) (v := ?_) rfl (by kernel_rfl) (by kernel_rfl) (by kernel_rfl) (fun _ _ _ h => h) (Or.inl ⟨by rfl, ?_⟩) (by assumption) ?_
      rotate_left
      · (intro wv hSw; (try dsimp only at hSw); go_simp; try with_reducible rfl)
      try simp only [Act.put, List.setIfInBounds_toArray, List.set_cons_zero, List.set_cons_succ]
      refine wpAnyH_take (i := 10) (oi := { dst := some 31, op := Op.fieldAddr 48 (Operand.tmp 5) 0, type := 0, pos := "laws.go:237", after := #[{ on := 6, ground := Ground.guard }], guard := some (6, false) }) (v := ?_) rfl (by kernel_rfl) (by kernel_rfl) (by kernel_rfl) (fun _ _ _ h => h) (Or.inl ⟨by rfl, ?_⟩) (by assumption) ?_
      rotate_left
      · (intro wv hSw; (try dsimp only at hSw); go_simp; try with_reducible rfl)
      try simp only [Act.put, List.setIfInBounds_toArray, List.set_cons_zero, List.set_cons_succ]
      refine wpAnyH_take (i := 11) (oi := { dst := some 32, op := Op.load 2 (Operand.tmp 31), type := 2, pos := "laws.go:237", after := #[{ on := 10, ground := Ground.data }, { on := 6, ground := Ground.guard }], guard := some (6, false) }) (v := ?_) rfl (by kernel_rfl) (by kernel_rfl) (by kernel_rfl) (fun _ _ _ h => h) (Or.inl ⟨by rfl, ?_⟩) (by assumption) ?_
      rotate_left
      · (intro wv hSw; (try dsimp only at hSw); go_simp; try with_reducible rfl)
      try simp only [Act.put, List.setIfInBounds_toArray, List.set_cons_zero, List.set_cons_succ]
      refine wpAnyH_ready (rs := [9]) (by kernel_rfl) (by simp) ?_
      refine AllReadyH.cons (o := { dst := some 30, op := Op.call { callee := Callee.value (Operand.func 34), args := #[Operand.tmp 28, Operand.tmp 29], argTypes := #[26, 44] }, type := 2, pos := "laws.go:237", after := #[{ on := 7, ground := Ground.data }, { on := 8, ground := Ground.data }, { on := 6, ground := Ground.chain }, { on := 6, ground := Ground.guard }], guard := some (6, false) }) rfl (fun K hK => ?_) AllReadyH.nil
      go_simp
      go_at_call 34; with_reducible refine (S34.out _ bb5).mono ?_; rintro e v6 ⟨rfl, bb6, t6, r6⟩
      try go_wp2_with fail
      refine hK.out _ _ ?_ (fun hHeld => ?_)
      · exact ⟨t6, r6⟩
      clear hK K
      try simp only [Act.put, List.setIfInBounds_toArray, List.set_cons_zero, List.set_cons_succ]
      refine wpAnyH_take (i := 12) (oi := { dst := some 33, op := Op.binOp BinOp.neq 2 (Operand.tmp 30) (Operand.tmp 32) 2, type := 4, pos := "laws.go:237", after := #[{ on := 9, ground := Ground.data }, { on := 11, ground := Ground.data }, { on := 6, ground := Ground.guard }], guard := some (6, false) }) (v := ?_) rfl (by kernel_rfl) (by kernel_rfl) (by kernel_rfl) (fun _ _ _ h => h) (Or.inl ⟨by rfl, ?_⟩) (by assumption) ?_
      rotate_left
      · (intro wv hSw; (try dsimp only at hSw); go_simp; try with_reducible rfl)
      try simp only [Act.put, List.setIfInBounds_toArray, List.set_cons_zero, List.set_cons_succ]
      refine wpAnyH_take (i := 13) (oi := { dst := some 34, op := Op.pick (Operand.tmp 27) (Operand.const (Value.bool true)) (Operand.tmp 33), type := 4, pos := "laws.go:237", after := #[{ on := 6, ground := Ground.data }, { on := 12, ground := Ground.data }], guard := none }) (v := ?_) rfl (by kernel_rfl) (by kernel_rfl) (by kernel_rfl) (fun _ _ _ h => h) (Or.inl ⟨by rfl, ?_⟩) (by assumption) ?_
      rotate_left
      · (intro wv hSw; (try dsimp only at hSw); go_simp; try with_reducible rfl)
      try simp only [Act.put, List.setIfInBounds_toArray, List.set_cons_zero, List.set_cons_succ]
      refine wpAnyH_take (i := 14) (oi := { dst := some 35, op := Op.move (Operand.tmp 34), type := 4, pos := "laws.go:237", after := #[{ on := 13, ground := Ground.data }, { on := 9, ground := Ground.chain }], guard := none }) (v := ?_) rfl (by kernel_rfl) (by kernel_rfl) (by kernel_rfl) (fun _ _ _ h => h) (Or.inl ⟨by rfl, ?_⟩) (by assumption) ?_
      rotate_left
      · (intro wv hSw; (try dsimp only at hSw); go_simp; try with_reducible rfl)
      try simp only [Act.put, List.setIfInBounds_toArray, List.set_cons_zero, List.set_cons_succ]
      refine wpAnyH_take (i := 15) (oi := { dst := some 36, op := Op.load 26 (Operand.tmp 3), type := 26, pos := "laws.go:237", after := #[{ on := 14, ground := Ground.guard }], guard := some (14, false) }) (v := ?_) rfl (by kernel_rfl) (by kernel_rfl) (by kernel_rfl) (fun _ _ _ h => h) (Or.inl ⟨by rfl, ?_⟩) (by assumption) ?_
      rotate_left
      · (intro wv hSw; (try dsimp only at hSw); go_simp; try with_reducible rfl)
      try simp only [Act.put, List.setIfInBounds_toArray, List.set_cons_zero, List.set_cons_succ]
      refine wpAnyH_take (i := 16) (oi := { dst := some 37, op := Op.move (Operand.tmp 4), type := 44, pos := "laws.go:237", after := #[{ on := 14, ground := Ground.guard }], guard := some (14, false) }) (v := ?_) rfl (by kernel_rfl) (by kernel_rfl) (by kernel_rfl) (fun _ _ _ h => h) (Or.inl ⟨by rfl, ?_⟩) (by assumption) ?_
      rotate_left
      · (intro wv hSw; (try dsimp only at hSw); go_simp; try with_reducible rfl)
      try simp only [Act.put, List.setIfInBounds_toArray, List.set_cons_zero, List.set_cons_succ]
      refine wpAnyH_take (i := 18) (oi := { dst := some 39, op := Op.fieldAddr 48 (Operand.tmp 5) 0, type := 0, pos := "laws.go:237", after := #[{ on := 14, ground := Ground.guard }], guard := some (14, false) }) (v := ?_) rfl (by kernel_rfl) (by kernel_rfl) (by kernel_rfl) (fun _ _ _ h => h) (Or.inl ⟨by rfl, ?_⟩) (by assumption) ?_
      rotate_left
      · (intro wv hSw; (try dsimp only at hSw); go_simp; try with_reducible rfl)
      try simp only [Act.put, List.setIfInBounds_toArray, List.set_cons_zero, List.set_cons_succ]
      refine wpAnyH_take (i := 19) (oi := { dst := some 40, op := Op.load 2 (Operand.tmp 39), type := 2, pos := "laws.go:237", after := #[{ on := 18, ground := Ground.data }, { on := 14, ground := Ground.guard }], guard := some (14, false) }) (v := ?_) rfl (by kernel_rfl) (by kernel_rfl) (by kernel_rfl) (fun _ _ _ h => h) (Or.inl ⟨by rfl, ?_⟩) (by assumption) ?_
      rotate_left
      · (intro wv hSw; (try dsimp only at hSw); go_simp; try with_reducible rfl)
      try simp only [Act.put, List.setIfInBounds_toArray, List.set_cons_zero, List.set_cons_succ]
      refine wpAnyH_take (i := 20) (oi := { dst := some 41, op := Op.binOp BinOp.eql 2 (Operand.tmp 40) (Operand.const (Value.int IntKind.i64 0)) 2, type := 4, pos := "laws.go:237", after := #[{ on := 19, ground := Ground.data }, { on := 14, ground := Ground.guard }], guard := some (14, false) }) (v := ?_) rfl (by kernel_rfl) (by kernel_rfl) (by kernel_rfl) (fun _ _ _ h => h) (Or.inl ⟨by rfl, ?_⟩) (by assumption) ?_
      rotate_left
      · (intro wv hSw; (try dsimp only at hSw); go_simp; try with_reducible rfl)
      try simp only [Act.put, List.setIfInBounds_toArray, List.set_cons_zero, List.set_cons_succ]
      refine wpAnyH_ready (rs := [17]) (by kernel_rfl) (by simp) ?_
      refine AllReadyH.cons (o := { dst := some 38, op := Op.call { callee := Callee.value (Operand.func 38), args := #[Operand.tmp 36, Operand.tmp 37], argTypes := #[26, 44] }, type := 4, pos := "laws.go:237", after := #[{ on := 15, ground := Ground.data }, { on := 16, ground := Ground.data }, { on := 14, ground := Ground.chain }, { on := 14, ground := Ground.guard }], guard := some (14, false) }) rfl (fun K hK => ?_) AllReadyH.nil
      go_simp
      go_at_call 38; with_reducible refine (S38.out _ bb6).mono ?_; rintro e v7 ⟨rfl, bb7, t7, r7⟩
      try go_wp2_with fail
      refine hK.out _ _ ?_ (fun hHeld => ?_)
      · exact ⟨t7, r7⟩
      clear hK K
      try simp only [Act.put, List.setIfInBounds_toArray, List.set_cons_zero, List.set_cons_succ]
      refine wpAnyH_take (i := 21) (oi := { dst := some 42, op := Op.move (Operand.tmp 41), type := 4, pos := "laws.go:237", after := #[{ on := 20, ground := Ground.data }, { on := 17, ground := Ground.chain }, { on := 14, ground := Ground.guard }], guard := some (14, false) }) (v := ?_) rfl (by kernel_rfl) (by kernel_rfl) (by kernel_rfl) (fun _ _ _ h => h) (Or.inl ⟨by rfl, ?_⟩) (by assumption) ?_
      rotate_left
      · (intro wv hSw; (try dsimp only at hSw); go_simp; try with_reducible rfl)
      try simp only [Act.put, List.setIfInBounds_toArray, List.set_cons_zero, List.set_cons_succ]
      refine wpAnyH_take (i := 22) (oi := { dst := some 43, op := Op.load 26 (Operand.tmp 3), type := 26, pos := "laws.go:237", after := #[{ on := 21, ground := Ground.guard }], guard := some (21, true) }) (v := undef) rfl (by kernel_rfl) (by kernel_rfl) (by kernel_rfl) (fun _ _ _ h => h) (Or.inr ⟨by rfl, rfl⟩) (by assumption) ?_
      try simp only [Act.put, List.setIfInBounds_toArray, List.set_cons_zero, List.set_cons_succ]
      refine wpAnyH_take (i := 23) (oi := { dst := some 44, op := Op.move (Operand.tmp 4), type := 44, pos := "laws.go:237", after := #[{ on := 21, ground := Ground.guard }], guard := some (21, true) }) (v := undef) rfl (by kernel_rfl) (by kernel_rfl) (by kernel_rfl) (fun _ _ _ h => h) (Or.inr ⟨by rfl, rfl⟩) (by assumption) ?_
      try simp only [Act.put, List.setIfInBounds_toArray, List.set_cons_zero, List.set_cons_succ]
      refine wpAnyH_take (i := 24) (oi := { dst := some 45, op := Op.call { callee := Callee.value (Operand.func 39), args := #[Operand.tmp 43, Operand.tmp 44], argTypes := #[26, 44] }, type := 48, pos := "laws.go:237", after := #[{ on := 22, ground := Ground.data }, { on := 23, ground := Ground.data }, { on := 21, ground := Ground.chain }, { on := 21, ground := Ground.guard }], guard := some (21, true) }) (v := undef) rfl (by kernel_rfl) (by kernel_rfl) (by kernel_rfl) (fun _ _ _ h => h) (Or.inr ⟨by rfl, rfl⟩) (by assumption) ?_
      try simp only [Act.put, List.setIfInBounds_toArray, List.set_cons_zero, List.set_cons_succ]
      refine wpAnyH_take (i := 25) (oi := { dst := some 46, op := Op.field 48 (Operand.tmp 45) 1, type := 44, pos := "laws.go:237", after := #[{ on := 24, ground := Ground.data }, { on := 21, ground := Ground.guard }], guard := some (21, true) }) (v := undef) rfl (by kernel_rfl) (by kernel_rfl) (by kernel_rfl) (fun _ _ _ h => h) (Or.inr ⟨by rfl, rfl⟩) (by assumption) ?_
      try simp only [Act.put, List.setIfInBounds_toArray, List.set_cons_zero, List.set_cons_succ]
      refine wpAnyH_take (i := 26) (oi := { dst := some 47, op := Op.call { callee := Callee.builtin Builtin.len, args := #[Operand.tmp 46], argTypes := #[44] }, type := 3, pos := "laws.go:237", after := #[{ on := 25, ground := Ground.data }, { on := 21, ground := Ground.guard }], guard := some (21, true) }) (v := undef) rfl (by kernel_rfl) (by kernel_rfl) (by kernel_rfl) (fun _ _ _ h => h) (Or.inr ⟨by rfl, rfl⟩) (by assumption) ?_
      try simp only [Act.put, List.setIfInBounds_toArray, List.set_cons_zero, List.set_cons_succ]
      refine wpAnyH_take (i := 27) (oi := { dst := some 48, op := Op.binOp BinOp.eql 3 (Operand.tmp 47) (Operand.const (Value.int IntKind.i64 0)) 3, type := 4, pos := "laws.go:237", after := #[{ on := 26, ground := Ground.data }, { on := 21, ground := Ground.guard }], guard := some (21, true) }) (v := undef) rfl (by kernel_rfl) (by kernel_rfl) (by kernel_rfl) (fun _ _ _ h => h) (Or.inr ⟨by rfl, rfl⟩) (by assumption) ?_
      try simp only [Act.put, List.setIfInBounds_toArray, List.set_cons_zero, List.set_cons_succ]
      refine wpAnyH_take (i := 28) (oi := { dst := some 49, op := Op.pick (Operand.tmp 42) (Operand.tmp 48) (Operand.const (Value.bool false)), type := 4, pos := "laws.go:237", after := #[{ on := 21, ground := Ground.data }, { on := 27, ground := Ground.data }, { on := 14, ground := Ground.guard }], guard := some (14, false) }) (v := ?_) rfl (by kernel_rfl) (by kernel_rfl) (by kernel_rfl) (fun _ _ _ h => h) (Or.inl ⟨by rfl, ?_⟩) (by assumption) ?_
      rotate_left
      · (intro wv hSw; (try dsimp only at hSw); go_simp; try with_reducible rfl)
      try simp only [Act.put, List.setIfInBounds_toArray, List.set_cons_zero, List.set_cons_succ]
      refine wpAnyH_take (i := 29) (oi := { dst := some 50, op := Op.binOp BinOp.neq 4 (Operand.tmp 38) (Operand.tmp 49) 4, type := 4, pos := "laws.go:237", after := #[{ on := 17, ground := Ground.data }, { on := 28, ground := Ground.data }, { on := 14, ground := Ground.guard }], guard := some (14, false) }) (v := ?_) rfl (by kernel_rfl) (by kernel_rfl) (by kernel_rfl) (fun _ _ _ h => h) (Or.inl ⟨by rfl, ?_⟩) (by assumption) ?_
      rotate_left
      · (intro wv hSw; (try dsimp only at hSw); go_simp; try with_reducible rfl)
      try simp only [Act.put, List.setIfInBounds_toArray, List.set_cons_zero, List.set_cons_succ]
      refine wpAnyH_take (i := 30) (oi := { dst := some 51, op := Op.pick (Operand.tmp 35) (Operand.const (Value.bool true)) (Operand.tmp 50), type := 4, pos := "laws.go:237", after := #[{ on := 14, ground := Ground.data }, { on := 29, ground := Ground.data }], guard := none }) (v := ?_) rfl (by kernel_rfl) (by kernel_rfl) (by kernel_rfl) (fun _ _ _ h => h) (Or.inl ⟨by rfl, ?_⟩) (by assumption) ?_
      rotate_left
      · (intro wv hSw; (try dsimp only at hSw); go_simp; try with_reducible rfl)
      try simp only [Act.put, List.setIfInBounds_toArray, List.set_cons_zero, List.set_cons_succ]
      refine wpAnyH_done (by kernel_rfl) ?_ _
      go_wp2_with fail
      go_meet
      exact ⟨rfl, bb7⟩
    case rest =>
      rename World => w3
      obtain ⟨rfl, hb⟩ := hcut
      replace B := hidden (keepB B.out hb)
      replace R := hidden (R.out.keep hb)
      clear hb S37 S34 S38 e0 r0
      have r0 := R.out.c0
      have hC' : (C != 0) = true := by have := HC.out; simpa using this
      go_wp2
      go_ret
      exact ⟨rfl, B.out⟩
  · have HT := hidden (term_trm hc)
    have hm24 := HT.out.nods.most
    have hm0 := HT.out.pos
    have hn6 := HT.out.nods.few
    have Q := hidden (hS.keep BW.out)
    have I := hidden (hI.keep BW.out)
    have HK := hidden hk
    have HC := hidden hc
    clear hS hI hk hc
    obtain ⟨kk, hkk⟩ : ∃ kk, kk = (vl L m).length := ⟨_, rfl⟩
    have hk24 : kk ≤ 24 := by rw [hkk]; exact Nat.le_trans (vl_length L m) hm24
    have HKK := hidden hkk
    clear hkk
    obtain ⟨bb, hbb⟩ : ∃ bb, bb = decide (kk = 0) := ⟨_, rfl⟩
    have HG := hidden (show grB n N A m L = bb by rw [gr_vl HC.out, hbb, HKK.out])
    have hb0 : ((kk : Int) == 0) = bb := by rw [hbb]; by_cases e : kk = 0 <;> simp [e]
    have hbn : (bb != bb) = false := by simp
    clear hbb
    go_wp2_with fail
    with_reducible refine (implVars_any _ _ _ _ _ _ _ _ N A L _ Q.out I.out HK.out (by omega)).mono ?_
    rintro e w2 ⟨ha, hb⟩
    obtain ⟨qv, dv, rfl, hv⟩ : ∃ qv dv, e = .returned (.agg #[.int .i64 0, .slice qv kk dv]) ∧ Nmz w2 qv kk (fun i => (vl L m).getD i 0) := by
      rcases ha with ⟨h0, _⟩ | ⟨_, hl, rfl⟩ | ⟨_, hl, gv, dv, rfl, _, ho⟩
      · exact absurd HC.out h0
      · have : kk = 0 := by rw [HKK.out, hl]; rfl
        exact ⟨none, 0, by rw [this], Or.inl this⟩
      · rw [HKK.out]
        exact ⟨some ⟨gv, 0, none⟩, dv, rfl, Or.inr ⟨gv, rfl, ho.ints⟩⟩
    clear ha
    have V := hidden (hv.keep (alloc_below w2 (.cells #[.int .i64 0, .slice qv kk dv] 48)))
    replace hb := keepB hb (alloc_below _ (.cells #[.int .i64 0, .slice qv kk dv] 48))
    replace D := hidden (D.out.keep hb)
    replace B := hidden (keepB B.out hb)
    replace Q := hidden (Q.out.keep hb)
    replace I := hidden (I.out.keep hb)
    have R := hidden (Two.new w2 (.int .i64 0) (.slice qv kk dv) 48)
    clear hb hv BW
    have S37 := hidden (show ∀ wc, Below (w2.alloc (.cells #[.int .i64 0, .slice qv kk dv] 48)).heap.size (w2.alloc (.cells #[.int .i64 0, .slice qv kk dv] 48)) wc → Calls Try.prog 37 #[.agg #[.slice (some ⟨g0, 0, none⟩) n d0], .slice (some ⟨g, 0, none⟩) m d] wc fun e w' => e = .returned (.int .i64 0) ∧ Below (w2.alloc (.cells #[.int .i64 0, .slice qv kk dv] 48)).heap.size (w2.alloc (.cells #[.int .i64 0, .slice qv kk dv] 48)) w' ∧ w'.cell? ⟨w1.heap.size, 0, none⟩ = some (.slice (some ⟨g0, 0, none⟩) n d0) ∧ w'.cell? ⟨w2.heap.size, 0, none⟩ = some (.int .i64 0) from fun wc hc => by
      refine (show Calls Try.prog 37 #[.agg #[.slice (some ⟨g0, 0, none⟩) n d0], .slice (some ⟨g, 0, none⟩) m d] wc (fun e w' => e = .returned (.int .i64 0) ∧ Below wc.heap.size wc w') from (specTerm_any _ _ _ _ _ _ _ _ N A L wc (Q.out.keep hc) (I.out.keep hc) HK.out (by omega)).mono (by rintro e w' ⟨rfl, hb⟩; exact ⟨by rw [HC.out], hb⟩)).mono ?_
      rintro e w' ⟨h, hb'⟩
      exact ⟨h, keepB hc hb', (D.out.keep (keepB hc hb')).c0, (R.out.keep (keepB hc hb')).c0⟩)
    have S34 := hidden (show ∀ wc, Below (w2.alloc (.cells #[.int .i64 0, .slice qv kk dv] 48)).heap.size (w2.alloc (.cells #[.int .i64 0, .slice qv kk dv] 48)) wc → Calls Try.prog 34 #[.agg #[.slice (some ⟨g0, 0, none⟩) n d0], .slice (some ⟨g, 0, none⟩) m d] wc fun e w' => e = .returned (.int .i64 0) ∧ Below (w2.alloc (.cells #[.int .i64 0, .slice qv kk dv] 48)).heap.size (w2.alloc (.cells #[.int .i64 0, .slice qv kk dv] 48)) w' ∧ w'.cell? ⟨w1.heap.size, 0, none⟩ = some (.slice (some ⟨g0, 0, none⟩) n d0) ∧ w'.cell? ⟨w2.heap.size, 0, none⟩ = some (.int .i64 0) from fun wc hc => by
      refine (show Calls Try.prog 34 #[.agg #[.slice (some ⟨g0, 0, none⟩) n d0], .slice (some ⟨g, 0, none⟩) m d] wc (fun e w' => e = .returned (.int .i64 0) ∧ Below wc.heap.size wc w') from (implTerm_any _ _ _ _ _ _ _ _ N A L wc (Q.out.keep hc) (I.out.keep hc) HK.out (by omega)).mono (by rintro e w' ⟨rfl, hb⟩; exact ⟨by rw [HC.out], hb⟩)).mono ?_
      rintro e w' ⟨h, hb'⟩
      exact ⟨h, keepB hc hb', (D.out.keep (keepB hc hb')).c0, (R.out.keep (keepB hc hb')).c0⟩)
    have S38 := hidden (show ∀ wc, Below (w2.alloc (.cells #[.int .i64 0, .slice qv kk dv] 48)).heap.size (w2.alloc (.cells #[.int .i64 0, .slice qv kk dv] 48)) wc → Calls Try.prog 38 #[.agg #[.slice (some ⟨g0, 0, none⟩) n d0], .slice (some ⟨g, 0, none⟩) m d] wc fun e w' => e = .returned (.bool bb) ∧ Below (w2.alloc (.cells #[.int .i64 0, .slice qv kk dv] 48)).heap.size (w2.alloc (.cells #[.int .i64 0, .slice qv kk dv] 48)) w' ∧ w'.cell? ⟨w1.heap.size, 0, none⟩ = some (.slice (some ⟨g0, 0, none⟩) n d0) ∧ w'.cell? ⟨w2.heap.size, 0, none⟩ = some (.int .i64 0) from fun wc hc => by
      refine (show Calls Try.prog 38 #[.agg #[.slice (some ⟨g0, 0, none⟩) n d0], .slice (some ⟨g, 0, none⟩) m d] wc (fun e w' => e = .returned (.bool bb) ∧ Below wc.heap.size wc w') from (implGround_any _ _ _ _ _ _ _ _ N A L wc (Q.out.keep hc) (I.out.keep hc) HK.out (by omega)).mono (by rintro e w' ⟨rfl, hb⟩; exact ⟨by rw [HG.out], hb⟩)).mono ?_
      rintro e w' ⟨h, hb'⟩
      exact ⟨h, keepB hc hb', (D.out.keep (keepB hc hb')).c0, (R.out.keep (keepB hc hb')).c0⟩)
    have S39 := hidden (show ∀ wc, Below (w2.alloc (.cells #[.int .i64 0, .slice qv kk dv] 48)).heap.size (w2.alloc (.cells #[.int .i64 0, .slice qv kk dv] 48)) wc → Calls Try.prog 39 #[.agg #[.slice (some ⟨g0, 0, none⟩) n d0], .slice (some ⟨g, 0, none⟩) m d] wc fun e w' => (∃ g' d', e = .returned (.agg #[.int .i64 0, .slice (some ⟨g', 0, none⟩) kk d'])) ∧ Below (w2.alloc (.cells #[.int .i64 0, .slice qv kk dv] 48)).heap.size (w2.alloc (.cells #[.int .i64 0, .slice qv kk dv] 48)) w' ∧ w'.cell? ⟨w1.heap.size, 0, none⟩ = some (.slice (some ⟨g0, 0, none⟩) n d0) ∧ w'.cell? ⟨w2.heap.size, 0, none⟩ = some (.int .i64 0) from fun wc hc => by
      refine (show Calls Try.prog 39 #[.agg #[.slice (some ⟨g0, 0, none⟩) n d0], .slice (some ⟨g, 0, none⟩) m d] wc (fun e w' => (∃ g' d', e = .returned (.agg #[.int .i64 0, .slice (some ⟨g', 0, none⟩) kk d'])) ∧ Below wc.heap.size wc w') from (specVars_any _ _ _ _ _ _ _ _ N A L wc (Q.out.keep hc) (I.out.keep hc) HK.out (by omega)).mono (by rintro e w' ⟨⟨h0, _⟩ | ⟨_, g', d', rfl, _⟩, hb⟩; exact absurd HC.out h0; exact ⟨⟨g', d', by rw [HKK.out]⟩, hb⟩)).mono ?_
      rintro e w' ⟨h, hb'⟩
      exact ⟨h, keepB hc hb', (D.out.keep (keepB hc hb')).c0, (R.out.keep (keepB hc hb')).c0⟩)
    have e0 := D.out.c0
    have r0 := R.out.c0
    go_wp2_with fail
    go_cut [51] (fun t wc => t = .bool false ∧ Below (w2.alloc (.cells #[.int .i64 0, .slice qv kk dv] 48)).heap.size (w2.alloc (.cells #[.int .i64 0, .slice qv kk dv] 48)) wc)
    case first =>
      go_region_held3 (fun wz => wz.cell? ⟨w1.heap.size, 0, none⟩ = some (.slice (some ⟨g0, 0, none⟩) n d0) ∧ wz.cell? ⟨w2.heap.size, 0, none⟩ = some (.int .i64 0)) (first | exact ⟨by assumption, by assumption⟩ | go_keep) (first
        | (go_at_call 37; with_reducible refine (S37.out _ ?_).mono ?_; exact (Below.refl _ _).drew; rintro e v5 ⟨rfl, bb5, t5, r5⟩)
        | (go_at_call 34; with_reducible refine (S34.out _ bb5).mono ?_; rintro e v6 ⟨rfl, bb6, t6, r6⟩)
        | (go_at_call 38; with_reducible refine (S38.out _ bb6).mono ?_; rintro e v7 ⟨rfl, bb7, t7, r7⟩)
        | (go_at_call 39; with_reducible refine (S39.out _ bb7).mono ?_; rintro e v8 ⟨⟨g8, d8, rfl⟩, bb8, t8, r8⟩))
      all_goals (go_wp2_with fail; go_meet)
      all_goals exact ⟨rfl, bb8⟩
    case rest =>
      rename World => w3
      obtain ⟨rfl, hb⟩ := hcut
      replace D := hidden (D.out.keep hb)
      replace B := hidden (keepB B.out hb)
      replace R := hidden (R.out.keep hb)
      replace Q := hidden (Q.out.keep hb)
      replace I := hidden (I.out.keep hb)
      replace V := hidden (V.out.keep hb)
      clear hb S37 S34 S38 S39 e0 r0 hb0 hbn HG bb
      have r0 := R.out.c0
      go_wp2
      clear r0
      go_loopw [6, 7] (fun z i wr => ∃ k : Nat, k ≤ n + 12 ∧ i = .int .i64 ((k : Int) - 12) ∧ z = .int .i64 ((sumC L m k : Nat) : Int) ∧ Hid (Below w3.heap.size w3 wr)) (fun _ i _ => (n + 12) - (intOf i + 12).toNat)
      case atStart => exact ⟨0, Nat.zero_le _, rfl, rfl, hidden (Below.refl _ _)⟩
      case round =>
        obtain ⟨k, hk, rfl, rfl, HB⟩ := hrel
        have hsl := sumC_le L k m
        have D5 := hidden (D.out.keep HB.out)
        have Q5 := hidden (Q.out.keep HB.out)
        have I5 := hidden (I.out.keep HB.out)
        by_cases hlt : k < n + 12
        · have hlt' : (k : Int) - 12 < n := by omega
          have hnb : nodeB ((k : Int) - 12) n = true := by unfold nodeB; simp [inB, varB]; omega
          have HCT := hidden (ct_ok HC.out hnb)
          have hsl2 := sumC_le L (k + 1) m
          have HSC := hidden (show sumC L m (k + 1) = sumC L m k + cntN L ((k : Int) - 12) m from rfl)
          rw [HSC.out] at hsl2
          have e0 := D5.out.c0
          clear hnb
          go_wp2_with fail
          with_reducible refine (implCount_any _ _ _ _ _ _ _ _ N A L ((k : Int) - 12) _ Q5.out I5.out HK.out (by omega)).mono ?_
          rw [HCT.out.1, HCT.out.2]
          rintro e w5 ⟨rfl, hb⟩
          replace hb := keepB hb (alloc_below _ (.cells #[.int .i64 0, .int .i64 ((cntN L ((k : Int) - 12) m : Nat) : Int)] 38))
          replace HB := hidden (keepB HB.out hb)
          have V1 := hidden (Two.new w5 (.int .i64 0) (.int .i64 ((cntN L ((k : Int) - 12) m : Nat) : Int)) 38)
          clear hb e0 D5 Q5 I5
          have a0 := V1.out.c0
          have a1 := V1.out.c1
          have HSUM := hidden (show ((sumC L m k : Nat) : Int) + ((cntN L ((k : Int) - 12) m : Nat) : Int) = ((sumC L m (k + 1) : Nat) : Int) by rw [HSC.out]; omega)
          generalize cntN L ((k : Int) - 12) m = ct at *
          generalize sumC L m k = sm at *
          go_wp2
          go_roundw
          case rel => exact ⟨k + 1, by omega, congrArg (Value.int .i64) (by omega), congrArg (Value.int .i64) HSUM.out, HB⟩
          case measure => simp [intOf]; omega
        · obtain rfl : k = n + 12 := by omega
          rw [node_sum HT.out.nods]
          clear hlt hsl hk
          have e0 := D5.out.c0
          have R5 := hidden (R.out.keep HB.out)
          have V5 := hidden (V.out.keep HB.out)
          have B5 := hidden (keepB B.out HB.out)
          clear HB
          have hge : ¬ (((n + 12 : Nat) : Int) - 12) < n := by omega
          go_wp2
          go_loopw [9] (fun i wq => ∃ j : Nat, j ≤ kk ∧ i = .int .i64 j ∧ Hid (Below wr.heap.size wr wq)) (fun i _ => kk - (intOf i).toNat)
          case atStart => exact ⟨0, Nat.zero_le _, rfl, hidden (Below.refl _ _)⟩
          case round =>
            rename World => wq
            obtain ⟨j, hj, rfl, HB⟩ := hrel
            have D6 := hidden (D5.out.keep HB.out)
            have R6 := hidden (R5.out.keep HB.out)
            have Q6 := hidden (Q5.out.keep HB.out)
            have I6 := hidden (I5.out.keep HB.out)
            have V6 := hidden (V5.out.keep HB.out)
            clear e0
            by_cases hlt : j < kk
            · obtain ⟨gv, hqv, hIv⟩ : ∃ gv, qv = some ⟨gv, 0, none⟩ ∧ Ints wq gv 0 kk (fun i => (vl L m).getD i 0) := by
                rcases V6.out with h | h
                · omega
                · exact h
              subst hqv
              have IV := hidden hIv
              obtain ⟨jj, hj12, hvj, hct⟩ := vl_in HT.out.nods (i := j) (by rw [← HKK.out]; exact hlt)
              have c1 : wq.cell? ⟨gv, j, none⟩ = some (.int .i64 (jj : Int)) := by have := hIv.cell j hlt; rw [Nat.zero_add] at this; rw [← hvj]; exact this
              have hnb : nodeB (-1 - (jj : Int)) n = true := by unfold nodeB; simp [inB, varB]; omega
              have HCT := hidden (ct_ok HC.out hnb)
              obtain ⟨ct, hcd⟩ : ∃ ct, ct = cntN L (-1 - (jj : Int)) m := ⟨_, rfl⟩
              have HCD := hidden hcd
              rw [← hcd] at hct
              have hct1 : ¬ (ct : Int) < 1 := by omega
              have hct2 : decide ((ct : Int) < 1) = false := decide_eq_false hct1
              have hwj : IntKind.i64.wrap (-1 - (jj : Int)) = -1 - (jj : Int) := by rw [IntKind.wrap_i64]; omega
              have HVJ := hidden hvj
              clear hnb hcd hvj hIv
              have hlt' : (j : Int) < kk := by omega
              rcases j with _ | j'
              · have hz : ((0 : Nat) : Int) = 0 := rfl
                have S40 := hidden (show ∀ wc, Below wq.heap.size wq wc → Calls Try.prog 40 #[.agg #[.slice (some ⟨g0, 0, none⟩) n d0], .slice (some ⟨g, 0, none⟩) m d, .int .i64 (-1 - (jj : Int))] wc fun e w' => e = .returned (.agg #[.int .i64 0, .int .i64 (ct : Int)]) ∧ Below wq.heap.size wq w' ∧ w'.cell? ⟨w1.heap.size, 0, none⟩ = some (.slice (some ⟨g0, 0, none⟩) n d0) ∧ w'.cell? ⟨w2.heap.size, 1, none⟩ = some (.slice (some ⟨gv, 0, none⟩) kk dv) ∧ w'.cell? ⟨gv, 0, none⟩ = some (.int .i64 (jj : Int)) from fun wc hc => by
                  refine (implCount_any _ _ _ _ _ _ _ _ N A L (-1 - (jj : Int)) wc (Q6.out.keep hc) (I6.out.keep hc) HK.out (by omega)).mono ?_
                  rw [HCT.out.1, HCT.out.2, ← HCD.out]
                  rintro e w' ⟨rfl, hb'⟩
                  exact ⟨rfl, keepB hc hb', (D6.out.keep (keepB hc hb')).c0, (R6.out.keep (keepB hc hb')).c1, by have := (IV.out.keep (keepB hc hb')).cell 0 hlt; rw [Nat.zero_add] at this; rw [← HVJ.out]; exact this⟩)
                have e0 := D6.out.c0
                have r1 := R6.out.c1
                go_wp2_with fail
                go_cut [108] (fun t wc => t = .bool false ∧ Below wq.heap.size wq wc)
                case first =>
                  refine wp_region_held_drew (S := fun wz => wz.cell? ⟨w1.heap.size, 0, none⟩ = some (.slice (some ⟨g0, 0, none⟩) n d0) ∧ wz.cell? ⟨w2.heap.size, 1, none⟩ = some (.slice (some ⟨gv, 0, none⟩) kk dv) ∧ wz.cell? ⟨gv, 0, none⟩ = some (.int .i64 (jj : Int))) (by kernel_rfl) ⟨e0, r1, c1⟩ (fun hHeld => ?_)
                  refine wpAnyH_take (i := 0) (oi := { dst := some 80, op := Op.load 26 (Operand.tmp 3), type := 26, pos := "laws.go:252", after := #[], guard := none }) (v := ?_) rfl (by kernel_rfl) (by kernel_rfl) (by kernel_rfl) (fun _ _ _ h => h) (Or.inl ⟨by rfl, ?_⟩) (by assumption) ?_
                  rotate_left
                  · (intro wv hSw; (try dsimp only at hSw); go_simp; try with_reducible rfl)
                  try simp only [Act.put, List.setIfInBounds_toArray, List.set_cons_zero, List.set_cons_succ]
                  refine wpAnyH_take (i := 1) (oi := { dst := some 81, op := Op.move (Operand.tmp 4), type := 44, pos := "laws.go:252", after := #[], guard := none }) (v := ?_) rfl (by kernel_rfl) (by kernel_rfl) (by kernel_rfl) (fun _ _ _ h => h) (Or.inl ⟨by rfl, ?_⟩) (by assumption) ?_
                  rotate_left
                  · (intro wv hSw; (try dsimp only at hSw); go_simp; try with_reducible rfl)
                  try simp only [Act.put, List.setIfInBounds_toArray, List.set_cons_zero, List.set_cons_succ]
                  refine wpAnyH_take (i := 2) (oi := { dst := some 82, op := Op.fieldAddr 48 (Operand.tmp 5) 1, type := 0, pos := "laws.go:252", after := #[], guard := none }) (v := ?_) rfl (by kernel_rfl) (by kernel_rfl) (by kernel_rfl) (fun _ _ _ h => h) (Or.inl ⟨by rfl, ?_⟩) (by assumption) ?_
                  rotate_left
                  · (intro wv hSw; (try dsimp only at hSw); go_simp; try with_reducible rfl)
                  try simp only [Act.put, List.setIfInBounds_toArray, List.set_cons_zero, List.set_cons_succ]
                  refine wpAnyH_take (i := 3) (oi := { dst := some 83, op := Op.load 44 (Operand.tmp 82), type := 44, pos := "laws.go:252", after := #[{ on := 2, ground := Ground.data }], guard := none }) (v := ?_) rfl (by kernel_rfl) (by kernel_rfl) (by kernel_rfl) (fun _ _ _ h => h) (Or.inl ⟨by rfl, ?_⟩) (by assumption) ?_
                  rotate_left
                  · (intro wv hSw; (try dsimp only at hSw); go_simp; try with_reducible rfl)
                  try simp only [Act.put, List.setIfInBounds_toArray, List.set_cons_zero, List.set_cons_succ]
                  refine wpAnyH_take (i := 4) (oi := { dst := some 84, op := Op.move (Operand.tmp 9), type := 3, pos := "laws.go:252", after := #[], guard := none }) (v := ?_) rfl (by kernel_rfl) (by kernel_rfl) (by kernel_rfl) (fun _ _ _ h => h) (Or.inl ⟨by rfl, ?_⟩) (by assumption) ?_
                  rotate_left
                  · (intro wv hSw; (try dsimp only at hSw); go_simp; try with_reducible rfl)
                  try simp only [Act.put, List.setIfInBounds_toArray, List.set_cons_zero, List.set_cons_succ]
                  refine wpAnyH_take (i := 5) (oi := { dst := some 85, op := Op.indexAddr 44 (Operand.tmp 83) (Operand.tmp 84), type := 0, pos := "laws.go:252", after := #[{ on := 3, ground := Ground.data }, { on := 4, ground := Ground.data }], guard := none }) (v := ?_) rfl (by kernel_rfl) (by kernel_rfl) (by kernel_rfl) (fun _ _ _ h => h) (Or.inl ⟨by rfl, ?_⟩) (by assumption) ?_
                  rotate_left
                  · (intro wv hSw; (try dsimp only at hSw); go_simp; try with_reducible rfl)
                  try simp only [Act.put, List.setIfInBounds_toArray, List.set_cons_zero, List.set_cons_succ]
                  refine wpAnyH_take (i := 6) (oi := { dst := some 86, op := Op.load 2 (Operand.tmp 85), type := 2, pos := "laws.go:252", after := #[{ on := 5, ground := Ground.data }], guard := none }) (v := ?_) rfl (by kernel_rfl) (by kernel_rfl) (by kernel_rfl) (fun _ _ _ h => h) (Or.inl ⟨by rfl, ?_⟩) (by assumption) ?_
                  rotate_left
                  · (intro wv hSw; (try dsimp only at hSw); go_simp; try with_reducible rfl)
                  try simp only [Act.put, List.setIfInBounds_toArray, List.set_cons_zero, List.set_cons_succ]
                  refine wpAnyH_take (i := 7) (oi := { dst := some 87, op := Op.binOp BinOp.sub 2 (Operand.const (Value.int IntKind.i64 (-1))) (Operand.tmp 86) 2, type := 2, pos := "laws.go:252", after := #[{ on := 6, ground := Ground.data }], guard := none }) (v := ?_) rfl (by kernel_rfl) (by kernel_rfl) (by kernel_rfl) (fun _ _ _ h => h) (Or.inl ⟨by rfl, ?_⟩) (by assumption) ?_
                  rotate_left
                  · (intro wv hSw; (try dsimp only at hSw); go_simp; try with_reducible rfl)
                  try simp only [Act.put, List.setIfInBounds_toArray, List.set_cons_zero, List.set_cons_succ]
                  refine wpAnyH_ready (rs := [8]) (by kernel_rfl) (by simp) ?_
                  refine AllReadyH.cons (o := { dst := some 88, op := Op.call { callee := Callee.value (Operand.func 40), args := #[Operand.tmp 80, Operand.tmp 81, Operand.tmp 87], argTypes := #[26, 44, 2] }, type := 38, pos := "laws.go:252", after := #[{ on := 0, ground := Ground.data }, { on := 1, ground := Ground.data }, { on := 7, ground := Ground.data }], guard := none }) rfl (fun K hK => ?_) AllReadyH.nil
                  go_simp
                  go_at_call 40; with_reducible refine (S40.out _ ?_).mono ?_; exact (Below.refl _ _).drew; rintro e v5 ⟨rfl, bb5, t5, r5, x5⟩
                  try go_wp2_with fail
                  refine hK.out _ _ ?_ (fun hHeld => ?_)
                  · exact ⟨t5, r5, x5⟩
                  clear hK K
                  try simp only [Act.put, List.setIfInBounds_toArray, List.set_cons_zero, List.set_cons_succ]
                  refine wpAnyH_take (i := 9) (oi := { dst := some 89, op := Op.field 38 (Operand.tmp 88) 1, type := 2, pos := "laws.go:252", after := #[{ on := 8, ground := Ground.data }], guard := none }) (v := ?_) rfl (by kernel_rfl) (by kernel_rfl) (by kernel_rfl) (fun _ _ _ h => h) (Or.inl ⟨by rfl, ?_⟩) (by assumption) ?_
                  rotate_left
                  · (intro wv hSw; (try dsimp only at hSw); go_simp; try with_reducible rfl)
                  try simp only [Act.put, List.setIfInBounds_toArray, List.set_cons_zero, List.set_cons_succ]
                  refine wpAnyH_take (i := 10) (oi := { dst := some 90, op := Op.binOp BinOp.lss 2 (Operand.tmp 89) (Operand.const (Value.int IntKind.i64 1)) 2, type := 4, pos := "laws.go:252", after := #[{ on := 9, ground := Ground.data }], guard := none }) (v := ?_) rfl (by kernel_rfl) (by kernel_rfl) (by kernel_rfl) (fun _ _ _ h => h) (Or.inl ⟨by rfl, ?_⟩) (by assumption) ?_
                  rotate_left
                  · (intro wv hSw; (try dsimp only at hSw); go_simp; try with_reducible rfl)
                  try simp only [Act.put, List.setIfInBounds_toArray, List.set_cons_zero, List.set_cons_succ]
                  refine wpAnyH_take (i := 11) (oi := { dst := some 91, op := Op.move (Operand.tmp 90), type := 4, pos := "laws.go:252", after := #[{ on := 10, ground := Ground.data }, { on := 8, ground := Ground.chain }], guard := none }) (v := ?_) rfl (by kernel_rfl) (by kernel_rfl) (by kernel_rfl) (fun _ _ _ h => h) (Or.inl ⟨by rfl, ?_⟩) (by assumption) ?_
                  rotate_left
                  · (intro wv hSw; (try dsimp only at hSw); go_simp; try with_reducible rfl)
                  try simp only [Act.put, List.setIfInBounds_toArray, List.set_cons_zero, List.set_cons_succ]
                  refine wpAnyH_take (i := 12) (oi := { dst := some 92, op := Op.move (Operand.tmp 9), type := 3, pos := "laws.go:252", after := #[{ on := 11, ground := Ground.guard }], guard := some (11, false) }) (v := ?_) rfl (by kernel_rfl) (by kernel_rfl) (by kernel_rfl) (fun _ _ _ h => h) (Or.inl ⟨by rfl, ?_⟩) (by assumption) ?_
                  rotate_left
                  · (intro wv hSw; (try dsimp only at hSw); go_simp; try with_reducible rfl)
                  try simp only [Act.put, List.setIfInBounds_toArray, List.set_cons_zero, List.set_cons_succ]
                  refine wpAnyH_take (i := 13) (oi := { dst := some 93, op := Op.binOp BinOp.gtr 3 (Operand.tmp 92) (Operand.const (Value.int IntKind.i64 0)) 3, type := 4, pos := "laws.go:252", after := #[{ on := 12, ground := Ground.data }, { on := 11, ground := Ground.guard }], guard := some (11, false) }) (v := ?_) rfl (by kernel_rfl) (by kernel_rfl) (by kernel_rfl) (fun _ _ _ h => h) (Or.inl ⟨by rfl, ?_⟩) (by assumption) ?_
                  rotate_left
                  · (intro wv hSw; (try dsimp only at hSw); go_simp; try with_reducible rfl)
                  try simp only [Act.put, List.setIfInBounds_toArray, List.set_cons_zero, List.set_cons_succ]
                  refine wpAnyH_take (i := 14) (oi := { dst := some 94, op := Op.move (Operand.tmp 93), type := 4, pos := "laws.go:252", after := #[{ on := 13, ground := Ground.data }, { on := 11, ground := Ground.chain }, { on := 11, ground := Ground.guard }], guard := some (11, false) }) (v := ?_) rfl (by kernel_rfl) (by kernel_rfl) (by kernel_rfl) (fun _ _ _ h => h) (Or.inl ⟨by rfl, ?_⟩) (by assumption) ?_
                  rotate_left
                  · (intro wv hSw; (try dsimp only at hSw); go_simp; try with_reducible rfl)
                  try simp only [Act.put, List.setIfInBounds_toArray, List.set_cons_zero, List.set_cons_succ]
                  refine wpAnyH_take (i := 15) (oi := { dst := some 95, op := Op.fieldAddr 48 (Operand.tmp 5) 1, type := 0, pos := "laws.go:252", after := #[{ on := 14, ground := Ground.guard }], guard := some (14, true) }) (v := undef) rfl (by kernel_rfl) (by kernel_rfl) (by kernel_rfl) (fun _ _ _ h => h) (Or.inr ⟨by rfl, rfl⟩) (by assumption) ?_
                  try simp only [Act.put, List.setIfInBounds_toArray, List.set_cons_zero, List.set_cons_succ]
                  refine wpAnyH_take (i := 16) (oi := { dst := some 96, op := Op.load 44 (Operand.tmp 95), type := 44, pos := "laws.go:252", after := #[{ on := 15, ground := Ground.data }, { on := 14, ground := Ground.guard }], guard := some (14, true) }) (v := undef) rfl (by kernel_rfl) (by kernel_rfl) (by kernel_rfl) (fun _ _ _ h => h) (Or.inr ⟨by rfl, rfl⟩) (by assumption) ?_
                  try simp only [Act.put, List.setIfInBounds_toArray, List.set_cons_zero, List.set_cons_succ]
                  refine wpAnyH_take (i := 17) (oi := { dst := some 97, op := Op.move (Operand.tmp 9), type := 3, pos := "laws.go:252", after := #[{ on := 14, ground := Ground.guard }], guard := some (14, true) }) (v := undef) rfl (by kernel_rfl) (by kernel_rfl) (by kernel_rfl) (fun _ _ _ h => h) (Or.inr ⟨by rfl, rfl⟩) (by assumption) ?_
                  try simp only [Act.put, List.setIfInBounds_toArray, List.set_cons_zero, List.set_cons_succ]
                  refine wpAnyH_take (i := 18) (oi := { dst := some 98, op := Op.indexAddr 44 (Operand.tmp 96) (Operand.tmp 97), type := 0, pos := "laws.go:252", after := #[{ on := 16, ground := Ground.data }, { on := 17, ground := Ground.data }, { on := 14, ground := Ground.guard }], guard := some (14, true) }) (v := undef) rfl (by kernel_rfl) (by kernel_rfl) (by kernel_rfl) (fun _ _ _ h => h) (Or.inr ⟨by rfl, rfl⟩) (by assumption) ?_
                  try simp only [Act.put, List.setIfInBounds_toArray, List.set_cons_zero, List.set_cons_succ]
                  refine wpAnyH_take (i := 19) (oi := { dst := some 99, op := Op.load 2 (Operand.tmp 98), type := 2, pos := "laws.go:252", after := #[{ on := 18, ground := Ground.data }, { on := 14, ground := Ground.guard }], guard := some (14, true) }) (v := undef) rfl (by kernel_rfl) (by kernel_rfl) (by kernel_rfl) (fun _ _ _ h => h) (Or.inr ⟨by rfl, rfl⟩) (by assumption) ?_
                  try simp only [Act.put, List.setIfInBounds_toArray, List.set_cons_zero, List.set_cons_succ]
                  refine wpAnyH_take (i := 20) (oi := { dst := some 100, op := Op.fieldAddr 48 (Operand.tmp 5) 1, type := 0, pos := "laws.go:252", after := #[{ on := 14, ground := Ground.guard }], guard := some (14, true) }) (v := undef) rfl (by kernel_rfl) (by kernel_rfl) (by kernel_rfl) (fun _ _ _ h => h) (Or.inr ⟨by rfl, rfl⟩) (by assumption) ?_
                  try simp only [Act.put, List.setIfInBounds_toArray, List.set_cons_zero, List.set_cons_succ]
                  refine wpAnyH_take (i := 21) (oi := { dst := some 101, op := Op.load 44 (Operand.tmp 100), type := 44, pos := "laws.go:252", after := #[{ on := 20, ground := Ground.data }, { on := 14, ground := Ground.guard }], guard := some (14, true) }) (v := undef) rfl (by kernel_rfl) (by kernel_rfl) (by kernel_rfl) (fun _ _ _ h => h) (Or.inr ⟨by rfl, rfl⟩) (by assumption) ?_
                  try simp only [Act.put, List.setIfInBounds_toArray, List.set_cons_zero, List.set_cons_succ]
                  refine wpAnyH_take (i := 22) (oi := { dst := some 102, op := Op.move (Operand.tmp 9), type := 3, pos := "laws.go:252", after := #[{ on := 14, ground := Ground.guard }], guard := some (14, true) }) (v := undef) rfl (by kernel_rfl) (by kernel_rfl) (by kernel_rfl) (fun _ _ _ h => h) (Or.inr ⟨by rfl, rfl⟩) (by assumption) ?_
                  try simp only [Act.put, List.setIfInBounds_toArray, List.set_cons_zero, List.set_cons_succ]
                  refine wpAnyH_take (i := 23) (oi := { dst := some 103, op := Op.binOp BinOp.sub 3 (Operand.tmp 102) (Operand.const (Value.int IntKind.i64 1)) 3, type := 3, pos := "laws.go:252", after := #[{ on := 22, ground := Ground.data }, { on := 14, ground := Ground.guard }], guard := some (14, true) }) (v := undef) rfl (by kernel_rfl) (by kernel_rfl) (by kernel_rfl) (fun _ _ _ h => h) (Or.inr ⟨by rfl, rfl⟩) (by assumption) ?_
                  try simp only [Act.put, List.setIfInBounds_toArray, List.set_cons_zero, List.set_cons_succ]
                  refine wpAnyH_take (i := 24) (oi := { dst := some 104, op := Op.indexAddr 44 (Operand.tmp 101) (Operand.tmp 103), type := 0, pos := "laws.go:252", after := #[{ on := 21, ground := Ground.data }, { on := 23, ground := Ground.data }, { on := 14, ground := Ground.guard }], guard := some (14, true) }) (v := undef) rfl (by kernel_rfl) (by kernel_rfl) (by kernel_rfl) (fun _ _ _ h => h) (Or.inr ⟨by rfl, rfl⟩) (by assumption) ?_
                  try simp only [Act.put, List.setIfInBounds_toArray, List.set_cons_zero, List.set_cons_succ]
                  refine wpAnyH_take (i := 25) (oi := { dst := some 105, op := Op.load 2 (Operand.tmp 104), type := 2, pos := "laws.go:252", after := #[{ on := 24, ground := Ground.data }, { on := 14, ground := Ground.guard }], guard := some (14, true) }) (v := undef) rfl (by kernel_rfl) (by kernel_rfl) (by kernel_rfl) (fun _ _ _ h => h) (Or.inr ⟨by rfl, rfl⟩) (by assumption) ?_
                  try simp only [Act.put, List.setIfInBounds_toArray, List.set_cons_zero, List.set_cons_succ]
                  refine wpAnyH_take (i := 26) (oi := { dst := some 106, op := Op.binOp BinOp.leq 2 (Operand.tmp 99) (Operand.tmp 105) 2, type := 4, pos := "laws.go:252", after := #[{ on := 19, ground := Ground.data }, { on := 25, ground := Ground.data }, { on := 14, ground := Ground.guard }], guard := some (14, true) }) (v := undef) rfl (by kernel_rfl) (by kernel_rfl) (by kernel_rfl) (fun _ _ _ h => h) (Or.inr ⟨by rfl, rfl⟩) (by assumption) ?_
                  try simp only [Act.put, List.setIfInBounds_toArray, List.set_cons_zero, List.set_cons_succ]
                  refine wpAnyH_take (i := 27) (oi := { dst := some 107, op := Op.pick (Operand.tmp 94) (Operand.tmp 106) (Operand.const (Value.bool false)), type := 4, pos := "laws.go:252", after := #[{ on := 14, ground := Ground.data }, { on := 26, ground := Ground.data }, { on := 11, ground := Ground.guard }], guard := some (11, false) }) (v := ?_) rfl (by kernel_rfl) (by kernel_rfl) (by kernel_rfl) (fun _ _ _ h => h) (Or.inl ⟨by rfl, ?_⟩) (by assumption) ?_
                  rotate_left
                  · (intro wv hSw; (try dsimp only at hSw); go_simp; try with_reducible rfl)
                  try simp only [Act.put, List.setIfInBounds_toArray, List.set_cons_zero, List.set_cons_succ]
                  refine wpAnyH_take (i := 28) (oi := { dst := some 108, op := Op.pick (Operand.tmp 91) (Operand.const (Value.bool true)) (Operand.tmp 107), type := 4, pos := "laws.go:252", after := #[{ on := 11, ground := Ground.data }, { on := 27, ground := Ground.data }], guard := none }) (v := ?_) rfl (by kernel_rfl) (by kernel_rfl) (by kernel_rfl) (fun _ _ _ h => h) (Or.inl ⟨by rfl, ?_⟩) (by assumption) ?_
                  rotate_left
                  · (intro wv hSw; (try dsimp only at hSw); go_simp; try with_reducible rfl)
                  try simp only [Act.put, List.setIfInBounds_toArray, List.set_cons_zero, List.set_cons_succ]
                  refine wpAnyH_done (by kernel_rfl) ?_ _
                  go_wp2_with fail
                  go_meet
                  exact ⟨rfl, bb5⟩
                case rest =>
                  rename World => w7
                  obtain ⟨rfl, hb⟩ := hcut
                  replace HB := hidden (keepB HB.out hb)
                  clear hb S40 e0 r1 D6 Q6 I6 R6 V6
                  go_wp2
                  go_roundw
                  case rel => exact ⟨0 + 1, by omega, by go_num, HB⟩
                  case measure => simp [intOf]; omega
              · obtain ⟨jp, _, hvp, _⟩ := vl_in HT.out.nods (i := j') (by rw [← HKK.out]; omega)
                have hri := vl_rise HT.out.nods (i := j') (by rw [← HKK.out]; exact hlt)
                rw [HVJ.out, hvp] at hri
                have HVP := hidden hvp
                have c2 : wq.cell? ⟨gv, j', none⟩ = some (.int .i64 (jp : Int)) := by have := IV.out.cell j' (by omega); rw [Nat.zero_add] at this; rw [← hvp]; exact this
                have hri1 : ¬ (jj : Int) ≤ jp := by omega
                have hri2 : decide ((jj : Int) ≤ jp) = false := decide_eq_false hri1
                have hi0 : (0 : Int) < (j' : Int) + 1 := by omega
                have hi1 : (j' : Int) < kk := by omega
                have hi3 : (0 : Int) ≤ (j' : Int) + 1 := by omega
                have hi4 : (0 : Int) ≤ ((j' + 1 : Nat) : Int) := by omega
                have hi5 : ((j' + 1 : Nat) : Int) < kk := by omega
                have hi2 : (j' : Int) + 1 < kk := by omega
                have hwi : IntKind.i64.wrap ((j' : Int) + 1 - 1) = (j' : Int) := by rw [IntKind.wrap_i64]; omega
                have hwk : IntKind.i64.wrap (j' : Int) = (j' : Int) := by rw [IntKind.wrap_i64]; omega
                clear hvp hri
                have S40 := hidden (show ∀ wc, Below wq.heap.size wq wc → Calls Try.prog 40 #[.agg #[.slice (some ⟨g0, 0, none⟩) n d0], .slice (some ⟨g, 0, none⟩) m d, .int .i64 (-1 - (jj : Int))] wc fun e w' => e = .returned (.agg #[.int .i64 0, .int .i64 (ct : Int)]) ∧ Below wq.heap.size wq w' ∧ w'.cell? ⟨w1.heap.size, 0, none⟩ = some (.slice (some ⟨g0, 0, none⟩) n d0) ∧ w'.cell? ⟨w2.heap.size, 1, none⟩ = some (.slice (some ⟨gv, 0, none⟩) kk dv) ∧ w'.cell? ⟨gv, j' + 1, none⟩ = some (.int .i64 (jj : Int)) ∧ w'.cell? ⟨gv, j', none⟩ = some (.int .i64 (jp : Int)) from fun wc hc => by
                  refine (implCount_any _ _ _ _ _ _ _ _ N A L (-1 - (jj : Int)) wc (Q6.out.keep hc) (I6.out.keep hc) HK.out (by omega)).mono ?_
                  rw [HCT.out.1, HCT.out.2, ← HCD.out]
                  rintro e w' ⟨rfl, hb'⟩
                  exact ⟨rfl, keepB hc hb', (D6.out.keep (keepB hc hb')).c0, (R6.out.keep (keepB hc hb')).c1, (by have := (IV.out.keep (keepB hc hb')).cell (j' + 1) hlt; rw [Nat.zero_add] at this; rw [← HVJ.out]; exact this), (by have := (IV.out.keep (keepB hc hb')).cell j' (by omega); rw [Nat.zero_add] at this; rw [← HVP.out]; exact this)⟩)
                have e0 := D6.out.c0
                have r1 := R6.out.c1
                go_wp2_with fail
                go_cut [108] (fun t wc => t = .bool false ∧ Below wq.heap.size wq wc)
                case first =>
                  go_region_held3 (fun wz => wz.cell? ⟨w1.heap.size, 0, none⟩ = some (.slice (some ⟨g0, 0, none⟩) n d0) ∧ wz.cell? ⟨w2.heap.size, 1, none⟩ = some (.slice (some ⟨gv, 0, none⟩) kk dv) ∧ wz.cell? ⟨gv, j' + 1, none⟩ = some (.int .i64 (jj : Int)) ∧ wz.cell? ⟨gv, j', none⟩ = some (.int .i64 (jp : Int))) (first | exact ⟨by assumption, by assumption, by assumption, by assumption⟩ | go_keep) (first
                    | (go_at_call 40; with_reducible refine (S40.out _ ?_).mono ?_; exact (Below.refl _ _).drew; rintro e v5 ⟨rfl, bb5, t5, r5, x5, y5⟩))
                  all_goals (go_wp2_with fail; go_meet)
                  all_goals exact ⟨congrArg Value.bool (decide_eq_false (by omega)), bb5⟩
                case rest =>
                  rename World => w7
                  obtain ⟨rfl, hb⟩ := hcut
                  replace HB := hidden (keepB HB.out hb)
                  clear hb S40 e0 r1 D6 Q6 I6 R6 V6
                  go_wp2
                  go_roundw
                  case rel => exact ⟨j' + 1 + 1, by omega, by go_num, HB⟩
                  case measure => simp [intOf]; omega
            · obtain rfl : j = kk := by omega
              have hge : ¬ (j : Int) < j := by omega
              have e0 := D6.out.c0
              have r1 := R6.out.c1
              go_wp2_with fail
              with_reducible refine (implDepth_any _ _ _ _ _ _ _ _ N A L _ Q6.out I6.out HK.out (by omega) hmd).mono ?_
              rw [dp_ok HC.out, HC.out]
              have hd1 : dpt (aOf A L) m 0 ≤ m := dpt_le _ hm0
              have hd0 : 1 ≤ dpt (aOf A L) m 0 := by unfold dpt; omega
              generalize dpt (aOf A L) m 0 = dp at *
              rintro e w8 ⟨rfl, hb⟩
              replace hb := keepB hb (alloc_below _ (.cells #[.int .i64 0, .int .i64 (dp : Int)] 38))
              clear e0 r1
              replace D6 := hidden (D6.out.keep hb)
              replace R6 := hidden (R6.out.keep hb)
              replace Q6 := hidden (Q6.out.keep hb)
              replace I6 := hidden (I6.out.keep hb)
              replace V6 := hidden (V6.out.keep hb)
              have B6 := hidden (keepB (keepB B5.out HB.out) hb)
              have V8 := hidden (Two.new w8 (.int .i64 0) (.int .i64 (dp : Int)) 38)
              clear hb HB D5 R5 Q5 I5 V5 B5 D R Q I V B
              have S39 := hidden (show ∀ wc, Below (w8.alloc (.cells #[.int .i64 0, .int .i64 (dp : Int)] 38)).heap.size (w8.alloc (.cells #[.int .i64 0, .int .i64 (dp : Int)] 38)) wc → Calls Try.prog 39 #[.agg #[.slice (some ⟨g0, 0, none⟩) n d0], .slice (some ⟨g, 0, none⟩) m d] wc fun e w' => ∃ g' d', e = .returned (.agg #[.int .i64 0, .slice (some ⟨g', 0, none⟩) j d']) ∧ Hid (Ints w' g' 0 j (fun i => (vl L m).getD i 0)) ∧ Below (w8.alloc (.cells #[.int .i64 0, .int .i64 (dp : Int)] 38)).heap.size (w8.alloc (.cells #[.int .i64 0, .int .i64 (dp : Int)] 38)) w' ∧ w'.cell? ⟨w1.heap.size, 0, none⟩ = some (.slice (some ⟨g0, 0, none⟩) n d0) ∧ w'.cell? ⟨w2.heap.size, 1, none⟩ = some (.slice qv j dv) ∧ w'.cell? ⟨w8.heap.size, 0, none⟩ = some (.int .i64 0) ∧ w'.cell? ⟨w8.heap.size, 1, none⟩ = some (.int .i64 (dp : Int)) from fun wc hc => by
                refine (specVars_any _ _ _ _ _ _ _ _ N A L wc (Q6.out.keep hc) (I6.out.keep hc) HK.out (by omega)).mono ?_
                rintro e w' ⟨⟨h0, _⟩ | ⟨_, g', d', rfl, _, ho⟩, hb'⟩
                · exact absurd HC.out h0
                · have ho := ho.ints
                  rw [← HKK.out] at ho ⊢
                  exact ⟨g', d', rfl, hidden ho, keepB hc hb', (D6.out.keep (keepB hc hb')).c0, (R6.out.keep (keepB hc hb')).c1, (V8.out.keep (keepB hc hb')).c0, (V8.out.keep (keepB hc hb')).c1⟩)
              have S32 := hidden (show ∀ wc g' d', Ints wc g' 0 j (fun i => (vl L m).getD i 0) → Below (w8.alloc (.cells #[.int .i64 0, .int .i64 (dp : Int)] 38)).heap.size (w8.alloc (.cells #[.int .i64 0, .int .i64 (dp : Int)] 38)) wc → Calls Try.prog 32 #[.slice qv j dv, .slice (some ⟨g', 0, none⟩) j d'] wc fun e w' => e = .returned (.bool true) ∧ Below (w8.alloc (.cells #[.int .i64 0, .int .i64 (dp : Int)] 38)).heap.size (w8.alloc (.cells #[.int .i64 0, .int .i64 (dp : Int)] 38)) w' ∧ w'.cell? ⟨w1.heap.size, 0, none⟩ = some (.slice (some ⟨g0, 0, none⟩) n d0) ∧ w'.cell? ⟨w2.heap.size, 1, none⟩ = some (.slice qv j dv) ∧ w'.cell? ⟨w8.heap.size, 0, none⟩ = some (.int .i64 0) ∧ w'.cell? ⟨w8.heap.size, 1, none⟩ = some (.int .i64 (dp : Int)) from fun wc g' d' hi hc => by
                refine (lwNums_any qv (some ⟨g', 0, none⟩) j dv d' _ wc (V6.out.keep hc) (Or.inr ⟨g', rfl, hi⟩) (by omega)).mono ?_
                rintro e w' ⟨rfl, hb'⟩
                exact ⟨rfl, keepB hc hb', (D6.out.keep (keepB hc hb')).c0, (R6.out.keep (keepB hc hb')).c1, (V8.out.keep (keepB hc hb')).c0, (V8.out.keep (keepB hc hb')).c1⟩)
              have S33 := hidden (show ∀ wc, Below (w8.alloc (.cells #[.int .i64 0, .int .i64 (dp : Int)] 38)).heap.size (w8.alloc (.cells #[.int .i64 0, .int .i64 (dp : Int)] 38)) wc → Calls Try.prog 33 #[.agg #[.slice (some ⟨g0, 0, none⟩) n d0], .slice (some ⟨g, 0, none⟩) m d, .int .i64 0] wc fun e w' => e = .returned (.agg #[.int .i64 0, .int .i64 (m : Int)]) ∧ Below (w8.alloc (.cells #[.int .i64 0, .int .i64 (dp : Int)] 38)).heap.size (w8.alloc (.cells #[.int .i64 0, .int .i64 (dp : Int)] 38)) w' ∧ w'.cell? ⟨w1.heap.size, 0, none⟩ = some (.slice (some ⟨g0, 0, none⟩) n d0) ∧ w'.cell? ⟨w2.heap.size, 1, none⟩ = some (.slice qv j dv) ∧ w'.cell? ⟨w8.heap.size, 0, none⟩ = some (.int .i64 0) ∧ w'.cell? ⟨w8.heap.size, 1, none⟩ = some (.int .i64 (dp : Int)) from fun wc hc => by
                have hz := sz_ok (x := 0) HC.out (show inB 0 m = true by simp [inB]; omega)
                rw [show (0 : Int).toNat = 0 from rfl, manyN_some HT.out.whole, Nat.sub_zero] at hz
                refine (implSize_any _ _ _ _ _ _ _ _ N A L 0 wc (Q6.out.keep hc) (I6.out.keep hc) HK.out (by omega) hmd).mono ?_
                rw [hz.1, hz.2]
                rintro e w' ⟨rfl, hb'⟩
                exact ⟨rfl, keepB hc hb', (D6.out.keep (keepB hc hb')).c0, (R6.out.keep (keepB hc hb')).c1, (V8.out.keep (keepB hc hb')).c0, (V8.out.keep (keepB hc hb')).c1⟩)
              have e0 := D6.out.c0
              have r1 := R6.out.c1
              have a0 := V8.out.c0
              have a1 := V8.out.c1
              have hmm : ((m : Int) == m) = true := by simp
              have hd2 : (1 : Int) ≤ dp := by omega
              have hd3 : (dp : Int) ≤ m := by omega
              have hd4 : decide ((1 : Int) ≤ dp) = true := decide_eq_true hd2
              have hd5 : decide ((dp : Int) ≤ m) = true := decide_eq_true hd3
              go_wp2_with fail
              go_region_held3 (fun wz => wz.cell? ⟨w1.heap.size, 0, none⟩ = some (.slice (some ⟨g0, 0, none⟩) n d0) ∧ wz.cell? ⟨w2.heap.size, 1, none⟩ = some (.slice qv j dv) ∧ wz.cell? ⟨w8.heap.size, 0, none⟩ = some (.int .i64 0) ∧ wz.cell? ⟨w8.heap.size, 1, none⟩ = some (.int .i64 (dp : Int))) (first | exact ⟨by assumption, by assumption, by assumption, by assumption⟩ | go_keep) (first
                | (go_at_call 39; with_reducible refine (S39.out _ ?_).mono ?_; exact (Below.refl _ _).drew; rintro e v5 ⟨g5, d5, rfl, HI5, bb5, t5, r5, x5, y5⟩)
                | (go_at_call 32; with_reducible refine (S32.out _ g5 d5 HI5.out bb5).mono ?_; rintro e v6 ⟨rfl, bb6, t6, r6, x6, y6⟩)
                | (go_at_call 33; with_reducible refine (S33.out _ bb6).mono ?_; rintro e v7 ⟨rfl, bb7, t7, r7, x7, y7⟩))
              all_goals go_wp2
              all_goals go_ret
              all_goals exact ⟨by simp, keepB B6.out bb7⟩

end Go.Proofs.Ythgoclbgepfjmaa

/- The law at every list of bytes. -/
namespace Go.Proofs.Ythgoclbgepfjmaa
open Go.RowKit

set_option maxRecDepth 20000 in
set_option maxHeartbeats 800000 in
theorem law_nodes_big (p : Option Addr) (nn c : Nat) (w : World) (hn : ¬ nn ≤ 1048576) :
    Calls Try.prog 6 #[.slice p nn c] w fun e w' => e = .returned (.bool true) ∧ Below w.heap.size w w' := by
  go_enter Try.func6, Try.ntmps6
  go_wp2_with fail
  with_reducible refine (lwBig_big p nn c w hn).mono ?_
  rintro e w0 ⟨rfl, rfl⟩
  go_wp2
  go_ret
  exact ⟨rfl, Below.refl _ _⟩

theorem law_nodes_all (p : Option Addr) (nn c : Nat) (z : List Int) (w : World) (h : Byt.IsRow .u8 w p nn c z) :
    Calls Try.prog 6 #[.slice p nn c] w fun e w' => e = .returned (.bool true) ∧ Below w.heap.size w w' := by
  by_cases hn : nn ≤ 1048576
  · exact law_nodes p nn c _ w (h.src (by omega)) hn
  · exact law_nodes_big p nn c w hn

end Go.Proofs.Ythgoclbgepfjmaa
