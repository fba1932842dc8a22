/- The program's worlds: an algebra as an interface value; numberAt. -/
import Derived.Test.YtdcngfdklpdpkaaAlS
namespace Go.Proofs.Ytdcngfdklpdpkaa
open Go.RowKit

theorem ta_22 (v : Value) (w : World) : (Instr.typeAssert (.iface 135 v) 96 135 true).run Try.prog w = .ok (.tuple #[v, .bool true]) w := by kernel_rfl
theorem ta_12 (v : Value) (w : World) : (Instr.typeAssert (.iface 139 v) 96 135 true).run Try.prog w = .ok (.tuple #[.agg #[.int .u8 0, .int .u8 0, .int .u8 0, .int .u8 0, .int .u8 0, .int .u8 0], .bool false]) w := by kernel_rfl
theorem ta_32 (v : Value) (w : World) : (Instr.typeAssert (.iface 137 v) 96 135 true).run Try.prog w = .ok (.tuple #[.agg #[.int .u8 0, .int .u8 0, .int .u8 0, .int .u8 0, .int .u8 0, .int .u8 0], .bool false]) w := by kernel_rfl
theorem ta_13 (v : Value) (w : World) : (Instr.typeAssert (.iface 139 v) 96 137 true).run Try.prog w = .ok (.tuple #[.slice none 0 0, .bool false]) w := by kernel_rfl
theorem ta_33 (v : Value) (w : World) : (Instr.typeAssert (.iface 137 v) 96 137 true).run Try.prog w = .ok (.tuple #[v, .bool true]) w := by kernel_rfl

/-- A table's numbers as bits. -/
def btT (L : Nat → Int) : Nat → Int
  | 0 => 0
  | k + 1 => btT L k + L k * 2 ^ k

theorem btT_bd {L : Nat → Int} {k : Nat} (hk : k ≤ 4) (hL : ∀ q, q < k → 0 ≤ L q ∧ L q < 2) : 0 ≤ btT L k ∧ btT L k < 2 ^ k := by
  have h0 := hL 0; have h1 := hL 1; have h2 := hL 2; have h3 := hL 3
  obtain rfl | rfl | rfl | rfl | rfl : k = 0 ∨ k = 1 ∨ k = 2 ∨ k = 3 ∨ k = 4 := by omega
  all_goals (simp only [btT]; omega)

theorem btT_bit {L : Nat → Int} {k q : Nat} (hk : k ≤ 4) (hL : ∀ q, q < k → 0 ≤ L q ∧ L q < 2) (hq : q < k) : btT L k / 2 ^ q % 2 = L q := by
  have h0 := hL 0; have h1 := hL 1; have h2 := hL 2; have h3 := hL 3
  obtain rfl | rfl | rfl | rfl : k = 1 ∨ k = 2 ∨ k = 3 ∨ k = 4 := by omega
  all_goals
    obtain rfl | rfl | rfl | rfl : q = 0 ∨ q = 1 ∨ q = 2 ∨ q = 3 := by omega
    all_goals (first | (exfalso; omega) | (simp only [btT]; omega))

theorem and_bit {x : Int} (h : 0 ≤ x ∧ x < 16) : wrap64 (bits BinOp.and IntKind.u8 x 1) = x % 2 := by
  obtain rfl | rfl | rfl | rfl | rfl | rfl | rfl | rfl | rfl | rfl | rfl | rfl | rfl | rfl | rfl | rfl : x = 0 ∨ x = 1 ∨ x = 2 ∨ x = 3 ∨ x = 4 ∨ x = 5 ∨ x = 6 ∨ x = 7 ∨ x = 8 ∨ x = 9 ∨ x = 10 ∨ x = 11 ∨ x = 12 ∨ x = 13 ∨ x = 14 ∨ x = 15 := by omega
  all_goals kernel_rfl

/-- The bits of an algebra's tables. -/
def bxT (n : Nat) (D : LsL) (i : Nat) : Int := if i < n then btT (D.L i) (D.m i) else 0

def arr6 (f : Nat → Int) : Value := .agg #[.int .u8 (f 0), .int .u8 (f 1), .int .u8 (f 2), .int .u8 (f 3), .int .u8 (f 4), .int .u8 (f 5)]

/-- An algebra, as the program has it inside. -/
def WorldV (w : World) (n : Nat) (z : Int) (D : LsL) (v : Value) : Prop :=
  (z = 1 ∧ v = .iface 139 (.agg #[])) ∨
  (z = 2 ∧ v = .iface 135 (arr6 (bxT n D))) ∨
  (z = 3 ∧ ∃ b o c, v = .iface 137 (.slice (some ⟨b, o, none⟩) n c) ∧ Mats w b o n D)

theorem WorldV.keep {w w' : World} {n : Nat} {z : Int} {D : LsL} {v : Value} (h : WorldV w n z D v) (hb : Below w.heap.size w w') : WorldV w' n z D v :=
  h.imp id (Or.imp id fun ⟨h1, b, o, c, e, hm⟩ => ⟨h1, b, o, c, e, hm.keep hb⟩)

set_option maxRecDepth 20000 in
set_option maxHeartbeats 3200000 in
theorem numAt2 (f : Nat → Int) (j p : Nat) (w : World) (hj : j < 6) (hp : p < 4) (hf : 0 ≤ f j ∧ f j < 16) :
    Calls Try.prog 96 #[.iface 135 (arr6 f), .int .i64 (j : Int), .int .i64 (p : Int)] w fun e w' => e = .returned (.int .i64 (f j / 2 ^ p % 2)) ∧ Below w.heap.size w w' := by
  have hf2 : 0 ≤ f j / 2 ^ p ∧ f j / 2 ^ p < 16 := by
    obtain rfl | rfl | rfl | rfl : p = 0 ∨ p = 1 ∨ p = 2 ∨ p = 3 := by omega
    all_goals omega
  have HB := hidden (and_bit hf2)
  have ht := ta_22 (arr6 f)
  unfold arr6 at ht ⊢
  obtain rfl | rfl | rfl | rfl | rfl | rfl : j = 0 ∨ j = 1 ∨ j = 2 ∨ j = 3 ∨ j = 4 ∨ j = 5 := by omega
  all_goals
    obtain rfl | rfl | rfl | rfl : p = 0 ∨ p = 1 ∨ p = 2 ∨ p = 3 := by omega
    all_goals
      clear hf2 hj hp
      go_enter Try.func96, Try.ntmps96
      go_wp2
      go_ret
      refine ⟨?_, alloc_below _ _⟩
      rw [← HB.out]
      first | rfl | simp

set_option maxRecDepth 20000 in
set_option maxHeartbeats 1600000 in
theorem numAt1 (x y : Int) (w : World) :
    Calls Try.prog 96 #[.iface 139 (.agg #[]), .int .i64 x, .int .i64 y] w fun e w' => e = .returned (.int .i64 0) ∧ Below w.heap.size w w' := by
  have h1 := ta_12 (.agg #[])
  have h2 := ta_13 (.agg #[])
  go_enter Try.func96, Try.ntmps96
  go_wp2
  go_ret
  exact ⟨rfl, Below.refl _ _⟩

set_option maxRecDepth 20000 in
set_option maxHeartbeats 1600000 in
theorem numAt3 (b o n c j p : Nat) (D : LsL) (w : World) (h : Mats w b o n D) (hj : j < n) (hp : p < D.m j) (hk : KeptM n D) :
    Calls Try.prog 96 #[.iface 137 (.slice (some ⟨b, o, none⟩) n c), .int .i64 (j : Int), .int .i64 (p : Int)] w fun e w' => e = .returned (.int .i64 (D.L j p)) ∧ Below w.heap.size w w' := by
  have h1 := ta_32 (.slice (some ⟨b, o, none⟩) n c)
  have h2 := ta_33 (.slice (some ⟨b, o, none⟩) n c)
  obtain ⟨g, og, cg, t1, t2, t3⟩ := h.cells hj
  have t4 := t2.cell p hp
  have hn := hk.most
  have hDm := hk.m j hj
  obtain ⟨x, hx⟩ : ∃ x, x = D.L j p := ⟨_, rfl⟩
  have HX := hidden hx
  rw [← hx] at t4 ⊢
  clear hx t2 h
  go_enter Try.func96, Try.ntmps96
  go_wp2
  go_ret
  exact ⟨rfl, Below.refl _ _⟩

/-- A number of a table, as the program looks it up. -/
theorem numAt_any {n : Nat} {A : Nat → Int} {z : Int} {D : LsL} {v : Value} (ho : AlgOk n A z D) (hk : KeptM n D) (j p : Nat) (w : World) (h : WorldV w n z D v) (hj : j < n) (hp : p < D.m j) :
    Calls Try.prog 96 #[v, .int .i64 (j : Int), .int .i64 (p : Int)] w fun e w' => e = .returned (.int .i64 (D.L j p)) ∧ Below w.heap.size w w' := by
  have hn6 := ho.sig.most
  have ht := ho.tab j hj
  have ha := ho.sig.arity j hj
  have hLp := ht.2 p hp
  rcases h with ⟨h1, rfl⟩ | ⟨h2, rfl⟩ | ⟨h3, b, o, c, rfl, hm⟩
  · have e : D.L j p = 0 := by omega
    rw [e]; exact numAt1 _ _ w
  · subst h2
    have hm4 : D.m j ≤ 4 := by
      have h1 := ht.1
      obtain e | e | e : A j = 0 ∨ A j = 1 ∨ A j = 2 := by omega
      all_goals (rw [e] at h1; simp at h1; omega)
    have hb := btT_bd hm4 ht.2
    have hb4 : btT (D.L j) (D.m j) < 16 := by
      have h1 := hb.2
      obtain e | e | e | e | e : D.m j = 0 ∨ D.m j = 1 ∨ D.m j = 2 ∨ D.m j = 3 ∨ D.m j = 4 := by omega
      all_goals (rw [e] at h1 ⊢; omega)
    have e : bxT n D j = btT (D.L j) (D.m j) := by unfold bxT; rw [if_pos hj]
    have := numAt2 (bxT n D) j p w (by omega) (by omega) (by rw [e]; exact ⟨hb.1, hb4⟩)
    rw [e, btT_bit hm4 ht.2 hp] at this
    exact this
  · exact numAt3 b o n c j p D w hm hj hp hk

set_option maxRecDepth 20000 in
set_option maxHeartbeats 400000 in
theorem size1_any (w : World) : Calls Try.prog 132 #[.agg #[]] w fun e w' => e = .returned (.int .i64 1) ∧ Below w.heap.size w w' := by
  go_enter Try.func132, Try.ntmps132
  go_wp2
  go_ret
  exact ⟨rfl, alloc_below _ _⟩
set_option maxRecDepth 20000 in
set_option maxHeartbeats 400000 in
theorem size2_any (f : Nat → Int) (w : World) : Calls Try.prog 130 #[arr6 f] w fun e w' => e = .returned (.int .i64 2) ∧ Below w.heap.size w w' := by
  unfold arr6
  go_enter Try.func130, Try.ntmps130
  go_wp2
  go_ret
  exact ⟨rfl, alloc_below _ _⟩
set_option maxRecDepth 20000 in
set_option maxHeartbeats 400000 in
theorem size3_any (v : Value) (w : World) : Calls Try.prog 131 #[v] w fun e w' => e = .returned (.int .i64 3) ∧ Below w.heap.size w w' := by
  go_enter Try.func131, Try.ntmps131
  go_wp2
  go_ret
  exact ⟨rfl, Below.refl _ _⟩

end Go.Proofs.Ytdcngfdklpdpkaa
