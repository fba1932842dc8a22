/- Contracts: equations: how great they are, their copies and their comparison. -/
import Derived.Test.YtbdgnpjbmlcchaaTermF
import Derived.Test.YtbdgnpjbmlcchaaIntsRes
namespace Go.Proofs.Ytbdgnpjbmlcchaa
open Go.RowKit

set_option maxRecDepth 20000 in
set_option maxHeartbeats 400000 in
theorem szInt64S_any (p : Option Addr) (n c : Nat) (left : Int) (w : World) (hn : n ≤ maxLen) (h0 : 0 ≤ left) (h1 : left ≤ 1048576) :
    Calls Try.prog 28 #[.slice p n c, .int .i64 left] w fun e w' => (∃ r, e = .returned (.int .i64 r) ∧ (r = -1 ∨ (0 ≤ r ∧ r ≤ left ∧ n ≤ 1048576))) ∧ Below w.heap.size w w' := by
  unfold maxLen at hn
  go_enter Try.func28, Try.ntmps28
  by_cases h : left < n
  · go_wp2
    go_ret
    exact ⟨⟨_, rfl, Or.inl rfl⟩, Below.refl _ _⟩
  · go_wp2
    go_ret
    exact ⟨⟨_, rfl, Or.inr ⟨by omega, by omega, by omega⟩⟩, Below.refl _ _⟩

set_option maxRecDepth 20000 in
set_option maxHeartbeats 400000 in
theorem szEquation_any (p1 : Option Addr) (m1 c1 : Nat) (p2 : Option Addr) (m2 c2 : Nat) (left : Int) (w : World) (hn1 : m1 ≤ maxLen) (hn2 : m2 ≤ maxLen) (h0 : 0 ≤ left) (h1 : left ≤ 1048576) :
    Calls Try.prog 16 #[.agg #[.slice p1 m1 c1, .slice p2 m2 c2], .int .i64 left] w fun e w' => (∃ r, e = .returned (.int .i64 r) ∧ (r = -1 ∨ (0 ≤ r ∧ r ≤ left ∧ m1 ≤ 1048576 ∧ m2 ≤ 1048576))) ∧ Below w.heap.size w w' := by
  have D := hidden (Two.new w (.slice p1 m1 c1) (.slice p2 m2 c2) 47)
  have B := hidden (alloc_below w (.cells #[.slice p1 m1 c1, .slice p2 m2 c2] 47))
  go_enter Try.func16, Try.ntmps16
  go_wp2_with fail
  with_reducible refine (szInt64S_any _ _ _ _ _ hn1 h0 h1).mono ?_
  rintro e w1 ⟨⟨r1, rfl, hr⟩, hb⟩
  replace D := hidden (D.out.keep hb)
  replace B := hidden (keepB B.out hb)
  clear hb
  rcases hr with rfl | ⟨q0, q1, q2⟩
  · go_wp2
    go_ret
    exact ⟨⟨_, rfl, Or.inl rfl⟩, B.out⟩
  · have d1 := D.out.c1
    go_wp2_with fail
    with_reducible refine (szInt64S_any _ _ _ _ _ hn2 q0 (by omega)).mono ?_
    rintro e w2 ⟨⟨r2, rfl, hr⟩, hb⟩
    replace B := hidden (keepB B.out hb)
    clear hb d1
    rcases hr with rfl | ⟨s0, s1, s2⟩
    · go_wp2
      go_ret
      exact ⟨⟨_, rfl, Or.inl rfl⟩, B.out⟩
    · go_wp2
      go_ret
      exact ⟨⟨_, rfl, Or.inr ⟨by omega, by omega, q2, s2⟩⟩, B.out⟩

/-- A block of two cells that may be written. -/
structure Own2 (w : World) (b : Nat) (x y : Value) : Prop where
  two : Two w b x y
  f0 : w.frozen? ⟨b, 0, none⟩ = false
  f1 : w.frozen? ⟨b, 1, none⟩ = false

theorem Own2.new (w : World) (x y : Value) (t : TypeId) : Own2 (w.alloc (.cells #[x, y] t)) w.heap.size x y := by
  refine ⟨Two.new w x y t, ?_, ?_⟩ <;> simp [go_sem]

theorem Own2.keep {w w' : World} {b : Nat} {x y : Value} (h : Own2 w b x y) (hb : Below w.heap.size w w') : Own2 w' b x y :=
  ⟨h.two.keep hb, by rw [(bcell hb).2 _ _ h.two.blk]; exact h.f0, by rw [(bcell hb).2 _ _ h.two.blk]; exact h.f1⟩

theorem Own2.set0 {w : World} {b : Nat} {x y : Value} (h : Own2 w b x y) (v : Value) : Own2 (w.setCell ⟨b, 0, none⟩ v) b v y :=
  ⟨⟨by simpa using h.two.blk, World.cell?_setCell_same _ _ _ h.two.c0, by rw [World.cell?_setCell_other _ _ _ _ (by simp)]; exact h.two.c1⟩, by simpa [go_sem] using h.f0, by simpa [go_sem] using h.f1⟩

theorem Own2.set1 {w : World} {b : Nat} {x y : Value} (h : Own2 w b x y) (v : Value) : Own2 (w.setCell ⟨b, 1, none⟩ v) b x v :=
  ⟨⟨by simpa using h.two.blk, by rw [World.cell?_setCell_other _ _ _ _ (by simp)]; exact h.two.c0, World.cell?_setCell_same _ _ _ h.two.c1⟩, by simpa [go_sem] using h.f0, by simpa [go_sem] using h.f1⟩

theorem Own2.other {w : World} {b : Nat} {x y : Value} (h : Own2 w b x y) (a : Addr) (v : Value) (hne : b ≠ a.block) : Own2 (w.setCell a v) b x y :=
  ⟨⟨by simpa using h.two.blk, by rw [World.cell?_setCell_other _ _ _ _ (by intro e; exact hne (by rw [e]))]; exact h.two.c0, by rw [World.cell?_setCell_other _ _ _ _ (by intro e; exact hne (by rw [e]))]; exact h.two.c1⟩, by simpa [go_sem] using h.f0, by simpa [go_sem] using h.f1⟩

theorem Two.other {w : World} {b : Nat} {x y : Value} (h : Two w b x y) (a : Addr) (v : Value) (hne : b ≠ a.block) : Two (w.setCell a v) b x y :=
  ⟨by simpa using h.blk, by rw [World.cell?_setCell_other _ _ _ _ (by intro e; exact hne (by rw [e]))]; exact h.c0, by rw [World.cell?_setCell_other _ _ _ _ (by intro e; exact hne (by rw [e]))]; exact h.c1⟩

set_option maxRecDepth 20000 in
set_option maxHeartbeats 800000 in
theorem toEquation_src (p1 : Option Addr) (m1 c1 : Nat) (L1 : Nat → Int) (p2 : Option Addr) (m2 c2 : Nat) (L2 : Nat → Int) (w : World) (h1 : SrcI w p1 m1 L1) (h2 : SrcI w p2 m2 L2) (hm1 : m1 ≤ 1048576) (hm2 : m2 ≤ 1048576) :
    Calls Try.prog 21 #[.agg #[.slice p1 m1 c1, .slice p2 m2 c2]] w fun e w' => ∃ g1 g2, e = .returned (.agg #[.slice (some ⟨g1, 0, none⟩) m1 m1, .slice (some ⟨g2, 0, none⟩) m2 m2]) ∧ w.heap.size ≤ g1 ∧ g1 < g2 ∧ OwnI w' w.heap.size g1 m1 m1 L1 m1 ∧ OwnI w' w.heap.size g2 m2 m2 L2 m2 ∧ Below w.heap.size w w' := by
  go_enter Try.func21, Try.ntmps21
  go_wp2_with fail
  have b0 : Below w.heap.size w (((w.alloc (Obj.cells #[Value.slice p1 m1 c1, Value.slice p2 m2 c2] 47)).alloc (Obj.cells #[Value.slice none 0 0, Value.slice none 0 0] 56)).alloc (Obj.cells #[Value.slice none 0 0, Value.slice none 0 0] 56)) := (((Below.refl _ _).alloc (Nat.le_refl _) _).alloc (by simp) _).alloc (by simp; omega) _
  have t1 : Two (((w.alloc (Obj.cells #[Value.slice p1 m1 c1, Value.slice p2 m2 c2] 47)).alloc (Obj.cells #[Value.slice none 0 0, Value.slice none 0 0] 56)).alloc (Obj.cells #[Value.slice none 0 0, Value.slice none 0 0] 56)) w.heap.size (Value.slice p1 m1 c1) (Value.slice p2 m2 c2) := ((Two.new _ _ _ _).keep (alloc_below _ _)).keep (alloc_below _ _)
  have t2 : Own2 (((w.alloc (Obj.cells #[Value.slice p1 m1 c1, Value.slice p2 m2 c2] 47)).alloc (Obj.cells #[Value.slice none 0 0, Value.slice none 0 0] 56)).alloc (Obj.cells #[Value.slice none 0 0, Value.slice none 0 0] 56)) (w.heap.size + 1) (Value.slice none 0 0) (Value.slice none 0 0) := by
    have := (Own2.new (w.alloc (Obj.cells #[Value.slice p1 m1 c1, Value.slice p2 m2 c2] 47)) (Value.slice none 0 0) (Value.slice none 0 0) 56).keep (alloc_below _ (Obj.cells #[Value.slice none 0 0, Value.slice none 0 0] 56))
    simpa using this
  have t3 : Own2 (((w.alloc (Obj.cells #[Value.slice p1 m1 c1, Value.slice p2 m2 c2] 47)).alloc (Obj.cells #[Value.slice none 0 0, Value.slice none 0 0] 56)).alloc (Obj.cells #[Value.slice none 0 0, Value.slice none 0 0] 56)) (w.heap.size + 1 + 1) (Value.slice none 0 0) (Value.slice none 0 0) := by
    have := Own2.new ((w.alloc (Obj.cells #[Value.slice p1 m1 c1, Value.slice p2 m2 c2] 47)).alloc (Obj.cells #[Value.slice none 0 0, Value.slice none 0 0] 56)) (Value.slice none 0 0) (Value.slice none 0 0) 56
    simpa using this
  generalize hW : (((w.alloc (Obj.cells #[Value.slice p1 m1 c1, Value.slice p2 m2 c2] 47)).alloc (Obj.cells #[Value.slice none 0 0, Value.slice none 0 0] 56)).alloc (Obj.cells #[Value.slice none 0 0, Value.slice none 0 0] 56)) = w0 at *
  clear hW
  have H2 := hidden h2
  have B := hidden b0
  have X1 := hidden t1
  have X2 := hidden t2
  have X3 := hidden t3
  have Y3 := hidden t3.two.blk
  with_reducible refine (toInts_src _ _ _ L1 _ (h1.keep b0) hm1).mono ?_
  clear h1 h2 b0 t1 t2 t3
  rintro e w1 ⟨g1, rfl, hg1, ho1, hb⟩
  replace B := hidden (keepB B.out hb)
  replace X1 := hidden (X1.out.keep hb)
  replace X2 := hidden (X2.out.keep hb)
  replace X3 := hidden (X3.out.keep hb)
  clear hb
  have HG1 := hidden hg1
  have B' := hidden (B.out.setCell (p := ⟨w.heap.size + 1 + 1, 0, none⟩) (by simp; omega) (.slice (some ⟨g1, 0, none⟩) m1 m1))
  have Z1 := hidden (X1.out.other ⟨w.heap.size + 1 + 1, 0, none⟩ (.slice (some ⟨g1, 0, none⟩) m1 m1) (by show w.heap.size ≠ w.heap.size + 1 + 1; omega))
  have Z2 := hidden (X2.out.other ⟨w.heap.size + 1 + 1, 0, none⟩ (.slice (some ⟨g1, 0, none⟩) m1 m1) (by simp))
  have Z3 := hidden (X3.out.set0 (.slice (some ⟨g1, 0, none⟩) m1 m1))
  have O1 := hidden (ho1.other ⟨w.heap.size + 1 + 1, 0, none⟩ (.slice (some ⟨g1, 0, none⟩) m1 m1) (by have := Y3.out; simp; omega))
  have e1 := X3.out.two.c0
  have e2 := X3.out.f0
  have e3 := Z1.out.c1
  clear hg1 ho1
  go_wp2_with fail
  with_reducible refine (toInts_src _ _ _ L2 _ (H2.out.keep B'.out) hm2).mono ?_
  clear e1 e2 e3 X1 X2 X3
  rintro e w2 ⟨g2, rfl, hg2, ho2, hb⟩
  have B2 := hidden (keepB B'.out hb)
  replace Z2 := hidden (Z2.out.keep hb)
  replace Z3 := hidden (Z3.out.keep hb)
  have LT := hidden (Nat.lt_of_lt_of_le O1.out.lt hg2)
  replace O1 := hidden (O1.out.keep hb)
  have HO2 := hidden ho2
  clear hb B' ho2 hg2
  have e1 := Z3.out.two.c1
  have e2 := Z3.out.f1
  have V3 := hidden (Z3.out.set1 (.slice (some ⟨g2, 0, none⟩) m2 m2))
  have V2 := hidden (Z2.out.other ⟨w.heap.size + 1 + 1, 1, none⟩ (.slice (some ⟨g2, 0, none⟩) m2 m2) (by simp))
  have e3 := V3.out.two.c0
  have e4 := V3.out.two.c1
  have e5 := V2.out.two.c0
  have e6 := V2.out.f0
  have e7 := (V2.out.set0 (.slice (some ⟨g1, 0, none⟩) m1 m1)).two.c1
  have e8 := (V2.out.set0 (.slice (some ⟨g1, 0, none⟩) m1 m1)).f1
  go_wp2
  have z0 := ((V2.out.set0 (.slice (some ⟨g1, 0, none⟩) m1 m1)).set1 (.slice (some ⟨g2, 0, none⟩) m2 m2)).two.c0
  have z1 := ((V2.out.set0 (.slice (some ⟨g1, 0, none⟩) m1 m1)).set1 (.slice (some ⟨g2, 0, none⟩) m2 m2)).two.c1
  have n1 : w.heap.size + 1 + 1 < g1 := Nat.lt_of_lt_of_le Y3.out HG1.out
  have n2 : g1 < g2 := LT.out
  refine bodyPost_ret (v := .agg #[.slice (some ⟨g1, 0, none⟩) m1 m1, .slice (some ⟨g2, 0, none⟩) m2 m2]) (by simp [results, Try.results21, go_sem, z0, z1]) rfl ⟨g1, g2, rfl, by omega, n2, ?_, ?_, ?_⟩
  · exact (((O1.out.other _ _ (by show g1 ≠ w.heap.size + 1 + 1; omega)).other _ _ (by show g1 ≠ w.heap.size + 1; omega)).other _ _ (by show g1 ≠ w.heap.size + 1; omega)).base (by omega)
  · exact (((HO2.out.other _ _ (by show g2 ≠ w.heap.size + 1 + 1; omega)).other _ _ (by show g2 ≠ w.heap.size + 1; omega)).other _ _ (by show g2 ≠ w.heap.size + 1; omega)).base (by omega)
  · exact ((B2.out.setCell (by show w.heap.size ≤ w.heap.size + 1 + 1; omega) _).setCell (by show w.heap.size ≤ w.heap.size + 1; omega) _).setCell (by show w.heap.size ≤ w.heap.size + 1; omega) _

set_option maxRecDepth 20000 in
set_option maxHeartbeats 400000 in
theorem eqEquation_eq (b1 o1 b2 o2 m1 c1 m2 c2 b3 o3 b4 o4 c3 c4 : Nat) (L1 L2 : Nat → Int) (w : World) (h1 : Ints w b1 o1 m1 L1) (h2 : Ints w b2 o2 m2 L2) (h3 : Ints w b3 o3 m1 L1) (h4 : Ints w b4 o4 m2 L2) (hm1 : m1 ≤ 1048576) (hm2 : m2 ≤ 1048576) :
    Calls Try.prog 26 #[.agg #[.slice (some ⟨b1, o1, none⟩) m1 c1, .slice (some ⟨b2, o2, none⟩) m2 c2], .agg #[.slice (some ⟨b3, o3, none⟩) m1 c3, .slice (some ⟨b4, o4, none⟩) m2 c4]] w fun e w' => e = .returned (.bool true) ∧ Below w.heap.size w w' := by
  have A1 := hidden (alloc_below w (.cells #[.slice (some ⟨b1, o1, none⟩) m1 c1, .slice (some ⟨b2, o2, none⟩) m2 c2] 56))
  have X1 := hidden (Two.new w (.slice (some ⟨b1, o1, none⟩) m1 c1) (.slice (some ⟨b2, o2, none⟩) m2 c2) 56)
  have A2 := hidden (alloc_below (w.alloc (.cells #[.slice (some ⟨b1, o1, none⟩) m1 c1, .slice (some ⟨b2, o2, none⟩) m2 c2] 56)) (.cells #[.slice (some ⟨b3, o3, none⟩) m1 c3, .slice (some ⟨b4, o4, none⟩) m2 c4] 56))
  have X2 := hidden (Two.new (w.alloc (.cells #[.slice (some ⟨b1, o1, none⟩) m1 c1, .slice (some ⟨b2, o2, none⟩) m2 c2] 56)) (.slice (some ⟨b3, o3, none⟩) m1 c3) (.slice (some ⟨b4, o4, none⟩) m2 c4) 56)
  replace X1 := hidden (X1.out.keep A2.out)
  have B := hidden (keepB A1.out A2.out)
  have H1 := hidden (h1.keep B.out)
  have H2 := hidden (h2.keep B.out)
  have H3 := hidden (h3.keep B.out)
  have H4 := hidden (h4.keep B.out)
  clear h1 h2 h3 h4
  go_enter Try.func26, Try.ntmps26
  go_wp2_with fail
  with_reducible refine (eqInt64S_eq _ _ _ _ _ _ _ L1 _ H1.out H3.out hm1).mono ?_
  rintro e w1 ⟨rfl, hb⟩
  replace B := hidden (keepB B.out hb)
  replace H2 := hidden (H2.out.keep hb)
  replace H4 := hidden (H4.out.keep hb)
  replace X1 := hidden (X1.out.keep hb)
  replace X2 := hidden (X2.out.keep hb)
  clear hb H1 H3
  have x1 := X1.out.c1
  have x2 := X2.out.c1
  simp only [World.size_alloc] at x1 x2
  go_wp2_with fail
  with_reducible refine (eqInt64S_eq _ _ _ _ _ _ _ L2 _ H2.out H4.out hm2).mono ?_
  rintro e w2 ⟨rfl, hb⟩
  replace B := hidden (keepB B.out hb)
  clear hb
  go_wp2
  go_ret
  exact ⟨rfl, B.out⟩

end Go.Proofs.Ytbdgnpjbmlcchaa
