/- Contracts: algebras: how great they are, their copies and their comparison. -/
import Derived.Test.YtdcngfdklpdpkaaMat
namespace Go.Proofs.Ytdcngfdklpdpkaa
open Go.RowKit

theorem OwnM.other {w : World} {B g n c : Nat} {D : LsL} {k : Nat} (h : OwnM w B g n c D k) (a : Addr) (v : Value) (ha : a.block < B) : OwnM (w.setCell a v) B g n c D k := by
  obtain ⟨xs, G, ho, hx, hm⟩ := h
  have hB : B ≤ g := (ho.lt g rfl).1
  have e : (w.setCell a v).heap[g]? = w.heap[g]? := Below.heap_setCell w a v g (by omega)
  refine ⟨xs, G, ⟨ho.1, ho.2.imp id ?_⟩, fun i hi => ?_, hm⟩
  · rintro ⟨g', cap, cur, h1, h2, h3, h4⟩
    have e' : g' = g := by simp at h1; exact h1.1.symm
    subst e'
    exact ⟨g', cap, cur, h1, h2, by rw [e]; exact h3, h4⟩
  · obtain ⟨d, a1, a2, a3, a4, a5⟩ := hx i hi
    exact ⟨d, a1, a2, a3, a4, a5.other a v (by omega)⟩

theorem OwnM.base {w : World} {B B' g n c : Nat} {D : LsL} {k : Nat} (h : OwnM w B g n c D k) (hB : B' ≤ B) : OwnM w B' g n c D k := by
  obtain ⟨xs, G, ho, hx, hm⟩ := h
  refine ⟨xs, G, ⟨ho.1, ho.2.imp id ?_⟩, fun i hi => ?_, hm⟩
  · rintro ⟨g', cap, cur, h1, h2, h3, h4⟩
    exact ⟨g', cap, cur, h1, by omega, h3, h4⟩
  · obtain ⟨d, a1, a2, a3, a4, a5⟩ := hx i hi
    exact ⟨d, a1, a2, by omega, a4, a5.base (by omega)⟩

set_option maxRecDepth 20000 in
set_option maxHeartbeats 400000 in
theorem szAlgebra_any (z : Int) (p2 : Option Addr) (m2 c2 : Nat) (D2 : LsL) (left : Int) (w : World) (h2 : SrcM w p2 m2 D2) (h0 : 0 ≤ left) (h1 : left ≤ 1048576) :
    Calls Try.prog 9 #[.agg #[.int .i64 z, .slice p2 m2 c2], .int .i64 left] w fun e w' => (∃ r, e = .returned (.int .i64 r) ∧ (r = -1 ∨ (0 ≤ r ∧ r ≤ left ∧ KeptM m2 D2))) ∧ Below w.heap.size w w' := by
  have B := hidden (alloc_below w (.cells #[.int .i64 z, .slice p2 m2 c2] 27))
  have H2 := hidden (h2.keep B.out)
  clear h2
  go_enter Try.func9, Try.ntmps9
  go_wp2_with fail
  with_reducible refine (szInt64SS_src _ _ _ D2 _ _ H2.out h0 (by omega)).mono ?_
  rintro e w2 ⟨⟨r2, rfl, hr⟩, hb⟩
  replace B := hidden (keepB B.out hb)
  clear hb
  rcases hr with rfl | ⟨s0, s1, s2⟩
  · go_wp2
    go_ret
    exact ⟨⟨_, rfl, Or.inl rfl⟩, B.out⟩
  · go_wp2
    go_ret
    exact ⟨⟨_, rfl, Or.inr ⟨by omega, by omega, s2⟩⟩, B.out⟩

set_option maxRecDepth 20000 in
set_option maxHeartbeats 800000 in
theorem toAlgebra_src (z : Int) (p2 : Option Addr) (m2 c2 : Nat) (D2 : LsL) (w : World) (h2 : SrcM w p2 m2 D2) (hm2 : KeptM m2 D2) :
    Calls Try.prog 12 #[.agg #[.int .i64 z, .slice p2 m2 c2]] w fun e w' => ∃ g2, e = .returned (.agg #[.int .i64 z, .slice (some ⟨g2, 0, none⟩) m2 m2]) ∧ w.heap.size ≤ g2 ∧ OwnM w' w.heap.size g2 m2 m2 D2 m2 ∧ Below w.heap.size w w' := by
  go_enter Try.func12, Try.ntmps12
  go_wp2_with fail
  have b0 : Below w.heap.size w (((w.alloc (Obj.cells #[Value.int IntKind.i64 z, Value.slice p2 m2 c2] 27)).alloc (Obj.cells #[Value.int IntKind.i64 0, Value.slice none 0 0] 35)).alloc (Obj.cells #[Value.int IntKind.i64 z, Value.slice none 0 0] 35)) := (((Below.refl _ _).alloc (Nat.le_refl _) _).alloc (by simp) _).alloc (by simp; omega) _
  have t2 : Own2 (((w.alloc (Obj.cells #[Value.int IntKind.i64 z, Value.slice p2 m2 c2] 27)).alloc (Obj.cells #[Value.int IntKind.i64 0, Value.slice none 0 0] 35)).alloc (Obj.cells #[Value.int IntKind.i64 z, Value.slice none 0 0] 35)) (w.heap.size + 1) (Value.int IntKind.i64 0) (Value.slice none 0 0) := by
    have := (Own2.new (w.alloc (Obj.cells #[Value.int IntKind.i64 z, Value.slice p2 m2 c2] 27)) (Value.int IntKind.i64 0) (Value.slice none 0 0) 35).keep (alloc_below _ (Obj.cells #[Value.int IntKind.i64 z, Value.slice none 0 0] 35))
    simpa using this
  have t3 : Own2 (((w.alloc (Obj.cells #[Value.int IntKind.i64 z, Value.slice p2 m2 c2] 27)).alloc (Obj.cells #[Value.int IntKind.i64 0, Value.slice none 0 0] 35)).alloc (Obj.cells #[Value.int IntKind.i64 z, Value.slice none 0 0] 35)) (w.heap.size + 1 + 1) (Value.int IntKind.i64 z) (Value.slice none 0 0) := by
    have := Own2.new ((w.alloc (Obj.cells #[Value.int IntKind.i64 z, Value.slice p2 m2 c2] 27)).alloc (Obj.cells #[Value.int IntKind.i64 0, Value.slice none 0 0] 35)) (Value.int IntKind.i64 z) (Value.slice none 0 0) 35
    simpa using this
  generalize hW : (((w.alloc (Obj.cells #[Value.int IntKind.i64 z, Value.slice p2 m2 c2] 27)).alloc (Obj.cells #[Value.int IntKind.i64 0, Value.slice none 0 0] 35)).alloc (Obj.cells #[Value.int IntKind.i64 z, Value.slice none 0 0] 35)) = w0 at *
  clear hW
  have H2 := hidden h2
  have B := hidden b0
  have X2 := hidden t2
  have X3 := hidden t3
  have Y3 := hidden t3.two.blk
  with_reducible refine (toMats_new _ _ _ D2 _ (h2.keep b0) hm2).mono ?_
  clear h2 b0 t2 t3
  rintro e w2 ⟨g2, rfl, hg2, ho2, hb⟩
  have B2 := hidden (keepB B.out hb)
  replace X2 := hidden (X2.out.keep hb)
  replace X3 := hidden (X3.out.keep hb)
  have HO2 := hidden ho2
  have HG2 := hidden hg2
  clear hb ho2 hg2
  have e1 := X3.out.two.c1
  have e2 := X3.out.f1
  have V3 := hidden (X3.out.set1 (.slice (some ⟨g2, 0, none⟩) m2 m2))
  have V2 := hidden (X2.out.other ⟨w.heap.size + 1 + 1, 1, none⟩ (.slice (some ⟨g2, 0, none⟩) m2 m2) (by simp))
  have e3 := V3.out.two.c0
  have e4 := V3.out.two.c1
  have e5 := V2.out.two.c0
  have e6 := V2.out.f0
  have e7 := (V2.out.set0 (.int .i64 z)).two.c1
  have e8 := (V2.out.set0 (.int .i64 z)).f1
  go_wp2
  have z0 := ((V2.out.set0 (.int .i64 z)).set1 (.slice (some ⟨g2, 0, none⟩) m2 m2)).two.c0
  have z1 := ((V2.out.set0 (.int .i64 z)).set1 (.slice (some ⟨g2, 0, none⟩) m2 m2)).two.c1
  have n1 := Y3.out
  have n2 := HG2.out
  refine bodyPost_ret (v := .agg #[.int .i64 z, .slice (some ⟨g2, 0, none⟩) m2 m2]) (by simp [results, Try.results12, go_sem, z0, z1]) rfl ⟨g2, rfl, by omega, ?_, ?_⟩
  · exact (((HO2.out.other _ _ (by show w.heap.size + 1 + 1 < _; omega)).other _ _ (by show w.heap.size + 1 < _; omega)).other _ _ (by show w.heap.size + 1 < _; omega)).base (by omega)
  · exact ((B2.out.setCell (by show w.heap.size ≤ w.heap.size + 1 + 1; omega) _).setCell (by show w.heap.size ≤ w.heap.size + 1; omega) _).setCell (by show w.heap.size ≤ w.heap.size + 1; omega) _

set_option maxRecDepth 20000 in
set_option maxHeartbeats 400000 in
theorem eqAlgebra_eq (z : Int) (b2 o2 m2 c2 b4 o4 c4 : Nat) (D2 : LsL) (w : World) (h2 : Mats w b2 o2 m2 D2) (h4 : Mats w b4 o4 m2 D2) (hm2 : KeptM m2 D2) :
    Calls Try.prog 15 #[.agg #[.int .i64 z, .slice (some ⟨b2, o2, none⟩) m2 c2], .agg #[.int .i64 z, .slice (some ⟨b4, o4, none⟩) m2 c4]] w fun e w' => e = .returned (.bool true) ∧ Below w.heap.size w w' := by
  have A1 := hidden (alloc_below w (.cells #[.int .i64 z, .slice (some ⟨b2, o2, none⟩) m2 c2] 35))
  have X1 := hidden (Two.new w (.int .i64 z) (.slice (some ⟨b2, o2, none⟩) m2 c2) 35)
  have A2 := hidden (alloc_below (w.alloc (.cells #[.int .i64 z, .slice (some ⟨b2, o2, none⟩) m2 c2] 35)) (.cells #[.int .i64 z, .slice (some ⟨b4, o4, none⟩) m2 c4] 35))
  have X2 := hidden (Two.new (w.alloc (.cells #[.int .i64 z, .slice (some ⟨b2, o2, none⟩) m2 c2] 35)) (.int .i64 z) (.slice (some ⟨b4, o4, none⟩) m2 c4) 35)
  replace X1 := hidden (X1.out.keep A2.out)
  have B := hidden (keepB A1.out A2.out)
  have H2 := hidden (h2.keep B.out)
  have H4 := hidden (h4.keep B.out)
  clear h2 h4
  have y0 := X1.out.c0
  have y1 := X1.out.c1
  have x0 := X2.out.c0
  have x1 := X2.out.c1
  simp only [World.size_alloc] at x1 x0
  go_enter Try.func15, Try.ntmps15
  go_wp2_with fail
  with_reducible refine (eqInt64SS_eq _ _ _ _ _ _ _ D2 _ H2.out H4.out hm2).mono ?_
  rintro e w2 ⟨rfl, hb⟩
  replace B := hidden (keepB B.out hb)
  clear hb
  go_wp2
  go_ret
  exact ⟨rfl, B.out⟩

end Go.Proofs.Ytdcngfdklpdpkaa
