/- Contracts: bindings: how great they are, their copies and their comparison. -/
import Derived.Test.YtaecahdamaidaaaMat
namespace Go.Proofs.Ytaecahdamaidaaa
open Go.RowKit

theorem OwnM.other {w : World} {B g n c : Nat} {D : LsL} {k : Nat} (h : OwnM w B g n c D k) (a : Addr) (v : Value) (ha : a.block < B) : OwnM (w.setCell a v) B g n c D k := by
  obtain ⟨xs, G, ho, hx, hm⟩ := h
  have hB : B ≤ g := (ho.lt g rfl).1
  have e : (w.setCell a v).heap[g]? = w.heap[g]? := Below.heap_setCell w a v g (by omega)
  refine ⟨xs, G, ⟨ho.1, ho.2.imp id ?_⟩, fun i hi => ?_, hm⟩
  · rintro ⟨g', cap, cur, h1, h2, h3, h4⟩
    have e' : g' = g := by simp at h1; exact h1.1.symm
    subst e'
    exact ⟨g', cap, cur, h1, h2, by rw [e]; exact h3, h4⟩
  · obtain ⟨d, a1, a2, a3, a4, a5⟩ := hx i hi
    exact ⟨d, a1, a2, a3, a4, a5.other a v (by omega)⟩

theorem OwnM.base {w : World} {B B' g n c : Nat} {D : LsL} {k : Nat} (h : OwnM w B g n c D k) (hB : B' ≤ B) : OwnM w B' g n c D k := by
  obtain ⟨xs, G, ho, hx, hm⟩ := h
  refine ⟨xs, G, ⟨ho.1, ho.2.imp id ?_⟩, fun i hi => ?_, hm⟩
  · rintro ⟨g', cap, cur, h1, h2, h3, h4⟩
    exact ⟨g', cap, cur, h1, by omega, h3, h4⟩
  · obtain ⟨d, a1, a2, a3, a4, a5⟩ := hx i hi
    exact ⟨d, a1, a2, by omega, a4, a5.base (by omega)⟩

set_option maxRecDepth 20000 in
set_option maxHeartbeats 400000 in
theorem eqBinding_eq (b1 o1 b2 o2 m1 c1 m2 c2 b3 o3 b4 o4 c3 c4 : Nat) (L1 : Nat → Int) (D2 : LsL) (w : World) (h1 : Ints w b1 o1 m1 L1) (h2 : Mats w b2 o2 m2 D2) (h3 : Ints w b3 o3 m1 L1) (h4 : Mats w b4 o4 m2 D2) (hm1 : m1 ≤ 1048576) (hm2 : KeptM m2 D2) :
    Calls Try.prog 49 #[.agg #[.slice (some ⟨b1, o1, none⟩) m1 c1, .slice (some ⟨b2, o2, none⟩) m2 c2], .agg #[.slice (some ⟨b3, o3, none⟩) m1 c3, .slice (some ⟨b4, o4, none⟩) m2 c4]] w fun e w' => e = .returned (.bool true) ∧ Below w.heap.size w w' := by
  have A1 := hidden (alloc_below w (.cells #[.slice (some ⟨b1, o1, none⟩) m1 c1, .slice (some ⟨b2, o2, none⟩) m2 c2] 29))
  have X1 := hidden (Two.new w (.slice (some ⟨b1, o1, none⟩) m1 c1) (.slice (some ⟨b2, o2, none⟩) m2 c2) 29)
  have A2 := hidden (alloc_below (w.alloc (.cells #[.slice (some ⟨b1, o1, none⟩) m1 c1, .slice (some ⟨b2, o2, none⟩) m2 c2] 29)) (.cells #[.slice (some ⟨b3, o3, none⟩) m1 c3, .slice (some ⟨b4, o4, none⟩) m2 c4] 29))
  have X2 := hidden (Two.new (w.alloc (.cells #[.slice (some ⟨b1, o1, none⟩) m1 c1, .slice (some ⟨b2, o2, none⟩) m2 c2] 29)) (.slice (some ⟨b3, o3, none⟩) m1 c3) (.slice (some ⟨b4, o4, none⟩) m2 c4) 29)
  replace X1 := hidden (X1.out.keep A2.out)
  have B := hidden (keepB A1.out A2.out)
  have H1 := hidden (h1.keep B.out)
  have H2 := hidden (h2.keep B.out)
  have H3 := hidden (h3.keep B.out)
  have H4 := hidden (h4.keep B.out)
  clear h1 h2 h3 h4
  go_enter Try.func49, Try.ntmps49
  go_wp2_with fail
  with_reducible refine (eqInt64S_eq _ _ _ _ _ _ _ L1 _ H1.out H3.out hm1).mono ?_
  rintro e w1 ⟨rfl, hb⟩
  replace B := hidden (keepB B.out hb)
  replace H2 := hidden (H2.out.keep hb)
  replace H4 := hidden (H4.out.keep hb)
  replace X1 := hidden (X1.out.keep hb)
  replace X2 := hidden (X2.out.keep hb)
  clear hb H1 H3
  have x1 := X1.out.c1
  have x2 := X2.out.c1
  simp only [World.size_alloc] at x1 x2
  go_wp2_with fail
  with_reducible refine (eqInt64SS_eq _ _ _ _ _ _ _ D2 _ H2.out H4.out hm2).mono ?_
  rintro e w2 ⟨rfl, hb⟩
  replace B := hidden (keepB B.out hb)
  clear hb
  go_wp2
  go_ret
  exact ⟨rfl, B.out⟩

end Go.Proofs.Ytaecahdamaidaaa
