/- Contracts: the sum of bytes, as the model and as the program reckons it. -/
import Derived.Test.YtcnkkoegfjggaaaBEq
namespace Go.Proofs.Ytcnkkoegfjggaaa.Byt
open Go.RowKit

def sumL (l : List Int) : Int := l.foldl (fun n b => (n * 227 + b + 1) % 65521) 29

theorem sumL_snoc (l : List Int) (x : Int) : sumL (l ++ [x]) = (sumL l * 227 + x + 1) % 65521 := by simp [sumL]

theorem sumL_bd (l : List Int) : 0 ≤ sumL l ∧ sumL l < 65521 := by
  rcases List.eq_nil_or_concat l with rfl | ⟨r, x, rfl⟩
  · decide
  · rw [List.concat_eq_append, sumL_snoc]; omega

theorem take_snoc (l : List Int) (k : Nat) (h : k < l.length) : l.take (k + 1) = l.take k ++ [l.getD k 0] := by
  rw [List.take_succ_eq_append_getElem h]
  simp [List.getD_eq_getElem?_getD, List.getElem?_eq_getElem h]

theorem ownRow {w : World} {B g n c : Nat} {l : List Int} (h : w.ownsRow B 5 1 (.slice (some ⟨g, 0, none⟩) n c) n (l.map (Value.int .u8))) (hm : n ≤ 2000000) (hb : ∀ i, 0 ≤ l.getD i 0 ∧ l.getD i 0 ≤ 255) : Row w g 0 n l := by
  have hl := h.1
  simp at hl
  refine ⟨hl, hm, hb, (h.lt g rfl).2, fun i hi => ?_⟩
  rw [Nat.zero_add, h.cellAt i (by omega)]
  simp [List.getD_eq_getElem?_getD, List.getElem?_eq_getElem (show i < l.length by omega)]

theorem Src.later {w w' : World} {p : Option Addr} {n : Nat} {l : List Int} (h : Src w p n l) (hb : Below w.heap.size w w') : Src w' p n l := by
  obtain ⟨h1, h2, h3, h4⟩ := h
  refine ⟨h1, h2, h3, h4.imp id ?_⟩
  rintro ⟨b, off, rfl, hlt, hc⟩
  exact ⟨b, off, rfl, Nat.lt_of_lt_of_le hlt hb.size, fun i hi => by rw [hb.cell (p := ⟨b, off + i, none⟩) hlt]; exact hc i hi⟩

theorem bcell {W w1 : World} (hb : Below W.heap.size W w1) : (∀ b o, b < W.heap.size → w1.cell? ⟨b, o, none⟩ = W.cell? ⟨b, o, none⟩) ∧ (∀ b o, b < W.heap.size → w1.frozen? ⟨b, o, none⟩ = W.frozen? ⟨b, o, none⟩) :=
  ⟨fun b o h => hb.cell (p := ⟨b, o, none⟩) h, fun b o h => hb.frozen (p := ⟨b, o, none⟩) h⟩

/-- A struct of two cells in memory. -/
structure Two (w : World) (b : Nat) (x y : Value) : Prop where
  blk : b < w.heap.size
  c0 : w.cell? ⟨b, 0, none⟩ = some x
  c1 : w.cell? ⟨b, 1, none⟩ = some y

theorem Two.new (w : World) (x y : Value) (t : TypeId) : Two (w.alloc (.cells #[x, y] t)) w.heap.size x y := by
  refine ⟨by simp, ?_, ?_⟩ <;> simp [go_sem]

theorem Two.later {w w' : World} {B b : Nat} {x y : Value} (h : Two w b x y) (hb : Below B w w') (hB : b < B) : Two w' b x y :=
  ⟨Nat.lt_of_lt_of_le h.blk hb.size, by rw [hb.cell (p := ⟨b, 0, none⟩) hB]; exact h.c0, by rw [hb.cell (p := ⟨b, 1, none⟩) hB]; exact h.c1⟩

/-- A copy lies in new memory. -/
theorem toByteS_new (p : Option Addr) (n c : Nat) (l : List Int) (w : World) (h : Src w p n l) :
    Calls Try.prog 20 #[.slice p n c] w fun e w' => ∃ g, e = .returned (.slice (some ⟨g, 0, none⟩) n n) ∧ w.heap.size ≤ g ∧ Row w' g 0 n l ∧ Below w.heap.size w w' := by
  refine (toByteS_any p n c l w h).mono ?_
  rintro e w' ⟨rfl, ho, hb⟩
  exact ⟨w.heap.size, rfl, Nat.le_refl _, ownRow ho h.2.1 h.2.2.1, hb⟩

end Go.Proofs.Ytcnkkoegfjggaaa.Byt
