/- Contracts: the key of two terms: KeyOf of the model and of the program. -/
import Derived.Test.YtfandhpjignabaaKey
namespace Go.Proofs.Ytfandhpjignabaa
open Go.RowKit

theorem keyV_map (T1 T2 : Nat → Int) (m1 m2 : Nat) : packV T1 m1 ++ packV T2 m2 = (packT T1 m1 ++ packT T2 m2).map (Value.int .u8) := by simp [packV]
theorem keyV_len (T1 T2 : Nat → Int) (m1 m2 : Nat) : (packT T1 m1 ++ packT T2 m2).length = m1 + m2 := by simp [packT_len]

theorem pieces_two (w : World) (B1 B2 g1 d1 g2 d2 : Nat) (l1 l2 : List Int) (t : TypeId) (h1 : OwnR w B1 g1 l1.length d1 (l1.map (Value.int .u8))) (h2 : OwnR w B2 g2 l2.length d2 (l2.map (Value.int .u8))) (p1 : 0 < l1.length) (p2 : 0 < l2.length) :
    Pieces (w.alloc (.cells #[.slice (some ⟨g1, 0, none⟩) l1.length d1, .slice (some ⟨g2, 0, none⟩) l2.length d2] t)) w.heap.size 0 2 (fun i => if i = 0 then g1 else g2) (fun i => if i = 0 then d1 else d2) (fun i => if i = 0 then l1 else l2) := by
  have a := alloc_below w (.cells #[.slice (some ⟨g1, 0, none⟩) l1.length d1, .slice (some ⟨g2, 0, none⟩) l2.length d2] t)
  have row : ∀ {B g d : Nat} {l : List Int}, OwnR w B g l.length d (l.map (Value.int .u8)) → ∀ j, j < l.length → w.cell? ⟨g, j, none⟩ = some (.int .u8 (l.getD j 0)) := by
    intro B g d l h j hj
    rw [World.ownsRow.cellAt h j (by omega), List.getElem?_map, List.getElem?_eq_getElem hj]
    simp [List.getD_eq_getElem?_getD, List.getElem?_eq_getElem hj]
  refine ⟨fun _ => by simp, fun i hi => ?_, fun i hi => ?_, fun i hi j hj => ?_, fun i hi => ?_⟩
  · match i, hi with
    | 0, _ => simp [go_sem]
    | 1, _ => simp [go_sem]
  · match i, hi with
    | 0, _ => exact Nat.lt_of_lt_of_le h1.lt a.size
    | 1, _ => exact Nat.lt_of_lt_of_le h2.lt a.size
  · match i, hi with
    | 0, _ => exact ((bcell a).1 _ _ h1.lt).trans (row h1 j hj)
    | 1, _ => exact ((bcell a).1 _ _ h2.lt).trans (row h2 j hj)
  · match i, hi with
    | 0, _ => exact p1
    | 1, _ => exact p2

end Go.Proofs.Ytfandhpjignabaa
