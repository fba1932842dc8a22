/- Contracts: a number is put into a rising list, and the variables of a term are told, as the model does it. -/
import Derived.Test.YtbdgnpjbmlcchaaVarMath
namespace Go.Proofs.Ytbdgnpjbmlcchaa
open Go.RowKit

theorem oneValI (x : Int) : ∀ u ∈ [Value.int .i64 x], u.oneCell' = true := by intro u hu; simp at hu; rw [hu]; rfl

theorem one_srcI (W : World) (v : Value) (t : TypeId) : ∀ (j : Nat) (u : Value), [v][j]? = some u → (W.alloc (.cells #[v] t)).cell? ((⟨W.heap.size, 0, none⟩ : Addr).add j) = some u := by
  intro j u hj
  match j, hj with
  | 0, hj => simp at hj; subst hj; simp [Addr.add, go_sem]

/-- A list of numbers in memory of its own. -/
structure OwnL (w : World) (B g d : Nat) (l : List Int) : Prop where
  base : B ≤ g
  own : w.ownsRow B 2 1 (.slice (some ⟨g, 0, none⟩) l.length d) l.length (l.map (fun x => Value.int .i64 x))

theorem OwnL.ownI {w : World} {B g d : Nat} {l : List Int} (h : OwnL w B g d l) : OwnI w B g l.length d (fun i => l.getD i 0) l.length :=
  ⟨_, h.own, fun i hi => by simp [List.getElem?_eq_getElem hi]⟩

theorem OwnL.lt {w : World} {B g d : Nat} {l : List Int} (h : OwnL w B g d l) : g < w.heap.size := h.ownI.lt

theorem ownL_open {w w1 : World} {B : Nat} {v' : Value} {l : List Int} {k : Nat} {xs : List Value} (h : w1.ownsRow B 2 1 v' k xs) (hk : k = l.length) (hx : xs = l.map (fun x => Value.int .i64 x)) (hnil : ¬ v' = .slice none 0 0) (hb : Below B w w1) : ∃ g d, v' = .slice (some ⟨g, 0, none⟩) l.length d ∧ OwnL w1 B g d l ∧ Below B w w1 := by
  subst hk hx
  rcases h.2 with ⟨hv, _⟩ | ⟨g, d, cur, hv, hg, _⟩
  · exact absurd hv hnil
  · subst hv; exact ⟨g, d, rfl, ⟨hg, h⟩, hb⟩

end Go.Proofs.Ytbdgnpjbmlcchaa
