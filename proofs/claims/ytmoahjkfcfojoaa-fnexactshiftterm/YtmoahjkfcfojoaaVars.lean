/- Contracts: the variables of a term: VarsOf, as the model and as the program tells them. -/
import Derived.Test.YtmoahjkfcfojoaaVarsI
namespace Go.Proofs.Ytmoahjkfcfojoaa
open Go.RowKit

theorem Nods.var {n m : Nat} {A T : Nat → Int} (h : Nods n A m T) : ∀ i, i < m → T i < 0 → -12 ≤ T i := fun i hi hx => by
  rcases nodeB_cases (h.node i hi) with ⟨j, e, _⟩ | hv <;> omega

theorem OwnL.res {w : World} {B B' g d : Nat} {l : List Int} (h : OwnL w B g d l) (hB : B' ≤ g) (a a' : Addr) (u u' : Value) (h1 : g ≠ a.block) (h2 : g ≠ a'.block) : OwnI ((w.setCell a u).setCell a' u') B' g l.length d (fun i => l.getD i 0) l.length :=
  ((h.ownI.other a u h1).other a' u' h2).base hB

/-- What VarsOf answers: as ListAns, but no list where there is no variable. -/
def VarsAns (w : World) (C : Int) (l : List Int) (e : Ending) (w' : World) : Prop :=
  (C ≠ 0 ∧ e = .returned (.agg #[.int .i64 C, .slice none 0 0])) ∨ (C = 0 ∧ l = [] ∧ e = .returned (.agg #[.int .i64 0, .slice none 0 0])) ∨
  (C = 0 ∧ l ≠ [] ∧ ∃ g d, e = .returned (.agg #[.int .i64 0, .slice (some ⟨g, 0, none⟩) l.length d]) ∧ w.heap.size ≤ g ∧ OwnI w' w.heap.size g l.length d (fun i => l.getD i 0) l.length)

set_option maxRecDepth 20000 in
set_option maxHeartbeats 400000 in
theorem eqInt64S_mixed (g d : Nat) (w : World) :
    Calls Try.prog 22 #[.slice none 0 0, .slice (some ⟨g, 0, none⟩) 0 d] w fun e w' => e = .returned (.bool true) ∧ w' = w := by
  go_enter Try.func22, Try.ntmps22
  go_wp2
  refine wp_loop_rounds 1 ?_
  rw [rounds_succ]
  go_wp2
  go_ret
  exact ⟨rfl, rfl⟩

end Go.Proofs.Ytmoahjkfcfojoaa
