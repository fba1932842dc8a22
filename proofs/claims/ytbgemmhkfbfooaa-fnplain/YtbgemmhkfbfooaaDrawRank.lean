/- Contracts: a signature, a precedence and a number are drawn. -/
import Derived.Test.YtbgemmhkfbfooaaOrdBent
namespace Go.Proofs.Ytbgemmhkfbfooaa
open Go.RowKit

/-- A signature that was drawn. -/
def SigV (w : World) (v : Value) : Prop := v = .slice none 0 0 ∨ ∃ g m d N A, v = .slice (some ⟨g, 0, none⟩) m d ∧ m ≤ 7 ∧ Kept m N A ∧ Syms w g 0 m N A

theorem SigV.grown {w w' : World} {v : Value} {s : Nat} (h : SigV w v) (hg : w.grownBy w' (some s)) (hs : ∀ g m d, v = .slice (some ⟨g, 0, none⟩) m d → g ≠ s) : SigV w' v := by
  rcases h with h | ⟨g, m, d, N, A, rfl, hm, hk, hS⟩
  · exact Or.inl h
  · have hne := hs g m d rfl
    refine Or.inr ⟨g, m, d, N, A, rfl, hm, hk, ⟨fun h0 => Nat.lt_of_lt_of_le (hS.blk h0) hg.size, fun i hi => hg.cell (hS.name i hi) (by simpa using hne), fun i hi => hg.cell (hS.arity i hi) (by simpa using hne), hS.big, hS.fits⟩⟩

theorem SigV.keep {w w' : World} {v : Value} (h : SigV w v) (hb : Below w.heap.size w w') : SigV w' v := by
  rcases h with h | ⟨g, m, d, N, A, rfl, hm, hk, hS⟩
  · exact Or.inl h
  · exact Or.inr ⟨g, m, d, N, A, rfl, hm, hk, hS.keep hb⟩

theorem nums_six (W : World) (t : TypeId) : Byt.Nums (W.alloc (.cells #[.int .i64 0, .int .i64 1, .int .i64 2, .int .i64 3, .int .i64 6, .int .i64 (-1)] t)) W.heap.size 6 [0, 1, 2, 3, 6, -1] :=
  ⟨rfl, fun i hi => by
    match i, hi with
    | 0, _ => simp [go_sem]
    | 1, _ => simp [go_sem]
    | 2, _ => simp [go_sem]
    | 3, _ => simp [go_sem]
    | 4, _ => simp [go_sem]
    | 5, _ => simp [go_sem]⟩

/-- The length that a signature's value tells. -/
def lenV : Value → Nat
  | .slice _ n _ => n
  | _ => 0

end Go.Proofs.Ytbgemmhkfbfooaa
