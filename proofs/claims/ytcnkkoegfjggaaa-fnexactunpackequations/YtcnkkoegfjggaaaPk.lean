/- Contracts: a term as bytes: the model's l5Pack and PackTerm, the program's packNodes and PackTerm. -/
import Derived.Test.YtcnkkoegfjggaaaTermF
import Derived.Test.YtcnkkoegfjggaaaBytesRes
namespace Go.Proofs.Ytcnkkoegfjggaaa
open Go.RowKit

/-- The byte of a node. -/
def bytN (x : Int) : Int := if x < 0 then 31 - x else x + 1
/-- The bytes of the first k nodes. -/
def packT (T : Nat → Int) : Nat → List Int
  | 0 => []
  | k + 1 => packT T k ++ [bytN (T k)]
def packV (T : Nat → Int) (k : Nat) : List Value := (packT T k).map (Value.int .u8)

theorem packT_len (T : Nat → Int) : ∀ k, (packT T k).length = k
  | 0 => rfl
  | k + 1 => by simp [packT, packT_len T k]
theorem packV_len (T : Nat → Int) (k : Nat) : (packV T k).length = k := by simp [packV, packT_len]
theorem packV_succ (T : Nat → Int) (k : Nat) : packV T (k + 1) = packV T k ++ [.int .u8 (bytN (T k))] := by simp [packV, packT]

theorem node_range {x : Int} {n : Nat} (hn : n ≤ 6) (h : nodeB x n = true) : -12 ≤ x ∧ x ≤ 5 := by
  rcases nodeB_cases h with ⟨j, e, hj⟩ | h
  · omega
  · omega
theorem bytN_range {x : Int} (h : -12 ≤ x ∧ x ≤ 5) : 1 ≤ bytN x ∧ bytN x ≤ 43 := by unfold bytN; split <;> omega

theorem packT_byt {T : Nat → Int} : ∀ m, (∀ i, i < m → -12 ≤ T i ∧ T i ≤ 5) → ∀ x ∈ packT T m, 0 ≤ x ∧ x ≤ 255
  | 0, _, x, hx => by simp [packT] at hx
  | m + 1, h, x, hx => by
    simp only [packT, List.mem_append, List.mem_singleton] at hx
    rcases hx with hx | rfl
    · exact packT_byt m (fun i hi => h i (by omega)) x hx
    · have := bytN_range (h m (by omega)); omega

theorem Nods.rng {n m : Nat} {A T : Nat → Int} (h : Nods n A m T) : ∀ i, i < m → -12 ≤ T i ∧ T i ≤ 5 := fun i hi => node_range h.few (h.node i hi)

theorem own_row {w w1 : World} {B : Nat} {v' : Value} {xs : List Value} {k : Nat} (h : w1.ownsRow B 5 1 v' k xs) (hnil : ¬ v' = .slice none 0 0) (hb : Below B w w1) : ∃ g d, v' = .slice (some ⟨g, 0, none⟩) k d ∧ B ≤ g ∧ OwnR w1 B g k d xs ∧ Below B w w1 := by
  rcases h.2 with ⟨hv, _⟩ | ⟨g, d, cur, hv, hg, _⟩
  · exact absurd hv hnil
  · subst hv; exact ⟨g, d, rfl, hg, h, hb⟩

set_option maxRecDepth 20000 in
set_option maxHeartbeats 400000 in
theorem variableOfB_any (x : Int) (w : World) (h : -9223372036854775808 ≤ -1 - x ∧ -1 - x ≤ 9223372036854775807) :
    Calls Try.prog 97 #[.int .i64 x] w fun e w' => e = .returned (.int .i64 (-1 - x)) ∧ Below w.heap.size w w' := by
  go_enter Try.func97, Try.ntmps97
  go_wp2
  go_ret
  exact ⟨rfl, Below.refl _ _⟩

end Go.Proofs.Ytcnkkoegfjggaaa
