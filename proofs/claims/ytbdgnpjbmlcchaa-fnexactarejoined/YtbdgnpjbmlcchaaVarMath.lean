/- Plain facts on lists of variables: put one by one into a rising list, and told by marks. -/
import Derived.Test.YtbdgnpjbmlcchaaSub
namespace Go.Proofs.Ytbdgnpjbmlcchaa
open Go.RowKit

/-- A rising list with one number more. -/
def vput : List Int → Int → List Int
  | [], v => [v]
  | x :: l, v => if v ≤ x then (if x = v then x :: l else v :: x :: l) else x :: vput l v

theorem vput_length (l : List Int) (v : Int) : (vput l v).length ≤ l.length + 1 := by
  induction l with
  | nil => simp [vput]
  | cons x l ih => simp only [vput]; split <;> (try split) <;> simp <;> omega

/-- The variables that the first k nodes are. -/
def vl (T : Nat → Int) : Nat → List Int
  | 0 => []
  | k + 1 => if T k < 0 then vput (vl T k) (-1 - T k) else vl T k

theorem vl_length (T : Nat → Int) : ∀ k, (vl T k).length ≤ k
  | 0 => Nat.le_refl _
  | k + 1 => by
    have h := vl_length T k
    simp only [vl]
    split
    · have := vput_length (vl T k) (-1 - T k); omega
    · omega

/-- Whether variable j is one of the first k nodes. -/
def mkV (T : Nat → Int) : Nat → Nat → Bool
  | 0, _ => false
  | k + 1, j => mkV T k j || decide (T k = -1 - (j : Int))

def flt (P : Nat → Bool) (s n : Nat) : List Int := ((List.range' s n).filter P).map (fun x : Nat => (x : Int))

theorem flt_succ (P : Nat → Bool) (s n : Nat) : flt P s (n + 1) = if P s then (s : Int) :: flt P (s + 1) n else flt P (s + 1) n := by
  simp only [flt, List.range'_succ, List.filter_cons]
  split <;> simp

theorem flt_same {P Q : Nat → Bool} : ∀ (n s : Nat), (∀ x, s ≤ x → x < s + n → P x = Q x) → flt P s n = flt Q s n
  | 0, _, _ => rfl
  | n + 1, s, h => by
    rw [flt_succ, flt_succ, h s (Nat.le_refl _) (by omega), flt_same n (s + 1) (fun x h1 h2 => h x (by omega) (by omega))]

theorem vput_low (P : Nat → Bool) (v : Nat) : ∀ (n s : Nat), v < s → vput (flt P s n) v = (v : Int) :: flt P s n
  | 0, _, _ => rfl
  | n + 1, s, h => by
    rw [flt_succ]
    split
    · simp only [vput]; rw [if_pos (by omega), if_neg (by omega)]
    · exact vput_low P v n (s + 1) (by omega)

theorem vput_flt (P : Nat → Bool) (v : Nat) : ∀ (n s : Nat), s ≤ v → v < s + n → vput (flt P s n) v = flt (fun x => P x || decide (x = v)) s n
  | 0, s, h1, h2 => by omega
  | n + 1, s, h1, h2 => by
    rw [flt_succ, flt_succ]
    by_cases e : s = v
    · subst e
      have hs : flt (fun x => P x || decide (x = s)) (s + 1) n = flt P (s + 1) n := flt_same n (s + 1) (fun x h1 _ => by simp; omega)
      rw [hs]
      simp only [decide_true, Bool.or_true, if_true]
      by_cases hp : P s = true
      · rw [if_pos hp]; simp only [vput]; rw [if_pos (by omega)]; simp
      · rw [if_neg hp]; exact vput_low P s n (s + 1) (by omega)
    · have ih := vput_flt P v n (s + 1) (by omega) (by omega)
      have hq : (P s || decide (s = v)) = P s := by simp [e]
      rw [hq]
      by_cases hp : P s = true
      · rw [if_pos hp, if_pos hp]; simp only [vput]; rw [if_neg (by omega), ih]
      · rw [if_neg hp, if_neg hp]; exact ih

theorem vl_flt {T : Nat → Int} : ∀ k, (∀ i, i < k → T i < 0 → -12 ≤ T i) → vl T k = flt (mkV T k) 0 12
  | 0, _ => by simp [vl, flt, mkV]
  | k + 1, h => by
    have ih := vl_flt (T := T) k (fun i hi => h i (by omega))
    simp only [vl]
    by_cases hx : T k < 0
    · have h12 := h k (by omega) hx
      obtain ⟨v, hv⟩ : ∃ v : Nat, -1 - T k = v := ⟨(-1 - T k).toNat, by omega⟩
      rw [if_pos hx, ih, hv, vput_flt _ v 12 0 (by omega) (by omega)]
      refine flt_same 12 0 (fun x _ _ => ?_)
      simp only [mkV]
      congr 1
      simp only [decide_eq_decide]
      omega
    · rw [if_neg hx, ih]
      refine flt_same 12 0 (fun x _ _ => ?_)
      simp only [mkV]
      have : decide (T k = -1 - (x : Int)) = false := by simp; omega
      rw [this, Bool.or_false]

theorem flt_snoc (P : Nat → Bool) (k : Nat) : flt P 0 (k + 1) = if P k then flt P 0 k ++ [(k : Int)] else flt P 0 k := by
  simp only [flt, List.range'_concat, List.filter_append, List.filter_cons, List.filter_nil, Nat.zero_add, Nat.one_mul]
  split <;> simp

theorem flt_length (P : Nat → Bool) (s : Nat) : ∀ n, (flt P s n).length ≤ n := by
  intro n
  simp only [flt, List.length_map]
  exact Nat.le_trans (List.length_filter_le _ _) (by simp)

end Go.Proofs.Ytbdgnpjbmlcchaa
