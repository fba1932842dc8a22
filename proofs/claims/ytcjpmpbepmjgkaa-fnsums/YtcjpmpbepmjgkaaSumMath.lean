/- Plain facts on sums: a byte that is turned turns the sum; no program in it. -/
import Derived.Test.YtcjpmpbepmjgkaaDrawSum
import Derived.Test.YtcjpmpbepmjgkaaLists
import Derived.Laws.BitsAllLaws
namespace Go.Proofs.Ytcjpmpbepmjgkaa

def stepS (n b : Int) : Int := (n * 227 + b + 1) % 65521

theorem foldS_ne : ∀ (l : List Int) (a b : Int), 0 ≤ a → a < 65521 → 0 ≤ b → b < 65521 → a ≠ b → l.foldl stepS a ≠ l.foldl stepS b
  | [], a, b, _, _, _, _, h => h
  | x :: r, a, b, h0, h1, h2, h3, h => by
    simp only [List.foldl_cons]
    refine foldS_ne r _ _ (by unfold stepS; omega) (by unfold stepS; omega) (by unfold stepS; omega) (by unfold stepS; omega) ?_
    unfold stepS
    intro e
    apply h
    omega

theorem sumL_turn (l : List Int) (i : Nat) (y : Int) (hi : i < l.length) (hb : 0 ≤ l.getD i 0 ∧ l.getD i 0 ≤ 255) (hy : 0 ≤ y ∧ y ≤ 255) (hne : y ≠ l.getD i 0) : sumL (l.set i y) ≠ sumL l := by
  have e1 : l = l.take i ++ l.getD i 0 :: l.drop (i + 1) := by
    rw [← drop_at l i hi, List.take_append_drop]
  have e2 : l.set i y = l.take i ++ y :: l.drop (i + 1) := by
    rw [List.set_eq_take_append_cons_drop, if_pos hi]
  have s2 := sumL_bd (l.take i)
  generalize l.getD i 0 = x at *
  have key : ∀ z : Int, sumL (l.take i ++ z :: l.drop (i + 1)) = (l.drop (i + 1)).foldl stepS (stepS (sumL (l.take i)) z) := by
    intro z
    unfold sumL stepS
    rw [List.foldl_append, List.foldl_cons]
  have k1 := key x
  rw [← e1] at k1
  rw [e2, key y, k1]
  refine foldS_ne _ _ _ (by unfold stepS; omega) (by unfold stepS; omega) (by unfold stepS; omega) (by unfold stepS; omega) ?_
  unfold stepS
  omega

theorem xor_ne (x v : Int) (hx : 0 ≤ x ∧ x ≤ 255) (hv : 1 ≤ v ∧ v ≤ 255) : 0 ≤ bits .xor .u8 x v ∧ bits .xor .u8 x v ≤ 255 ∧ bits .xor .u8 x v ≠ x := by
  obtain ⟨X, rfl⟩ := Int.eq_ofNat_of_zero_le hx.1
  obtain ⟨V, rfl⟩ := Int.eq_ofNat_of_zero_le (show 0 ≤ v by omega)
  rw [u8_xor_nat X V (by omega) (by omega)]
  have h1 : X ^^^ V < 2 ^ 8 := Nat.xor_lt_two_pow (by omega) (by omega)
  refine ⟨by omega, by omega, ?_⟩
  intro e
  have e' : X ^^^ V = X := by omega
  have : V = 0 := by
    have h2 : X ^^^ (X ^^^ V) = X ^^^ X := by rw [e']
    rw [← Nat.xor_assoc, Nat.xor_self, Nat.zero_xor] at h2
    exact h2
  omega

end Go.Proofs.Ytcjpmpbepmjgkaa
