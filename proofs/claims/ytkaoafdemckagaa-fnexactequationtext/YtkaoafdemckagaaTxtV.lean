/- Contracts: the text of a variable, as the program tells it. -/
import Derived.Test.YtkaoafdemckagaaTxt
import Derived.Test.YtkaoafdemckagaaEqnF
namespace Go.Proofs.Ytkaoafdemckagaa
open Go.RowKit

set_option maxRecDepth 100000 in
theorem rune_str (w : World) (v : Nat) (hv : v < 12) : (convert 21 9 (.int .i32 (65 + (v : Int)))).run Try.prog w = .ok (.string (bs [UInt8.ofNat (65 + v)])) w := by
  match v, hv with
  | 0, _ => rfl
  | 1, _ => rfl
  | 2, _ => rfl
  | 3, _ => rfl
  | 4, _ => rfl
  | 5, _ => rfl
  | 6, _ => rfl
  | 7, _ => rfl
  | 8, _ => rfl
  | 9, _ => rfl
  | 10, _ => rfl
  | 11, _ => rfl

set_option maxRecDepth 20000 in
set_option maxHeartbeats 400000 in
theorem textThere_var (b off n c b' off' m c' p : Nat) (N : Nat → ByteArray) (A T : Nat → Int) (w : World) (hp : p < m) (h' : Ints w b' off' m T) (hx : -12 ≤ T p ∧ T p ≤ -1) :
    Calls Try.prog 41 #[.agg #[.slice (some ⟨b, off, none⟩) n c], .slice (some ⟨b', off', none⟩) m c', .int .i64 p] w fun e w' => e = .returned (.string (bs (txt N A T m p))) ∧ Below w.heap.size w w' := by
  obtain ⟨v, hv⟩ : ∃ v : Nat, T p = -1 - (v : Int) := ⟨(-1 - T p).toNat, by omega⟩
  have hv12 : v < 12 := by omega
  have HR := hidden (show txt N A T m p = [UInt8.ofNat (65 + v)] by rw [txt_var hp (by omega), hv]; congr 2; omega)
  have B := hidden (keepB (alloc_below w (.cells #[.slice (some ⟨b, off, none⟩) n c] 32)) (alloc_below _ (.cells #[.slice (some ⟨b', off', none⟩) m c'] 25)))
  have D := hidden ((One.new (w.alloc (.cells #[.slice (some ⟨b, off, none⟩) n c] 32)) (.slice (some ⟨b', off', none⟩) m c') 25).c0)
  simp only [World.size_alloc] at D
  have c1 := (h'.keep B.out).cell p hp
  rw [hv] at c1
  have hz : varB (-1 - (v : Int)) = true := by simp [varB]; omega
  have d0 := D.out
  clear h' hx hv
  go_enter Try.func41, Try.ntmps41
  go_wp2_with fail
  with_reducible refine (isVariable_any _ _).mono ?_
  rintro e w1 ⟨rfl, hb⟩
  rw [hz]
  replace B := hidden (keepB B.out hb)
  clear hb c1 d0 hz
  go_wp2_with fail
  with_reducible refine (variableOf_any _ _ (by omega)).mono ?_
  rintro e w2 ⟨rfl, hb⟩
  replace B := hidden (keepB B.out hb)
  clear hb
  have e1 : (-1 - (-1 - (v : Int))) = v := by omega
  rw [e1]
  have k1 := rune_str w2 v hv12
  generalize UInt8.ofNat (65 + v) = q at HR k1
  go_wp2
  go_ret
  exact ⟨by rw [HR.out]; rfl, B.out⟩

end Go.Proofs.Ytkaoafdemckagaa
