/- Plain facts: the text of the term at a place. -/
import Derived.Test.YtkaoafdemckagaaArgs
import Derived.Test.YtkaoafdemckagaaTermF
namespace Go.Proofs.Ytkaoafdemckagaa
open Go.RowKit

/-- A string of these bytes. -/
def bs (l : List UInt8) : ByteArray := ⟨l.toArray⟩

theorem bs_toList (l : List UInt8) : (bs l).data.toList = l := by simp [bs]
theorem bs_data (b : ByteArray) : bs b.data.toList = b := by
  obtain ⟨⟨l⟩⟩ := b; rfl
theorem bs_append (a b : List UInt8) : bs a ++ bs b = bs (a ++ b) := by
  apply ByteArray.ext
  simp [bs]
theorem bs_size (l : List UInt8) : (bs l).size = l.length := by simp [bs, ByteArray.size]

/-- The text of the term at place p. -/
def txt (N : Nat → ByteArray) (A T : Nat → Int) (m p : Nat) : List UInt8 :=
  if _h : p < m then
    if T p < 0 then [UInt8.ofNat (64 - T p).toNat]
    else if aOf A T p = 0 then (N (T p).toNat).data.toList
    else if aOf A T p = 1 then (N (T p).toNat).data.toList ++ [40] ++ txt N A T m (max (p + 1) (argP (aOf A T) m p 0)) ++ [41]
    else (N (T p).toNat).data.toList ++ [40] ++ txt N A T m (max (p + 1) (argP (aOf A T) m p 0)) ++ [44] ++ txt N A T m (max (p + 1) (argP (aOf A T) m p 1)) ++ [41]
  else []
termination_by m - p
decreasing_by all_goals omega

section
variable {N : Nat → ByteArray} {A T : Nat → Int} {m p : Nat}

theorem txt_var (hp : p < m) (h : T p < 0) : txt N A T m p = [UInt8.ofNat (64 - T p).toNat] := by
  rw [txt, dif_pos hp, if_pos h]

theorem txt_con {j : Nat} (hp : p < m) (h : T p = j) (h0 : aOf A T p = 0) : txt N A T m p = (N j).data.toList := by
  rw [txt, dif_pos hp, if_neg (by omega), if_pos h0, h, Int.toNat_natCast]

theorem txt_one {j r : Nat} (hp : p < m) (h : T p = j) (h1 : aOf A T p = 1) (hr : skip (aOf A T) m (p + 1) 0 = some r) : txt N A T m p = (N j).data.toList ++ [40] ++ txt N A T m r ++ [41] := by
  have e : max (p + 1) (argP (aOf A T) m p 0) = r := by rw [argP_some hr]; have := (skip_le hr).1; omega
  rw [txt, dif_pos hp, if_neg (by omega), if_neg (by omega), if_pos h1, h, Int.toNat_natCast, e]

theorem txt_two {j r r2 : Nat} (hp : p < m) (h : T p = j) (h2 : aOf A T p = 2) (hr : skip (aOf A T) m (p + 1) 0 = some r) (hr2 : skip (aOf A T) m (p + 1) 1 = some r2) : txt N A T m p = (N j).data.toList ++ [40] ++ txt N A T m r ++ [44] ++ txt N A T m r2 ++ [41] := by
  have e : max (p + 1) (argP (aOf A T) m p 0) = r := by rw [argP_some hr]; have := (skip_le hr).1; omega
  have e2 : max (p + 1) (argP (aOf A T) m p 1) = r2 := by rw [argP_some hr2]; have := (skip_le hr2).1; omega
  rw [txt, dif_pos hp, if_neg (by omega), if_neg (by omega), if_neg (by omega), h, Int.toNat_natCast, e, e2]

/-- A text is not too long: names of at most M signs. -/
theorem txt_le {M : Nat} (hM : ∀ p, p < m → 0 ≤ T p → (N (T p).toNat).size ≤ M) : ∀ (d p : Nat), m - p ≤ d → (txt N A T m p).length ≤ (M + 4) * 3 ^ d := by
  intro d
  induction d with
  | zero =>
    intro p hd
    rw [txt, dif_neg (by omega)]; simp
  | succ d ih =>
    intro p hd
    rw [Nat.pow_succ]
    have h3 : 1 ≤ 3 ^ d := Nat.one_le_pow _ _ (by omega)
    have hk : M + 4 ≤ (M + 4) * 3 ^ d := Nat.le_mul_of_pos_right _ h3
    have e3 : (M + 4) * (3 ^ d * 3) = (M + 4) * 3 ^ d * 3 := by rw [Nat.mul_assoc]
    by_cases hp : p < m
    · rw [txt, dif_pos hp]
      have hname : 0 ≤ T p → ((N (T p).toNat).data.toList).length ≤ M := fun h0 => by rw [Array.length_toList]; exact hM p hp h0
      have i0 := ih (max (p + 1) (argP (aOf A T) m p 0)) (by omega)
      have i1 := ih (max (p + 1) (argP (aOf A T) m p 1)) (by omega)
      rw [e3]
      split
      · simp only [List.length_cons, List.length_nil]; omega
      · have hname := hname (by omega)
        split
        · omega
        · split
          · simp only [List.length_append, List.length_cons, List.length_nil]; omega
          · simp only [List.length_append, List.length_cons, List.length_nil]; omega
    · rw [txt, dif_neg hp]; simp

theorem name_small {n : Nat} (h : faultF n N A = 0) {i : Nat} (hi : i < n) : (N i).size ≤ 4 := by
  have h1 : fb N A n = 0 := by
    refine Classical.byContradiction fun hc => ?_
    by_cases hn : n < 1 ∨ 6 < n
    · rw [faultF, if_pos hn] at h; omega
    · rw [faultF, if_neg hn, if_neg hc] at h; exact hc h
  have h2 := fb_alls n h1 i hi
  have h3 : nmB (N i) = true := by
    cases hb : nmB (N i)
    · rw [oneF_name hb] at h2; omega
    · rfl
  unfold nmB at h3
  have h4 : isNm (N i) := by simpa using h3
  have := h4.2.1
  omega

/-- The text of a right term. -/
theorem txt_short {n : Nat} (hf : faultF n N A = 0) (hg : Trm n A m T) (p : Nat) : (txt N A T m p).length ≤ 2300000000000 := by
  have h := txt_le (N := N) (A := A) (T := T) (m := m) (M := 4) (fun p hp h0 => by
    rcases nodeB_cases (hg.nods.node p hp) with ⟨j, e, hj⟩ | hv
    · rw [e, Int.toNat_natCast]; exact name_small hf hj
    · omega) 24 p (by have := hg.nods.most; omega)
  have : (4 + 4) * 3 ^ 24 ≤ 2300000000000 := by decide
  omega
end

end Go.Proofs.Ytkaoafdemckagaa
