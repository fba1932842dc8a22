/- Plain facts: what was packed and is read again is what it was. -/
import Derived.Test.YthgoclbgepfjmaaReadImpl
namespace Go.Proofs.Ythgoclbgepfjmaa
open Go.RowKit

theorem symL_len (s : ByteArray) (x : Int) : (symL s x).length = s.size + 2 := by simp [symL]

theorem packL_split (N : Nat → ByteArray) (A : Nat → Int) (n : Nat) : ∀ m k, k < m → ∃ r, packL N A n m = packL N A n k ++ (symL (N k) (A k) ++ r)
  | 0, k, h => by omega
  | m + 1, k, h => by
    by_cases e : k = m
    · subst e; exact ⟨[], by simp [packL]⟩
    · obtain ⟨r, hr⟩ := packL_split N A n m k (by omega)
      exact ⟨r ++ symL (N m) (A m), by rw [packL, hr]; simp only [List.append_assoc]⟩

theorem packL_head (N : Nat → ByteArray) (A : Nat → Int) (n : Nat) : ∀ m, ∃ r, packL N A n m = (n : Int) :: r
  | 0 => ⟨[], rfl⟩
  | m + 1 => by obtain ⟨r, hr⟩ := packL_head N A n m; exact ⟨r ++ symL (N m) (A m), by rw [packL, hr]; rfl⟩

theorem packL_at (N : Nat → ByteArray) (A : Nat → Int) (n m k : Nat) (h : k < m) : (packL N A n m).getD (packL N A n k).length 0 = ((N k).size : Int) := by
  obtain ⟨r, hr⟩ := packL_split N A n m k h
  rw [hr, List.getD_eq_getElem?_getD, List.getElem?_append_right (Nat.le_refl _)]
  simp [symL]

theorem packL_pos (N : Nat → ByteArray) (A : Nat → Int) (n m : Nat) : ∀ k, k ≤ m → pos (packL N A n m) k = (packL N A n k).length
  | 0, _ => rfl
  | k + 1, h => by
    rw [pos, packL_pos N A n m k (by omega), packL_at N A n m k (by omega), packL, List.length_append, symL_len]
    simp

theorem packL_kk (N : Nat → ByteArray) (A : Nat → Int) (n m k : Nat) (h : k < m) : kk (packL N A n m) k = (N k).size := by
  rw [kk, packL_pos N A n m k (by omega), packL_at N A n m k h]; simp

theorem packL_drop (N : Nat → ByteArray) (A : Nat → Int) (n m k : Nat) (h : k < m) : ∃ r, (packL N A n m).drop (pos (packL N A n m) k) = symL (N k) (A k) ++ r := by
  obtain ⟨r, hr⟩ := packL_split N A n m k h
  refine ⟨r, ?_⟩
  rw [packL_pos N A n m k (by omega), hr, List.drop_left]

theorem cutOf_sym (s : ByteArray) (x : Int) (r : List Int) : cutOf (symL s x ++ r) 1 s.size = s.data.toList.map (fun b => (b.toNat : Int)) := by
  apply List.ext_getElem
  · simp [cutOf]
  · intro i h1 h2
    have hi : i < s.data.toList.length := by simpa using h2
    simp only [cutOf, List.getElem_map, List.getElem_range, symL, List.getD_eq_getElem?_getD]
    rw [List.append_assoc, List.append_assoc, List.getElem?_append_right (by simp), List.getElem?_append_left (by simp at hi ⊢; omega)]
    simp [List.getElem?_eq_getElem hi]

theorem strOf_forth (s : ByteArray) : strOfNums (s.data.toList.map (fun b => (b.toNat : Int))) = s := by
  cases s with
  | mk d =>
    simp only [strOfNums, List.map_map]
    rw [List.map_congr_left (g := id)]
    · simp
    · intro b _; simp

theorem packL_nm (N : Nat → ByteArray) (A : Nat → Int) (n m k : Nat) (h : k < m) : nmOf (packL N A n m) k = N k := by
  obtain ⟨r, hr⟩ := packL_drop N A n m k h
  rw [nmOf, hr, packL_kk N A n m k h, cutOf_sym, strOf_forth]

theorem packL_ar (N : Nat → ByteArray) (A : Nat → Int) (n m k : Nat) (h : k < m) : arOf (packL N A n m) k = A k := by
  obtain ⟨r, hr⟩ := packL_drop N A n m k h
  rw [arOf, hr, packL_kk N A n m k h, List.getD_eq_getElem?_getD, List.getElem?_append_left (by rw [symL_len]; omega), symL, List.getElem?_append_right (by simp; omega)]
  simp [Nat.add_comm]

theorem fb_same {N N' : Nat → ByteArray} {A A' : Nat → Int} : ∀ n, (∀ i, i < n → N i = N' i ∧ A i = A' i) → fb N A n = fb N' A' n
  | 0, _ => rfl
  | n + 1, h => by
    have ih := fb_same n (fun i hi => h i (by omega))
    obtain ⟨h1, h2⟩ := h n (by omega)
    rw [fb, fb, ih, h1, h2]

/-- The fault of a signature looks at its symbols alone. -/
theorem faultF_same {n : Nat} {N N' : Nat → ByteArray} {A A' : Nat → Int} (h : ∀ i, i < n → N i = N' i ∧ A i = A' i) : faultF n N A = faultF n N' A' := by
  have hd : dup n N = dup n N' := propext ⟨fun ⟨i, hi, j, hj, e⟩ => ⟨i, hi, j, hj, by rw [← (h i hi).1, ← (h j (by omega)).1]; exact e⟩, fun ⟨i, hi, j, hj, e⟩ => ⟨i, hi, j, hj, by rw [(h i hi).1, (h j (by omega)).1]; exact e⟩⟩
  have hc : cons0 n A = cons0 n A' := propext ⟨fun ⟨i, hi, e⟩ => ⟨i, hi, by rw [← (h i hi).2]; exact e⟩, fun ⟨i, hi, e⟩ => ⟨i, hi, by rw [(h i hi).2]; exact e⟩⟩
  unfold faultF
  rw [fb_same n h]
  have e1 : (dup n N ↔ dup n N') := Iff.of_eq hd
  have e2 : (cons0 n A ↔ cons0 n A') := Iff.of_eq hc
  clear hd hc
  by_cases d : dup n N'
  · rw [if_pos (e1.2 d), if_pos d]
  · rw [if_neg (fun x => d (e1.1 x)), if_neg d]
    by_cases c : cons0 n A'
    · rw [if_pos (e2.2 c), if_pos c]
    · rw [if_neg (fun x => c (e2.1 x)), if_neg c]

/-- What is packed of a right signature is read again, and is what it was. -/
theorem packL_whole {n : Nat} {N : Nat → ByteArray} {A : Nat → Int} (h : faultF n N A = 0) : whole (packL N A n n) ∧ ((packL N A n n).getD 0 0).toNat = n := by
  have hr := fault_right h
  obtain ⟨r, hh⟩ := packL_head N A n n
  have h0 : ((packL N A n n).getD 0 0).toNat = n := by rw [hh]; simp
  refine ⟨⟨by rw [hh]; simp, ?_, ?_⟩, h0⟩
  · rw [h0]
    refine ⟨hr.most, fun i hi => ?_, ?_⟩
    · rw [packL_pos N A n n i (by omega), packL_kk N A n n i hi]
      obtain ⟨r, hs⟩ := packL_split N A n n i hi
      rw [hs]
      simp only [List.length_append, symL_len]
      omega
    · rw [faultF_same (N' := N) (A' := A) (fun i hi => ⟨packL_nm N A n n i hi, packL_ar N A n n i hi⟩)]; exact h
  · rw [h0, packL_pos N A n n n (Nat.le_refl _)]

end Go.Proofs.Ythgoclbgepfjmaa
