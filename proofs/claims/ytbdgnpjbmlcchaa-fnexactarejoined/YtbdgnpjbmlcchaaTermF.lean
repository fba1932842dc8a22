/- The fault of a term: what the document asks, and that the model's and the program's TermFault tell it. -/
import Derived.Test.YtbdgnpjbmlcchaaEnd
import Derived.Test.YtbdgnpjbmlcchaaSize
namespace Go.Proofs.Ytbdgnpjbmlcchaa
open Go.RowKit

theorem fb_alls {N : Nat → ByteArray} {A : Nat → Int} : ∀ n, fb N A n = 0 → ∀ i, i < n → oneF (N i) (A i) = 0
  | 0, _, i, hi => by omega
  | n + 1, h, i, hi => by
    have h' : (if fb N A n = 0 then oneF (N n) (A n) else fb N A n) = 0 := h
    by_cases e : fb N A n = 0
    · rw [if_pos e] at h'
      by_cases ei : i = n
      · rw [ei]; exact h'
      · exact fb_alls n e i (by omega)
    · rw [if_neg e] at h'; exact absurd h' e

/-- A signature without a fault: few symbols, small arities. -/
structure Sound (n : Nat) (A : Nat → Int) : Prop where
  least : 0 < n
  most : n ≤ 6
  arity : ∀ i, i < n → 0 ≤ A i ∧ A i ≤ 2

theorem fault_sound {n : Nat} {N : Nat → ByteArray} {A : Nat → Int} (h : faultF n N A = 0) : Sound n A := by
  unfold faultF at h
  by_cases hn : n < 1 ∨ 6 < n
  · rw [if_pos hn] at h; omega
  · rw [if_neg hn] at h
    by_cases hb : fb N A n = 0
    · refine ⟨by omega, by omega, fun i hi => ?_⟩
      have hx := fb_alls n hb i hi
      unfold oneF at hx
      by_cases hm : nmB (N i) = true
      · rw [if_pos hm] at hx
        by_cases hr : 0 ≤ A i ∧ A i ≤ 2
        · exact hr
        · rw [if_neg hr] at hx; omega
      · rw [if_neg hm] at hx; omega
    · rw [if_neg hb] at h; exact absurd h hb

open Classical in
/-- The fault of a term of a right signature. -/
noncomputable def lF (n : Nat) (A : Nat → Int) (m : Nat) (T : Nat → Int) : Int :=
  if m < 1 ∨ 24 < m then 2 else if ∃ i, i < m ∧ nodeB (T i) n = false then 3 else if skip (aOf A T) m 0 1 = some m then 0 else 1

/-- The fault of a term. -/
noncomputable def termF (n : Nat) (N : Nat → ByteArray) (A : Nat → Int) (m : Nat) (T : Nat → Int) : Int := if faultF n N A = 0 then lF n A m T else faultF n N A

section
variable {n : Nat} {N : Nat → ByteArray} {A : Nat → Int} {m : Nat} {T : Nat → Int}
theorem lF_many (h : m < 1 ∨ 24 < m) : lF n A m T = 2 := by rw [lF, if_pos h]
theorem lF_out (h : ¬ (m < 1 ∨ 24 < m)) (ho : ∃ i, i < m ∧ nodeB (T i) n = false) : lF n A m T = 3 := by rw [lF, if_neg h, if_pos ho]
theorem lF_ok (h : ¬ (m < 1 ∨ 24 < m)) (ho : ∀ i, i < m → nodeB (T i) n = true) (hs : skip (aOf A T) m 0 1 = some m) : lF n A m T = 0 := by
  rw [lF, if_neg h, if_neg (by rintro ⟨i, hi, e⟩; rw [ho i hi] at e; cases e), if_pos hs]
theorem lF_form (h : ¬ (m < 1 ∨ 24 < m)) (ho : ∀ i, i < m → nodeB (T i) n = true) (hs : skip (aOf A T) m 0 1 ≠ some m) : lF n A m T = 1 := by
  rw [lF, if_neg h, if_neg (by rintro ⟨i, hi, e⟩; rw [ho i hi] at e; cases e), if_neg hs]
theorem term_fault (h : faultF n N A ≠ 0) : termF n N A m T = faultF n N A := by rw [termF, if_neg h]
theorem term_l (h : faultF n N A = 0) : termF n N A m T = lF n A m T := by rw [termF, if_pos h]

/-- A term without a fault. -/
structure Trm (n : Nat) (A : Nat → Int) (m : Nat) (T : Nat → Int) : Prop where
  sig : Sound n A
  pos : 0 < m
  nods : Nods n A m T
  whole : skip (aOf A T) m 0 1 = some m

theorem lF_right (hs : Sound n A) (h : lF n A m T = 0) : Trm n A m T := by
  unfold lF at h
  by_cases h1 : m < 1 ∨ 24 < m
  · rw [if_pos h1] at h; omega
  · rw [if_neg h1] at h
    by_cases h2 : ∃ i, i < m ∧ nodeB (T i) n = false
    · rw [if_pos h2] at h; omega
    · rw [if_neg h2] at h
      by_cases h3 : skip (aOf A T) m 0 1 = some m
      · exact ⟨hs, by omega, ⟨hs.most, hs.arity, by omega, fun i hi => by
          cases e : nodeB (T i) n with
          | true => rfl
          | false => exact absurd ⟨i, hi, e⟩ h2⟩, h3⟩
      · rw [if_neg h3] at h; omega

theorem term_right (h : termF n N A m T = 0) : Trm n A m T := by
  by_cases hf : faultF n N A = 0
  · rw [term_l hf] at h; exact lF_right (fault_sound hf) h
  · rw [term_fault hf] at h; exact absurd h hf
end

set_option maxRecDepth 20000 in
set_option maxHeartbeats 400000 in
theorem l3Fault_many (B : Nat) (p' : Option Addr) (n m c' : Nat) (A T : Nat → Int) (w : World) (hm : m ≤ 1048576) (h : m < 1 ∨ 24 < m) :
    Calls Try.prog 18 #[.pointer (some ⟨B, 0, none⟩), .slice p' m c'] w fun e w' => e = .returned (.int .i64 (lF n A m T)) ∧ Below w.heap.size w w' := by
  have HR := hidden (lF_many (n := n) (A := A) (T := T) h)
  rcases h with h | h
  · have h1 : (m : Int) < 1 := by omega
    go_enter Try.func18, Try.ntmps18
    go_wp2
    go_ret
    exact ⟨by rw [HR.out]; rfl, Below.refl _ _⟩
  · have h1 : ¬ (m : Int) < 1 := by omega
    have h2 : (24 : Int) < m := by omega
    go_enter Try.func18, Try.ntmps18
    go_wp2
    go_ret
    exact ⟨by rw [HR.out]; rfl, Below.refl _ _⟩

set_option maxRecDepth 20000 in
set_option maxHeartbeats 1600000 in
theorem l3Fault_any (B b off n c b' off' m c' : Nat) (N : Nat → ByteArray) (A T : Nat → Int) (w : World) (hd : One w B (.slice (some ⟨b, off, none⟩) n c)) (h : Syms w b off n N A) (h' : Ints w b' off' m T) (hs : Sound n A) (hm : ¬ (m < 1 ∨ 24 < m)) :
    Calls Try.prog 18 #[.pointer (some ⟨B, 0, none⟩), .slice (some ⟨b', off', none⟩) m c'] w fun e w' => e = .returned (.int .i64 (lF n A m T)) ∧ Below w.heap.size w w' := by
  have D := hidden hd
  have H := hidden h
  have H' := hidden h'
  have HS := hidden hs
  have HM := hidden hm
  have h1 : ¬ (m : Int) < 1 := by omega
  have h2 : ¬ (24 : Int) < m := by omega
  have hm24 : m ≤ 24 := by omega
  clear hd h h' hs hm
  go_enter Try.func18, Try.ntmps18
  go_wp2
  go_loopw [5] (fun i wr => ∃ k : Nat, k ≤ m ∧ i = .int .i64 k ∧ Hid (∀ i, i < k → nodeB (T i) n = true) ∧ Hid (Below w.heap.size w wr)) (fun i _ => m - (intOf i).toNat)
  case atStart => exact ⟨0, Nat.zero_le _, rfl, hidden (fun i hi => by omega), hidden (Below.refl _ _)⟩
  case round =>
    obtain ⟨k, hk, rfl, HF, HB⟩ := hrel
    by_cases hlt : k < m
    · have c1 := (H'.out.keep HB.out).cell k hlt
      go_wp2_with fail
      with_reducible refine (l3Node_any _ _ _ _ _ _ (D.out.keep HB.out) (by have := HS.out.most; omega)).mono ?_
      rintro e w1 ⟨rfl, hb⟩
      have B1 := hidden (keepB HB.out hb)
      clear hb c1 HB
      generalize hx : nodeB (T k) n = ib
      cases ib
      · have HR := hidden (lF_out (A := A) HM.out ⟨k, hlt, hx⟩)
        clear hx
        go_wp2
        go_ret
        exact ⟨by rw [HR.out]; rfl, B1.out⟩
      · have HX := hidden hx
        clear hx
        go_wp2
        go_roundw
        case rel => exact ⟨k + 1, by omega, by go_num, hidden (fun j hj => by
          by_cases e : j = k
          · rw [e]; exact HX.out
          · exact HF.out j (by omega)), B1⟩
        case measure => simp [intOf]; omega
    · obtain rfl : m = k := by omega
      have HN := hidden (Nods.mk (T := T) HS.out.most HS.out.arity hm24 HF.out)
      have EC := hidden (show Calls Try.prog 33 #[.pointer (some ⟨B, 0, none⟩), .slice (some ⟨b', off', none⟩) m c', .int .i64 0] wr _ from l3End_any B b off n c b' off' m c' N A T HN.out m 0 (by omega) (by omega) wr (D.out.keep HB.out) (H.out.keep HB.out) (H'.out.keep HB.out))
      clear hlt hk
      go_wp2_with fail
      with_reducible refine EC.out.mono ?_
      rintro e w1 ⟨rfl, hb⟩
      have B1 := hidden (keepB HB.out hb)
      clear hb EC
      by_cases hx : skip (aOf A T) m 0 1 = some m
      · have HR := hidden (lF_ok HM.out HF.out hx)
        have he : (endV (aOf A T) m 0 != (m : Int)) = false := by rw [endV_some hx]; simp
        clear hx
        generalize endV (aOf A T) m 0 = z at *
        go_wp2
        go_ret
        exact ⟨by rw [HR.out]; rfl, B1.out⟩
      · have HR := hidden (lF_form HM.out HF.out hx)
        have he : (endV (aOf A T) m 0 != (m : Int)) = true := by
          cases e : skip (aOf A T) m 0 1 with
          | none => rw [endV_none e]; simp
          | some r => rw [endV_some e]; rw [e] at hx; simp at hx ⊢; omega
        clear hx
        generalize endV (aOf A T) m 0 = z at *
        go_wp2
        go_ret
        exact ⟨by rw [HR.out]; rfl, B1.out⟩

theorem l3Fault_all (B b off n c b' off' m c' : Nat) (N : Nat → ByteArray) (A T : Nat → Int) (w : World) (hd : One w B (.slice (some ⟨b, off, none⟩) n c)) (h : Syms w b off n N A) (h' : Ints w b' off' m T) (hs : Sound n A) (hm : m ≤ 1048576) :
    Calls Try.prog 18 #[.pointer (some ⟨B, 0, none⟩), .slice (some ⟨b', off', none⟩) m c'] w fun e w' => e = .returned (.int .i64 (lF n A m T)) ∧ Below w.heap.size w w' := by
  by_cases h1 : m < 1 ∨ 24 < m
  · exact l3Fault_many B _ n m c' A T w hm h1
  · exact l3Fault_any B b off n c b' off' m c' N A T w hd h h' hs h1

set_option maxRecDepth 20000 in
set_option maxHeartbeats 1600000 in
theorem implTerm_any (b off n c b' off' m c' : Nat) (N : Nat → ByteArray) (A T : Nat → Int) (w : World) (h : Syms w b off n N A) (h' : Ints w b' off' m T) (hk : Kept n N A) (hm : m ≤ 1048576) :
    Calls Try.prog 47 #[.agg #[.slice (some ⟨b, off, none⟩) n c], .slice (some ⟨b', off', none⟩) m c'] w fun e w' => e = .returned (.int .i64 (termF n N A m T)) ∧ Below w.heap.size w w' := by
  have D := hidden (One.new w (.slice (some ⟨b, off, none⟩) n c) 34)
  have B := hidden (alloc_below w (.cells #[.slice (some ⟨b, off, none⟩) n c] 34))
  have Q := hidden (h.keep B.out)
  have I := hidden (h'.keep B.out)
  have HK := hidden hk
  clear h h' hk
  go_enter Try.func47, Try.ntmps47
  go_wp2_with fail
  with_reducible refine (implFault_all _ _ _ _ N A _ Q.out HK.out).mono ?_
  rintro e w1 ⟨rfl, hb⟩
  replace D := hidden (D.out.keep hb)
  replace B := hidden (keepB B.out hb)
  replace I := hidden (I.out.keep hb)
  replace Q := hidden (Q.out.keep hb)
  clear hb
  by_cases hf : faultF n N A = 0
  · have HR := hidden (term_l (m := m) (T := T) hf)
    have HS := hidden (fault_sound hf)
    rw [hf]
    clear hf
    by_cases h1 : m = 0
    · have HF := hidden (lF_many (n := n) (A := A) (m := m) (T := T) (Or.inl (by omega)))
      subst h1
      go_wp2
      go_ret
      exact ⟨by rw [HR.out, HF.out]; rfl, B.out⟩
    by_cases h2 : 24 < m
    · have HF := hidden (lF_many (n := n) (A := A) (m := m) (T := T) (Or.inr h2))
      have g1 : ((m : Int) == 0) = false := by simp; omega
      have g2 : (24 : Int) < m := by omega
      clear h1 h2
      go_wp2
      go_ret
      exact ⟨by rw [HR.out, HF.out]; rfl, B.out⟩
    have HM := hidden (show ¬ (m < 1 ∨ 24 < m) by omega)
    have g1 : ((m : Int) == 0) = false := by simp; omega
    have g2 : ¬ (24 : Int) < m := by omega
    have hm24 : m ≤ 24 := by omega
    have hm0 : 0 < m := by omega
    clear h1 h2 hm
    go_wp2
    go_loopw [23] (fun i wr => ∃ k : Nat, k ≤ m ∧ i = .int .i64 k ∧ Hid (∀ i, i < k → nodeB (T i) n = true) ∧ Hid (Below w1.heap.size w1 wr)) (fun i _ => m - (intOf i).toNat)
    case atStart => exact ⟨0, Nat.zero_le _, rfl, hidden (fun i hi => by omega), hidden (Below.refl _ _)⟩
    case round =>
      obtain ⟨k, hk, rfl, HF, HB⟩ := hrel
      have d0 := (D.out.keep HB.out).c0
      by_cases hlt : k < m
      · have c1 := (I.out.keep HB.out).cell k hlt
        go_wp2_with fail
        with_reducible refine (isNode_any _ _ _ _ _).mono ?_
        rintro e w2 ⟨rfl, hb⟩
        have B1 := hidden (keepB HB.out hb)
        clear hb c1 HB d0
        generalize hx : nodeB (T k) n = ib
        cases ib
        · have HO := hidden (lF_out (A := A) HM.out ⟨k, hlt, hx⟩)
          clear hx
          go_wp2
          go_ret
          exact ⟨by rw [HR.out, HO.out]; rfl, keepB B.out B1.out⟩
        · have HX := hidden hx
          clear hx
          go_wp2
          go_roundw
          case rel => exact ⟨k + 1, by omega, by go_num, hidden (fun j hj => by
            by_cases e : j = k
            · rw [e]; exact HX.out
            · exact HF.out j (by omega)), B1⟩
          case measure => simp [intOf]; omega
      · obtain rfl : m = k := by omega
        have HN := hidden (Nods.mk (T := T) HS.out.most HS.out.arity hm24 HF.out)
        clear hlt hk
        go_wp2_with fail
        with_reducible refine (isOneTerm_any _ _ _ _ _ _ _ _ N A T _ (Q.out.keep HB.out) (I.out.keep HB.out) HN.out HS.out.least hm0).mono ?_
        rintro e w2 ⟨rfl, hb⟩
        have B1 := hidden (keepB HB.out hb)
        clear hb HB d0
        generalize hx : oneB (aOf A T) m = ib
        cases ib
        · have HO := hidden (lF_form HM.out HF.out (by simpa [oneB] using hx))
          clear hx
          go_wp2
          go_ret
          exact ⟨by rw [HR.out, HO.out]; rfl, keepB B.out B1.out⟩
        · have HO := hidden (lF_ok HM.out HF.out (by simpa [oneB] using hx))
          clear hx
          go_wp2
          go_ret
          exact ⟨by rw [HR.out, HO.out]; rfl, keepB B.out B1.out⟩
  · have HR := hidden (term_fault (m := m) (T := T) hf)
    have hf' : (faultF n N A != 0) = true := by simpa using hf
    generalize faultF n N A = z at *
    clear hf
    go_wp2
    go_ret
    exact ⟨by rw [HR.out]; rfl, B.out⟩

end Go.Proofs.Ytbdgnpjbmlcchaa
