/- Plain facts on lists of bytes: the order of bytes, what begins with what; no program in it. -/
import Derived.Laws.BytesArg
import Derived.Lib.Bytealg
import Derived.Lib.Bytes
namespace Go.Proofs.Ytjjpkhlbokfjpaa.Byt

/-- The order of bytes: -1, 0 or 1. -/
def ordL : List Int → List Int → Int
  | [], [] => 0
  | [], _ :: _ => -1
  | _ :: _, [] => 1
  | a :: as, b :: bs => if a < b then -1 else if b < a then 1 else ordL as bs

theorem drop_at (l : List Int) (k : Nat) (h : k < l.length) : l.drop k = l.getD k 0 :: l.drop (k + 1) := by
  rw [List.drop_eq_getElem_cons h]
  simp [List.getD_eq_getElem?_getD, List.getElem?_eq_getElem h]

theorem ordL_lt (a b : List Int) (k : Nat) (ha : k < a.length) (hb : k < b.length) (h : a.getD k 0 < b.getD k 0) : ordL (a.drop k) (b.drop k) = -1 := by
  rw [drop_at a k ha, drop_at b k hb, ordL, if_pos h]

theorem ordL_gt (a b : List Int) (k : Nat) (ha : k < a.length) (hb : k < b.length) (h : b.getD k 0 < a.getD k 0) : ordL (a.drop k) (b.drop k) = 1 := by
  rw [drop_at a k ha, drop_at b k hb, ordL, if_neg (by omega), if_pos h]

theorem ordL_same (a b : List Int) (k : Nat) (ha : k < a.length) (hb : k < b.length) (h1 : ¬ a.getD k 0 < b.getD k 0) (h2 : ¬ b.getD k 0 < a.getD k 0) : ordL (a.drop k) (b.drop k) = ordL (a.drop (k + 1)) (b.drop (k + 1)) := by
  rw [drop_at a k ha, drop_at b k hb, ordL, if_neg h1, if_neg h2]

theorem ordL_end (a b : List Int) (k : Nat) (h : a.length ≤ k ∨ b.length ≤ k) (ha : k ≤ a.length) (hb : k ≤ b.length) :
    ordL (a.drop k) (b.drop k) = if a.length < b.length then -1 else if b.length < a.length then 1 else 0 := by
  rcases Nat.lt_trichotomy a.length b.length with hl | hl | hl
  · rw [if_pos hl, List.drop_eq_nil_of_le (as := a) (by omega), drop_at b k (by omega), ordL]
  · rw [if_neg (by omega), if_neg (by omega), List.drop_eq_nil_of_le (as := a) (by omega), List.drop_eq_nil_of_le (as := b) (by omega), ordL]
  · rw [if_neg (by omega), if_pos hl, List.drop_eq_nil_of_le (as := b) (by omega), drop_at a k (by omega), ordL]

def Byt (l : List Int) : Prop := ∀ x, x ∈ l → 0 ≤ x ∧ x ≤ 255

theorem byt_of (l : List Int) (h : ∀ i, 0 ≤ l.getD i 0 ∧ l.getD i 0 ≤ 255) : Byt l := by
  intro x hx
  obtain ⟨i, hi, rfl⟩ := List.getElem_of_mem hx
  have := h i
  simpa [List.getD_eq_getElem?_getD, List.getElem?_eq_getElem hi] using this

theorem u8_lt (a b : Int) (ha : 0 ≤ a ∧ a ≤ 255) (hb : 0 ≤ b ∧ b ≤ 255) : (UInt8.ofNat a.toNat < UInt8.ofNat b.toNat) ↔ a < b := by
  rw [UInt8.lt_iff_toNat_lt]
  have h1 : (UInt8.ofNat a.toNat).toNat = a.toNat := by simp; omega
  have h2 : (UInt8.ofNat b.toNat).toNat = b.toNat := by simp; omega
  rw [h1, h2]
  omega

theorem cmp_ordL : ∀ (a b : List Int), Byt a → Byt b → Lib.compareBytes (Lib.bytesOf a) (Lib.bytesOf b) = ordL a b
  | [], [], _, _ => by simp [Lib.bytesOf, Lib.compareBytes, ordL]
  | [], _ :: _, _, _ => by simp [Lib.bytesOf, Lib.compareBytes, ordL]
  | _ :: _, [], _, _ => by simp [Lib.bytesOf, Lib.compareBytes, ordL]
  | a :: as, b :: bs, ha, hb => by
    have ih := cmp_ordL as bs (fun x hx => ha x (List.mem_cons_of_mem _ hx)) (fun x hx => hb x (List.mem_cons_of_mem _ hx))
    have a0 := ha a List.mem_cons_self
    have b0 := hb b List.mem_cons_self
    have e1 := u8_lt a b a0 b0
    have e2 := u8_lt b a b0 a0
    simp only [Lib.bytesOf, List.map_cons, Lib.compareBytes, ordL] at ih ⊢
    by_cases h1 : a < b
    · rw [if_pos h1, if_pos (e1.2 h1)]
    · rw [if_neg h1, if_neg (fun h => h1 (e1.1 h))]
      by_cases h2 : b < a
      · rw [if_pos h2, if_pos (e2.2 h2)]
      · rw [if_neg h2, if_neg (fun h => h2 (e2.1 h))]
        exact ih

theorem bytesOf_inj : ∀ (a b : List Int), Byt a → Byt b → Lib.bytesOf a = Lib.bytesOf b → a = b
  | [], [], _, _, _ => rfl
  | [], _ :: _, _, _, h => by simp [Lib.bytesOf] at h
  | _ :: _, [], _, _, h => by simp [Lib.bytesOf] at h
  | a :: as, b :: bs, ha, hb, h => by
    simp only [Lib.bytesOf, List.map_cons, List.cons.injEq] at h
    have ih := bytesOf_inj as bs (fun x hx => ha x (List.mem_cons_of_mem _ hx)) (fun x hx => hb x (List.mem_cons_of_mem _ hx)) h.2
    have a0 := ha a List.mem_cons_self
    have b0 := hb b List.mem_cons_self
    have e := congrArg UInt8.toNat h.1
    have h1 : (UInt8.ofNat a.toNat).toNat = a.toNat := by simp; omega
    have h2 : (UInt8.ofNat b.toNat).toNat = b.toNat := by simp; omega
    rw [h1, h2] at e
    rw [ih, show a = b by omega]

/-- What begins with what. -/
def begB (a h : List Int) : Bool := decide (h.length ≤ a.length) && decide (a.take h.length = h)

theorem begB_less (a h : List Int) (hl : a.length < h.length) : begB a h = false := by simp [begB]; omega

theorem begB_part (a h : List Int) (k : Nat) (hh : k < h.length) (hne : ¬ a.getD k 0 = h.getD k 0) : begB a h = false := by
  have e : ¬ a.take h.length = h := by
    intro e
    apply hne
    rw [← e]
    simp [List.getD_eq_getElem?_getD, hh]
  simp [begB, e]

theorem begB_all (a h : List Int) (hl : h.length ≤ a.length) (he : a.take h.length = h) : begB a h = true := by simp [begB, hl, he]

theorem take_same (a h : List Int) (k : Nat) (ha : k < a.length) (hh : k < h.length) (e : a.take k = h.take k) (hx : a.getD k 0 = h.getD k 0) : a.take (k + 1) = h.take (k + 1) := by
  rw [List.take_succ_eq_append_getElem ha, List.take_succ_eq_append_getElem hh, e]
  simp only [List.getD_eq_getElem?_getD, List.getElem?_eq_getElem ha, List.getElem?_eq_getElem hh, Option.getD_some] at hx
  rw [hx]

end Go.Proofs.Ytjjpkhlbokfjpaa.Byt
