/- Plain facts on decimal numerals: a number is read back from its digits, and has one text alone; no program in it. -/
import Derived.Lib.ItoaMem
import Derived.Lib.ParseIntB
namespace Go.Proofs.YtcjpmpbepmjgkaaDoor

def valA (a : Nat) (l : List UInt8) : Nat := l.foldl (fun n c => n * 10 + (c.toNat - 48)) a
def isDig (c : UInt8) : Prop := 48 ≤ c.toNat ∧ c.toNat ≤ 57

theorem valA_append (a : Nat) (l : List UInt8) (c : UInt8) : valA a (l ++ [c]) = valA a l * 10 + (c.toNat - 48) := by simp [valA]
theorem valA_ge : ∀ (l : List UInt8) (a : Nat), a ≤ valA a l
  | [], a => Nat.le_refl a
  | c :: r, a => by
    have := valA_ge r (a * 10 + (c.toNat - 48))
    show a ≤ valA (a * 10 + (c.toNat - 48)) r
    omega

theorem dig_toNat (k : Nat) (h : k < 10) : (UInt8.ofNat (48 + k)).toNat = 48 + k := by simp; omega

theorem nDigits_le' : ∀ (k u : Nat), u < 10 ^ (k + 1) → Lib.nDigits u ≤ k + 1
  | 0, u, h => by rw [Lib.nDigits, dif_pos (by simpa using h)]; exact Nat.le_refl _
  | k + 1, u, h => by
    rw [Lib.nDigits]
    split
    · omega
    · have := nDigits_le' k (u / 10) (by rw [Nat.pow_succ] at h; omega)
      omega

theorem dec_all : ∀ (m u : Nat), u ≤ m → valA 0 (Lib.decDigits u) = u ∧ ∀ c ∈ Lib.decDigits u, isDig c := by
  intro m
  induction m with
  | zero =>
    intro u hu
    obtain rfl : u = 0 := by omega
    rw [Lib.decDigits_one (by omega)]
    exact ⟨rfl, by intro c hc; simp at hc; subst hc; unfold isDig; decide⟩
  | succ m ih =>
    intro u hu
    by_cases h : u < 10
    · rw [Lib.decDigits_one h]
      refine ⟨?_, ?_⟩
      · show 0 * 10 + ((UInt8.ofNat (48 + u)).toNat - 48) = u
        rw [dig_toNat u h]; omega
      · intro c hc
        simp only [List.mem_singleton] at hc
        subst hc
        unfold isDig
        rw [dig_toNat u h]; omega
    · have e : Lib.decDigits u = Lib.decDigits (u / 10) ++ [UInt8.ofNat (48 + u % 10)] := by rw [Lib.decDigits, dif_neg h]
      obtain ⟨h1, h2⟩ := ih (u / 10) (by omega)
      rw [e]
      refine ⟨?_, ?_⟩
      · rw [valA_append, h1, dig_toNat _ (by omega)]; omega
      · intro c hc
        rcases List.mem_append.1 hc with hc | hc
        · exact h2 c hc
        · simp only [List.mem_singleton] at hc
          subst hc
          unfold isDig
          rw [dig_toNat _ (by omega)]; omega

theorem val_dec (u : Nat) : valA 0 (Lib.decDigits u) = u := (dec_all u u (Nat.le_refl _)).1
theorem dig_dec (u : Nat) : ∀ c ∈ Lib.decDigits u, isDig c := (dec_all u u (Nat.le_refl _)).2
theorem len_dec (u : Nat) (h : u ≤ 999999) : 1 ≤ (Lib.decDigits u).length ∧ (Lib.decDigits u).length ≤ 6 := by
  rw [Lib.decDigits_length]
  exact ⟨Lib.nDigits_pos u, nDigits_le' 5 u (by omega)⟩

/-- The texts that are numbers' texts. -/
def isNum (l : List UInt8) : Prop := Lib.decDigits (valA 0 l) = l ∧ valA 0 l ≤ 999999

theorem isNum_dec (u : Nat) (h : u ≤ 999999) : isNum (Lib.decDigits u) := by
  unfold isNum
  rw [val_dec]
  exact ⟨rfl, h⟩

theorem isNum_len {l : List UInt8} (h : isNum l) : 1 ≤ l.length ∧ l.length ≤ 6 := by
  have := len_dec _ h.2
  rw [h.1] at this
  exact this

theorem isNum_dig {l : List UInt8} (h : isNum l) : ∀ c ∈ l, isDig c := by
  have := dig_dec (valA 0 l)
  rw [h.1] at this
  exact this

theorem parseM_ok (M : Nat) (hM : 999999 ≤ M) : ∀ (l : List UInt8) (a : Nat), (∀ c ∈ l, isDig c) → valA a l ≤ 999999 → Lib.parseUintM M a l = .ok (valA a l)
  | [], a, _, _ => rfl
  | c :: r, a, hd, hv => by
    have hc := hd c List.mem_cons_self
    have hg := valA_ge r (a * 10 + (c.toNat - 48))
    have hv' : valA (a * 10 + (c.toNat - 48)) r ≤ 999999 := hv
    have ih := parseM_ok M hM r (a * 10 + (c.toNat - 48)) (fun x hx => hd x (List.mem_cons_of_mem _ hx)) hv'
    unfold Lib.parseUintM
    rw [if_pos (show 48 ≤ c.toNat ∧ c.toNat ≤ 57 from hc), if_neg (by omega), if_neg (by omega)]
    exact ih

theorem parse_num {l : List UInt8} (h : isNum l) : Lib.parseIntB 64 l = .ok (valA 0 l : Int) := by
  have hlen := isNum_len h
  have hd := isNum_dig h
  have hv := h.2
  match l, hlen, hd, hv with
  | c :: r, _, hd, hv =>
    have hc := hd c List.mem_cons_self
    have hp := parseM_ok (2 ^ 64 - 1) (by omega) (c :: r) 0 hd hv
    have h43 : ¬ (c.toNat = 43 ∨ c.toNat = 45) := by unfold isDig at hc; omega
    have h45 : ¬ c.toNat = 45 := by unfold isDig at hc; omega
    have hu : Lib.parseUintB 64 (c :: r) = .ok (valA 0 (c :: r)) := by
      unfold Lib.parseUintB
      rw [if_neg (by simp)]
      exact hp
    generalize valA 0 (c :: r) = u at *
    unfold Lib.parseIntB
    simp only [if_neg h43, hu]
    rw [if_neg (by omega), if_neg (by omega), if_neg h45]

theorem val_less : ∀ (l : List UInt8) (a : Nat), (∀ c ∈ l, isDig c) → valA a l < (a + 1) * 10 ^ l.length
  | [], a, _ => by simp [valA]
  | c :: r, a, hd => by
    have hc := hd c List.mem_cons_self
    have ih := val_less r (a * 10 + (c.toNat - 48)) (fun x hx => hd x (List.mem_cons_of_mem _ hx))
    have hm : (a * 10 + (c.toNat - 48) + 1) * 10 ^ r.length ≤ ((a + 1) * 10) * 10 ^ r.length := Nat.mul_le_mul_right _ (by unfold isDig at hc; omega)
    rw [List.length_cons, Nat.pow_succ, Nat.mul_comm (10 ^ r.length) 10, ← Nat.mul_assoc]
    exact Nat.lt_of_lt_of_le ih hm

theorem val_small (l : List UInt8) (hd : ∀ c ∈ l, isDig c) (hl : l.length ≤ 6) : valA 0 l ≤ 999999 := by
  have h1 := val_less l 0 hd
  have h2 : 10 ^ l.length ≤ 10 ^ 6 := Nat.pow_le_pow_right (by omega) hl
  omega

end Go.Proofs.YtcjpmpbepmjgkaaDoor
