/- The fault of a signature: what the document asks, and that the model's SignatureFault tells it. -/
import Derived.Test.YtbdgnpjbmlcchaaName
namespace Go.Proofs.Ytbdgnpjbmlcchaa
open Go.RowKit

/-- The first code of the first k symbols, one by one. -/
noncomputable def fb (N : Nat → ByteArray) (A : Nat → Int) : Nat → Int
  | 0 => 0
  | k + 1 => if fb N A k = 0 then oneF (N k) (A k) else fb N A k

def dup (n : Nat) (N : Nat → ByteArray) : Prop := ∃ i, i < n ∧ ∃ j, j < i ∧ N i = N j
def cons0 (n : Nat) (A : Nat → Int) : Prop := ∃ i, i < n ∧ A i = 0

open Classical in
/-- The fault of a signature. -/
noncomputable def faultF (n : Nat) (N : Nat → ByteArray) (A : Nat → Int) : Int :=
  if n < 1 ∨ 6 < n then 2 else if fb N A n = 0 then (if dup n N then 6 else if cons0 n A then 0 else 4) else fb N A n

theorem fb_stays {N : Nat → ByteArray} {A : Nat → Int} {k n : Nat} (h : fb N A k ≠ 0) (hk : k ≤ n) : fb N A n = fb N A k := by
  induction n with
  | zero => have : k = 0 := by omega
            subst this; rfl
  | succ m ih =>
    by_cases e : k = m + 1
    · rw [e]
    · have := ih (by omega)
      show (if fb N A m = 0 then _ else _) = _
      rw [if_neg (by rw [this]; exact h), this]

theorem fault_at {n : Nat} {N : Nat → ByteArray} {A : Nat → Int} {k : Nat} {c : Int} (hn : ¬ (n < 1 ∨ 6 < n)) (h : fb N A k = 0) (hk : k < n) (hc : oneF (N k) (A k) = c) (c0 : c ≠ 0) : faultF n N A = c := by
  have e : fb N A (k + 1) = c := by show (if fb N A k = 0 then _ else _) = _; rw [if_pos h, hc]
  have e2 := fb_stays (n := n) (by rw [e]; exact c0) hk
  rw [faultF, if_neg hn, e2, e, if_neg c0]

theorem fb_next {N : Nat → ByteArray} {A : Nat → Int} {k : Nat} (h : fb N A k = 0) (hc : oneF (N k) (A k) = 0) : fb N A (k + 1) = 0 := by
  show (if fb N A k = 0 then _ else _) = _; rw [if_pos h, hc]

theorem fault_dup {n : Nat} {N : Nat → ByteArray} {A : Nat → Int} (hn : ¬ (n < 1 ∨ 6 < n)) (h : fb N A n = 0) (hd : dup n N) : faultF n N A = 6 := by
  rw [faultF, if_neg hn, if_pos h, if_pos hd]
theorem fault_ok {n : Nat} {N : Nat → ByteArray} {A : Nat → Int} (hn : ¬ (n < 1 ∨ 6 < n)) (h : fb N A n = 0) (hd : ¬ dup n N) (hc : cons0 n A) : faultF n N A = 0 := by
  rw [faultF, if_neg hn, if_pos h, if_neg hd, if_pos hc]
theorem fault_none {n : Nat} {N : Nat → ByteArray} {A : Nat → Int} (hn : ¬ (n < 1 ∨ 6 < n)) (h : fb N A n = 0) (hd : ¬ dup n N) (hc : ¬ cons0 n A) : faultF n N A = 4 := by
  rw [faultF, if_neg hn, if_pos h, if_neg hd, if_neg hc]

theorem oneF_name {s : ByteArray} {x : Int} (h : nmB s = false) : oneF s x = 5 := by simp [oneF, h]
theorem oneF_range {s : ByteArray} {x : Int} (h : nmB s = true) (hx : ¬ (0 ≤ x ∧ x ≤ 2)) : oneF s x = 3 := by simp [oneF, h, hx]
theorem oneF_ok {s : ByteArray} {x : Int} (h : nmB s = true) (hx : 0 ≤ x ∧ x ≤ 2) : oneF s x = 0 := by simp [oneF, h, hx]

set_option maxRecDepth 20000 in
set_option maxHeartbeats 400000 in
theorem specFault_many (p : Option Addr) (n c : Nat) (w : World) (h : n < 1 ∨ 6 < n) (N : Nat → ByteArray) (A : Nat → Int) :
    Calls Try.prog 51 #[.agg #[.slice p n c]] w fun e w' => e = .returned (.int .i64 (faultF n N A)) ∧ Below w.heap.size w w' := by
  have HN := hidden (show faultF n N A = 2 by rw [faultF, if_pos h])
  by_cases h0 : n < 1
  · have h1 : (n : Int) < 1 := by omega
    go_enter Try.func51, Try.ntmps51
    go_wp2
    go_ret
    exact ⟨by rw [HN.out]; rfl, alloc_below _ _⟩
  · have h1 : decide ((n : Int) < 1) = false := by simp; omega
    have h2 : (6 : Int) < n := by omega
    go_enter Try.func51, Try.ntmps51
    go_wp2
    go_ret
    exact ⟨by rw [HN.out]; rfl, alloc_below _ _⟩

set_option maxRecDepth 20000 in
set_option maxHeartbeats 1600000 in
theorem specFault_any (b off n c : Nat) (N : Nat → ByteArray) (A : Nat → Int) (w : World) (h : Syms w b off n N A) (hk : Kept n N A) (hn : ¬ (n < 1 ∨ 6 < n)) :
    Calls Try.prog 51 #[.agg #[.slice (some ⟨b, off, none⟩) n c]] w fun e w' => e = .returned (.int .i64 (faultF n N A)) ∧ Below w.heap.size w w' := by
  have HN := hidden hn
  have h1 : decide ((n : Int) < 1) = false := by simp; omega
  have h2 : ¬ (6 : Int) < n := by omega
  have h6 : n ≤ 6 := by omega
  have HS := hidden hk.short
  clear hn hk
  go_enter Try.func51, Try.ntmps51
  go_wp2
  go_loopw [4] (fun i wr => ∃ k : Nat, k ≤ n ∧ i = .int .i64 k ∧ Hid (fb N A k = 0) ∧ Hid (One wr w.heap.size (.slice (some ⟨b, off, none⟩) n c) ∧ Below w.heap.size w wr)) (fun i _ => n - (intOf i).toNat)
  case atStart => exact ⟨0, Nat.zero_le _, rfl, hidden rfl, hidden ⟨One.new _ _ _, alloc_below _ _⟩⟩
  case round =>
    obtain ⟨k, hk, rfl, HF, HI⟩ := hrel
    by_cases hlt : k < n
    · have hs := h.later HI.out.2 h.blk
      have c1 := hs.name k hlt
      have c2 := hs.arity k hlt
      have d0 := HI.out.1.c0
      go_wp2_with fail
      refine (l2Name_any _ _ (HS.out k hlt)).mono ?_
      rintro e w1 ⟨rfl, hb⟩
      have O1 := hidden (HI.out.1.keep hb)
      have B1 := hidden (keepB HI.out.2 hb)
      have Q1 := hidden (hs.keep hb)
      clear hs c1 c2 d0 hb HI
      generalize hB : nmB (N k) = nb
      cases nb
      · have HR := hidden (fault_at HN.out HF.out hlt (oneF_name hB) (by decide))
        go_wp2
        go_ret
        exact ⟨by rw [HR.out]; rfl, B1.out⟩
      · have c2 := Q1.out.arity k hlt
        have d0 := O1.out.c0
        have HB := hidden hB
        clear hB
        go_wp2_with fail
        refine (l1In_any _ _ _ _).mono ?_
        rintro e w2 ⟨rfl, hb⟩
        have O2 := hidden (O1.out.keep hb)
        have B2 := hidden (keepB B1.out hb)
        clear hb O1 B1 Q1 c2 d0
        by_cases hx : 0 ≤ A k ∧ A k ≤ 2
        · have HR := hidden (fb_next HF.out (oneF_ok HB.out hx))
          have e1 : decide (0 ≤ A k ∧ A k ≤ 2) = true := by simpa using hx
          rw [e1]
          clear e1 hx
          go_wp2
          go_roundw
          case rel => exact ⟨k + 1, by omega, by go_num, HR, hidden ⟨O2.out, B2.out⟩⟩
          case measure => simp [intOf]; omega
        · have HR := hidden (fault_at HN.out HF.out hlt (oneF_range HB.out hx) (by decide))
          have e1 : decide (0 ≤ A k ∧ A k ≤ 2) = false := by simpa using hx
          rw [e1]
          clear e1 hx
          go_wp2
          go_ret
          exact ⟨by rw [HR.out]; rfl, B2.out⟩
    · obtain rfl : n = k := by omega
      clear hlt hk
      have O0 := HI.out.1
      have d0 := O0.c0
      clear O0
      go_wp2
      go_loopw [5] (fun i w2 => ∃ k : Nat, k ≤ n ∧ i = .int .i64 k ∧ Hid (¬ dup k N) ∧ Hid (One w2 w.heap.size (.slice (some ⟨b, off, none⟩) n c) ∧ Below w.heap.size w w2)) (fun i _ => n - (intOf i).toNat)
      case atStart => exact ⟨0, Nat.zero_le _, rfl, hidden (fun ⟨i, hi, _⟩ => by omega), HI⟩
      case round =>
        rename World => w2
        obtain ⟨k, hk, rfl, HD, HI2⟩ := hrel
        clear d0
        by_cases hlt : k < n
        · go_wp2
          go_loopw [6] (fun j w3 => ∃ m : Nat, m ≤ k ∧ j = .int .i64 m ∧ Hid (∀ j, j < m → N k ≠ N j) ∧ Hid (One w3 w.heap.size (.slice (some ⟨b, off, none⟩) n c) ∧ Below w.heap.size w w3)) (fun j _ => k - (intOf j).toNat)
          case atStart => exact ⟨0, Nat.zero_le _, rfl, hidden (fun j hj => by omega), HI2⟩
          case round =>
            rename World => w3
            obtain ⟨m, hm, rfl, HE, HI3⟩ := hrel
            by_cases hml : m < k
            · have hs := h.later HI3.out.2 h.blk
              have c1 := hs.name k hlt
              have c2 := hs.name m (by omega)
              have d0 := HI3.out.1.c0
              clear hs
              by_cases he : N k = N m
              · have HR := hidden (fault_dup HN.out HF.out ⟨k, hlt, m, hml, he⟩)
                rw [← he] at c2
                clear he
                go_wp2
                go_quiet (fail)
                go_wp2
                go_ret
                exact ⟨by rw [HR.out]; rfl, below_drewN HI3.out.2 _⟩
              · have HR := hidden he
                have he' := bne_bytes he
                clear he
                go_wp2
                go_quiet (fail)
                go_wp2
                go_roundw
                case rel => exact ⟨m + 1, by omega, by go_num, hidden (fun j hj => by
                  by_cases e : j = m
                  · rw [e]; exact HR.out
                  · exact HE.out j (by omega)), hidden ⟨HI3.out.1.keep (below_drewN (Below.refl _ _) _), below_drewN HI3.out.2 _⟩⟩
                case measure => simp [intOf]; omega
            · obtain rfl : m = k := by omega
              go_wp2
              go_roundw
              case rel => exact ⟨m + 1, by omega, by go_num, hidden (fun ⟨i, hi, j, hj, e⟩ => by
                by_cases ei : i = m
                · subst ei; exact HE.out j hj e
                · exact HD.out ⟨i, by omega, j, hj, e⟩), HI3⟩
              case measure => simp [intOf]; omega
        · obtain rfl : n = k := by omega
          clear hlt hk
          go_wp2
          go_loopw [7] (fun i w3 => ∃ k : Nat, k ≤ n ∧ i = .int .i64 k ∧ Hid (∀ i, i < k → A i ≠ 0) ∧ Hid (One w3 w.heap.size (.slice (some ⟨b, off, none⟩) n c) ∧ Below w.heap.size w w3)) (fun i _ => n - (intOf i).toNat)
          case atStart => exact ⟨0, Nat.zero_le _, rfl, hidden (fun i hi => by omega), HI2⟩
          case round =>
            rename World => w3
            obtain ⟨k, hk, rfl, HE, HI3⟩ := hrel
            by_cases hlt : k < n
            · have hs := h.later HI3.out.2 h.blk
              have c1 := hs.arity k hlt
              have d0 := HI3.out.1.c0
              clear hs
              by_cases he : A k = 0
              · have HR := hidden (fault_ok HN.out HF.out HD.out ⟨k, hlt, he⟩)
                rw [he] at c1
                go_wp2
                go_ret
                exact ⟨by rw [HR.out]; rfl, HI3.out.2⟩
              · have he' : (A k == 0) = false := by rw [beq_eq_false_iff_ne]; exact he
                have HR := hidden he
                clear he
                go_wp2
                go_roundw
                case rel => exact ⟨k + 1, by omega, by go_num, hidden (fun j hj => by
                  by_cases e : j = k
                  · rw [e]; exact HR.out
                  · exact HE.out j (by omega)), HI3⟩
                case measure => simp [intOf]; omega
            · obtain rfl : n = k := by omega
              have HR := hidden (fault_none HN.out HF.out HD.out (fun ⟨i, hi, e⟩ => HE.out i hi e))
              go_wp2
              go_ret
              exact ⟨by rw [HR.out]; rfl, HI3.out.2⟩

end Go.Proofs.Ytbdgnpjbmlcchaa
