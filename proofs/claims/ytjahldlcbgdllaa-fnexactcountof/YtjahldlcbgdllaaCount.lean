/- Contracts: how many nodes are a given one: CountOf, as the model and as the program tells it. -/
import Derived.Test.YtjahldlcbgdllaaTermF
namespace Go.Proofs.Ytjahldlcbgdllaa
open Go.RowKit

/-- How many of the first k nodes are x. -/
def cntN (T : Nat → Int) (x : Int) : Nat → Nat
  | 0 => 0
  | k + 1 => cntN T x k + (if T k = x then 1 else 0)

theorem cnt_le (T : Nat → Int) (x : Int) : ∀ k, cntN T x k ≤ k
  | 0 => Nat.le_refl _
  | k + 1 => by have := cnt_le T x k; simp only [cntN]; split <;> omega

noncomputable def ctC (n : Nat) (N : Nat → ByteArray) (A : Nat → Int) (m : Nat) (T : Nat → Int) (x : Int) : Int := if termF n N A m T = 0 then (if nodeB x n = true then 0 else 3) else termF n N A m T
noncomputable def ctV (n : Nat) (N : Nat → ByteArray) (A : Nat → Int) (m : Nat) (T : Nat → Int) (x : Int) : Int := if termF n N A m T = 0 ∧ nodeB x n = true then (cntN T x m : Int) else 0

section
variable {n : Nat} {N : Nat → ByteArray} {A : Nat → Int} {m : Nat} {T : Nat → Int} {x : Int}
theorem ct_fault (h : termF n N A m T ≠ 0) : ctC n N A m T x = termF n N A m T ∧ ctV n N A m T x = 0 := by simp [ctC, ctV, h]
theorem ct_range (h : termF n N A m T = 0) (hx : nodeB x n = false) : ctC n N A m T x = 3 ∧ ctV n N A m T x = 0 := by simp [ctC, ctV, h, hx]
theorem ct_ok (h : termF n N A m T = 0) (hx : nodeB x n = true) : ctC n N A m T x = 0 ∧ ctV n N A m T x = (cntN T x m : Int) := by simp [ctC, ctV, h, hx]
end

set_option maxHeartbeats 400000 in
theorem l3Count_any (b off m c : Nat) (T : Nat → Int) (x : Int) (w : World) (h : Ints w b off m T) (hm : m ≤ 1048576) :
    Calls Try.prog 70 #[.slice (some ⟨b, off, none⟩) m c, .int .i64 x] w fun e w' => e = .returned (.int .i64 (cntN T x m)) ∧ Below w.heap.size w w' := by
  go_enter Try.func70, Try.ntmps70
  go_wp2
  go_loopw [5, 6] (fun z i wr => ∃ k r : Nat, k ≤ m ∧ i = .int .i64 k ∧ z = .int .i64 r ∧ r ≤ k ∧ Hid (r = cntN T x k) ∧ ∃ q, wr = w.drewN q) (fun _ i _ => m - (intOf i).toNat)
  case atStart => exact ⟨0, 0, Nat.zero_le _, rfl, rfl, Nat.zero_le _, hidden rfl, 0, rfl⟩
  case round =>
    obtain ⟨k, r, hk, rfl, rfl, hr, HE, q, rfl⟩ := hrel
    by_cases hlt : k < m
    · have c1 := h.cell k hlt
      by_cases he : T k = x
      · have HR := hidden (show r + 1 = cntN T x (k + 1) by simp only [cntN, if_pos he]; rw [HE.out])
        rw [he] at c1
        clear he HE
        go_wp2
        go_roundw
        case rel => exact ⟨k + 1, r + 1, by omega, by go_num, by go_num, by omega, HR, _, rfl⟩
        case measure => simp [intOf]; omega
      · have he' : (T k == x) = false := by simpa using he
        have HR := hidden (show r = cntN T x (k + 1) by simp only [cntN, if_neg he]; rw [HE.out]; rfl)
        clear he HE
        go_wp2
        go_roundw
        case rel => exact ⟨k + 1, r, by omega, by go_num, rfl, by omega, HR, _, rfl⟩
        case measure => simp [intOf]; omega
    · obtain rfl : m = k := by omega
      go_wp2
      go_ret
      exact ⟨by rw [← HE.out]; rfl, below_drewN (Below.refl _ _) _⟩

set_option maxRecDepth 20000 in
set_option maxHeartbeats 1600000 in
theorem specCount_any (b off n c b' off' m c' : Nat) (N : Nat → ByteArray) (A T : Nat → Int) (x : Int) (w : World) (h : Syms w b off n N A) (h' : Ints w b' off' m T) (hk : Kept n N A) (hm : m ≤ 1048576) :
    Calls Try.prog 40 #[.agg #[.slice (some ⟨b, off, none⟩) n c], .slice (some ⟨b', off', none⟩) m c', .int .i64 x] w fun e w' => e = .returned (.agg #[.int .i64 (ctC n N A m T x), .int .i64 (ctV n N A m T x)]) ∧ Below w.heap.size w w' := by
  have D := hidden ((One.new w (.slice (some ⟨b, off, none⟩) n c) 30).keep (alloc_below _ (.cells #[.int .i64 0, .int .i64 0] 38)))
  have R := hidden (Res.new (w.alloc (.cells #[.slice (some ⟨b, off, none⟩) n c] 30)) (.int .i64 0) (.int .i64 0) 38)
  have B := hidden (keepB (alloc_below w (.cells #[.slice (some ⟨b, off, none⟩) n c] 30)) (alloc_below _ (.cells #[.int .i64 0, .int .i64 0] 38)))
  have Q := hidden (h.keep B.out)
  have I := hidden (h'.keep B.out)
  have HK := hidden hk
  rw [World.size_alloc] at R
  clear h h' hk
  go_enter Try.func40, Try.ntmps40
  go_wp2_with fail
  with_reducible refine (specTerm_any _ _ _ _ _ _ _ _ N A T _ Q.out I.out HK.out hm).mono ?_
  rintro e w1 ⟨rfl, hb⟩
  replace D := hidden (D.out.keep hb)
  replace R := hidden (R.out.keep hb)
  replace B := hidden (keepB B.out hb)
  replace I := hidden (I.out.keep hb)
  clear hb Q
  by_cases hf : termF n N A m T = 0
  · have HF := hidden hf
    rw [hf]
    clear hf
    go_wp2_with fail
    with_reducible refine (l3Node_any _ _ _ _ _ _ D.out HK.out.most).mono ?_
    rintro e w2 ⟨rfl, hb⟩
    replace R := hidden (R.out.keep hb)
    replace B := hidden (keepB B.out hb)
    replace I := hidden (I.out.keep hb)
    clear hb D
    generalize hx : nodeB x n = ib
    cases ib
    · have HA := hidden (ct_range HF.out hx)
      clear hx
      obtain ⟨_, q0, q1, f0, f1⟩ := id R.out
      go_wp2
      exact bodyPost_ret (v := .agg #[.int .i64 3, .int .i64 0]) (by simp [results, Try.results40, go_sem, q0, q1]) rfl ⟨by rw [HA.out.1, HA.out.2], (B.out.setCell (by simp) _).setCell (by simp) _⟩
    · have HA := hidden (ct_ok HF.out hx)
      clear hx
      go_wp2_with fail
      with_reducible refine (l3Count_any _ _ _ _ T x _ I.out hm).mono ?_
      rintro e2 w3 ⟨rfl, hb⟩
      replace R := hidden (R.out.keep hb)
      replace B := hidden (keepB B.out hb)
      clear hb I
      generalize cntN T x m = k at *
      obtain ⟨_, q0, q1, f0, f1⟩ := id R.out
      go_wp2
      exact bodyPost_ret (v := .agg #[.int .i64 0, .int .i64 (k : Int)]) (by simp [results, Try.results40, go_sem, q0, q1]) rfl ⟨by rw [HA.out.1, HA.out.2], (B.out.setCell (by simp) _).setCell (by simp) _⟩
  · have HA := hidden (ct_fault (x := x) hf)
    have hf' : (termF n N A m T != 0) = true := by simpa using hf
    generalize termF n N A m T = z at *
    clear hf
    obtain ⟨_, q0, q1, f0, f1⟩ := id R.out
    go_wp2
    exact bodyPost_ret (v := .agg #[.int .i64 z, .int .i64 0]) (by simp [results, Try.results40, go_sem, q0, q1]) rfl ⟨by rw [HA.out.1, HA.out.2], (B.out.setCell (by simp) _).setCell (by simp) _⟩

set_option maxRecDepth 20000 in
set_option maxHeartbeats 1600000 in
theorem implCount_any (b off n c b' off' m c' : Nat) (N : Nat → ByteArray) (A T : Nat → Int) (x : Int) (w : World) (h : Syms w b off n N A) (h' : Ints w b' off' m T) (hk : Kept n N A) (hm : m ≤ 1048576) :
    Calls Try.prog 41 #[.agg #[.slice (some ⟨b, off, none⟩) n c], .slice (some ⟨b', off', none⟩) m c', .int .i64 x] w fun e w' => e = .returned (.agg #[.int .i64 (ctC n N A m T x), .int .i64 (ctV n N A m T x)]) ∧ Below w.heap.size w w' := by
  have D := hidden ((One.new w (.slice (some ⟨b, off, none⟩) n c) 30).keep (alloc_below _ (.cells #[.int .i64 0, .int .i64 0] 38)))
  have R := hidden (Res.new (w.alloc (.cells #[.slice (some ⟨b, off, none⟩) n c] 30)) (.int .i64 0) (.int .i64 0) 38)
  have B := hidden (keepB (alloc_below w (.cells #[.slice (some ⟨b, off, none⟩) n c] 30)) (alloc_below _ (.cells #[.int .i64 0, .int .i64 0] 38)))
  have Q := hidden (h.keep B.out)
  have I := hidden (h'.keep B.out)
  have HK := hidden hk
  rw [World.size_alloc] at R
  clear h h' hk
  go_enter Try.func41, Try.ntmps41
  go_wp2_with fail
  with_reducible refine (implTerm_any _ _ _ _ _ _ _ _ N A T _ Q.out I.out HK.out hm).mono ?_
  rintro e w1 ⟨rfl, hb⟩
  replace D := hidden (D.out.keep hb)
  replace R := hidden (R.out.keep hb)
  replace B := hidden (keepB B.out hb)
  replace I := hidden (I.out.keep hb)
  clear hb Q
  by_cases hf : termF n N A m T = 0
  · have HF := hidden hf
    rw [hf]
    clear hf
    have d0 := D.out.c0
    go_wp2_with fail
    with_reducible refine (isNode_any _ _ _ _ _).mono ?_
    rintro e w2 ⟨rfl, hb⟩
    clear d0
    replace R := hidden (R.out.keep hb)
    replace B := hidden (keepB B.out hb)
    replace I := hidden (I.out.keep hb)
    clear hb D
    generalize hx : nodeB x n = ib
    cases ib
    · have HA := hidden (ct_range HF.out hx)
      clear hx
      obtain ⟨_, q0, q1, f0, f1⟩ := id R.out
      go_wp2
      exact bodyPost_ret (v := .agg #[.int .i64 3, .int .i64 0]) (by simp [results, Try.results41, go_sem, q0, q1]) rfl ⟨by rw [HA.out.1, HA.out.2], (B.out.setCell (by simp) _).setCell (by simp) _⟩
    · have HA := hidden (ct_ok HF.out hx)
      clear hx
      have hm24 := (term_right HF.out).nods.most
      go_wp2
      go_loopw [8, 25] (fun z i wr => ∃ k r : Nat, k ≤ m ∧ i = .int .i64 k ∧ z = .int .i64 r ∧ r ≤ k ∧ Hid (r = cntN T x k) ∧ ∃ q, wr = w2.drewN q) (fun _ i _ => m - (intOf i).toNat)
      case atStart => exact ⟨0, 0, Nat.zero_le _, rfl, rfl, Nat.zero_le _, hidden rfl, 0, rfl⟩
      case round =>
        obtain ⟨k, r, hk, rfl, rfl, hr, HE, q, rfl⟩ := hrel
        by_cases hlt : k < m
        · have c1 := I.out.cell k hlt
          by_cases he : T k = x
          · have HR := hidden (show r + 1 = cntN T x (k + 1) by simp only [cntN, if_pos he]; rw [HE.out])
            rw [he] at c1
            clear he HE
            go_wp2
            go_roundw
            case rel => exact ⟨k + 1, r + 1, by omega, by go_num, by go_num, by omega, HR, _, rfl⟩
            case measure => simp [intOf]; omega
          · have he' : (T k == x) = false := by simpa using he
            have HR := hidden (show r = cntN T x (k + 1) by simp only [cntN, if_neg he]; rw [HE.out]; rfl)
            clear he HE
            go_wp2
            go_roundw
            case rel => exact ⟨k + 1, r, by omega, by go_num, rfl, by omega, HR, _, rfl⟩
            case measure => simp [intOf]; omega
        · obtain rfl : m = k := by omega
          replace R := hidden (R.out.keep (below_drewN (Below.refl _ _) q))
          replace B := hidden (below_drewN B.out q)
          rw [← HE.out] at HA
          obtain ⟨_, q0, q1, f0, f1⟩ := id R.out
          go_wp2
          exact bodyPost_ret (v := .agg #[.int .i64 0, .int .i64 (r : Int)]) (by simp [results, Try.results41, go_sem, q0, q1]) rfl ⟨by rw [HA.out.1, HA.out.2], (B.out.setCell (by simp) _).setCell (by simp) _⟩
  · have HA := hidden (ct_fault (x := x) hf)
    have hf' : (termF n N A m T != 0) = true := by simpa using hf
    generalize termF n N A m T = z at *
    clear hf
    obtain ⟨_, q0, q1, f0, f1⟩ := id R.out
    go_wp2
    exact bodyPost_ret (v := .agg #[.int .i64 z, .int .i64 0]) (by simp [results, Try.results41, go_sem, q0, q1]) rfl ⟨by rw [HA.out.1, HA.out.2], (B.out.setCell (by simp) _).setCell (by simp) _⟩

end Go.Proofs.Ytjahldlcbgdllaa
