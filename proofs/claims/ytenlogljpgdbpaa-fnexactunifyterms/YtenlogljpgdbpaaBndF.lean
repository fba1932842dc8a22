/- Contracts: the fault of a binding, as the model and as the program tells it. -/
import Derived.Test.YtenlogljpgdbpaaBnd
namespace Go.Proofs.Ytenlogljpgdbpaa
open Go.RowKit

theorem wrap_sm (x : Int) (h0 : 0 ≤ x) (h : x < 100000000000000) : IntKind.i64.wrap x = x := by
  have e : x % 2 ^ 64 = x := Int.emod_eq_of_lt (by omega) (by omega)
  simp only [IntKind.wrap, IntKind.bits, IntKind.signed, e]
  rw [if_neg]
  simp; omega

open Classical in
/-- Whether the first m numbers rise. -/
noncomputable def riseB (m : Nat) (V : Nat → Int) : Bool := decide (∀ i, i + 1 < m → V i < V (i + 1))

open Classical in
theorem rise_no {m : Nat} {V : Nat → Int} {i : Nat} (hi : i + 1 < m) (h : ¬ V i < V (i + 1)) : riseB m V = false := by
  unfold riseB; exact decide_eq_false (fun hx => h (hx i hi))
open Classical in
theorem rise_yes {m : Nat} {V : Nat → Int} (h : ∀ i, i + 1 < m → V i < V (i + 1)) : riseB m V = true := by
  unfold riseB; exact decide_eq_true h
open Classical in
theorem rise_all {m : Nat} {V : Nat → Int} (h : riseB m V = true) : ∀ i, i + 1 < m → V i < V (i + 1) := by
  unfold riseB at h; exact of_decide_eq_true h

/-- The code of one variable and its term. -/
noncomputable def bnOne (n : Nat) (A : Nat → Int) (v : Int) (m : Nat) (T : Nat → Int) : Int := if 0 ≤ v ∧ v ≤ 11 then lF n A m T else 3

/-- The code of the first k variables and their terms. -/
noncomputable def bnTo (n : Nat) (A : Nat → Int) (V : Nat → Int) (D : LsL) : Nat → Int
  | 0 => 0
  | k + 1 => if bnTo n A V D k = 0 then bnOne n A (V k) (D.m k) (D.L k) else bnTo n A V D k

/-- The fault of a binding of a right signature. -/
noncomputable def bnL (n : Nat) (A : Nat → Int) (m : Nat) (V : Nat → Int) (t : Nat) (D : LsL) : Int :=
  if m ≠ t ∨ 12 < m then 2 else if bnTo n A V D m = 0 then (if riseB m V = true then 0 else 1) else bnTo n A V D m

/-- The fault of a binding. -/
noncomputable def bnF (n : Nat) (N : Nat → ByteArray) (A : Nat → Int) (m : Nat) (V : Nat → Int) (t : Nat) (D : LsL) : Int :=
  if faultF n N A = 0 then bnL n A m V t D else faultF n N A

section
variable {n : Nat} {N : Nat → ByteArray} {A : Nat → Int} {m : Nat} {V : Nat → Int} {t : Nat} {D : LsL}
theorem bn_fault (h : faultF n N A ≠ 0) : bnF n N A m V t D = faultF n N A := by rw [bnF, if_neg h]
theorem bn_l (h : faultF n N A = 0) : bnF n N A m V t D = bnL n A m V t D := by rw [bnF, if_pos h]
theorem bnL_many (h : m ≠ t ∨ 12 < m) : bnL n A m V t D = 2 := by rw [bnL, if_pos h]
theorem bnL_to (h : ¬ (m ≠ t ∨ 12 < m)) (hz : bnTo n A V D m ≠ 0) : bnL n A m V t D = bnTo n A V D m := by rw [bnL, if_neg h, if_neg hz]
theorem bnL_rise (h : ¬ (m ≠ t ∨ 12 < m)) (hz : bnTo n A V D m = 0) : bnL n A m V t D = if riseB m V = true then 0 else 1 := by rw [bnL, if_neg h, if_pos hz]
theorem bnTo_first {k : Nat} (h : bnTo n A V D k = 0) (hk : bnOne n A (V k) (D.m k) (D.L k) ≠ 0) : ∀ j, k < j → bnTo n A V D j = bnOne n A (V k) (D.m k) (D.L k)
  | 0, hj => by omega
  | j + 1, hj => by
    by_cases e : k = j
    · subst e; show (if _ then _ else _) = _; rw [if_pos h]
    · have ih := bnTo_first h hk j (by omega)
      show (if bnTo n A V D j = 0 then _ else bnTo n A V D j) = _
      rw [ih, if_neg hk]
theorem bnTo_next {k : Nat} (h : bnTo n A V D k = 0) (hk : bnOne n A (V k) (D.m k) (D.L k) = 0) : bnTo n A V D (k + 1) = 0 := by
  show (if _ then _ else _) = _; rw [if_pos h, hk]
theorem bnTo_each : ∀ k, bnTo n A V D k = 0 → ∀ i, i < k → bnOne n A (V i) (D.m i) (D.L i) = 0
  | 0, _, i, hi => by omega
  | k + 1, h, i, hi => by
    have h' : (if bnTo n A V D k = 0 then bnOne n A (V k) (D.m k) (D.L k) else bnTo n A V D k) = 0 := h
    by_cases e : bnTo n A V D k = 0
    · rw [if_pos e] at h'
      by_cases ei : i = k
      · rw [ei]; exact h'
      · exact bnTo_each k e i (by omega)
    · rw [if_neg e] at h'; exact absurd h' e
theorem bnOne_out {v : Int} {k : Nat} {T : Nat → Int} (h : ¬ (0 ≤ v ∧ v ≤ 11)) : bnOne n A v k T = 3 := by rw [bnOne, if_neg h]
theorem bnOne_in {v : Int} {k : Nat} {T : Nat → Int} (h : 0 ≤ v ∧ v ≤ 11) : bnOne n A v k T = lF n A k T := by rw [bnOne, if_pos h]
/-- A binding without a fault. -/
structure Bn (n : Nat) (A : Nat → Int) (m : Nat) (V : Nat → Int) (D : LsL) : Prop where
  most : m ≤ 12
  rng : ∀ i, i < m → 0 ≤ V i ∧ V i ≤ 11
  trm : ∀ i, i < m → lF n A (D.m i) (D.L i) = 0
  rise : ∀ i, i + 1 < m → V i < V (i + 1)
theorem bn_right (h : bnL n A m V t D = 0) : m = t ∧ Bn n A m V D := by
  by_cases h1 : m ≠ t ∨ 12 < m
  · rw [bnL_many h1] at h; cases h
  · by_cases h2 : bnTo n A V D m = 0
    · rw [bnL_rise h1 h2] at h
      have h3 : riseB m V = true := by
        by_cases e : riseB m V = true
        · exact e
        · rw [if_neg e] at h; cases h
      have hh : m = t ∧ m ≤ 12 := by omega
      refine ⟨hh.1, hh.2, fun i hi => ?_, fun i hi => ?_, rise_all h3⟩
      · have := bnTo_each m h2 i hi
        by_cases e : 0 ≤ V i ∧ V i ≤ 11
        · exact e
        · rw [bnOne_out e] at this; cases this
      · have := bnTo_each m h2 i hi
        by_cases e : 0 ≤ V i ∧ V i ≤ 11
        · rw [bnOne_in e] at this; exact this
        · rw [bnOne_out e] at this; cases this
    · rw [bnL_to h1 h2] at h; exact absurd h h2
end

set_option maxRecDepth 20000 in
set_option maxHeartbeats 800000 in
theorem l1Rise_any (b off m c : Nat) (V : Nat → Int) (w : World) (h : Ints w b off m V) (hm : m ≤ 1048576) :
    Calls Try.prog 81 #[.slice (some ⟨b, off, none⟩) m c] w fun e w' => e = .returned (.bool (riseB m V)) ∧ Below w.heap.size w w' := by
  go_enter Try.func81, Try.ntmps81
  go_wp2
  go_loopw [3] (fun i wr => ∃ j : Nat, j ≤ m ∧ i = .int .i64 ((j : Int) + 1) ∧ Hid (∀ i, i < j → i + 1 < m → V i < V (i + 1)) ∧ ∃ q, wr = w.drewN q) (fun i _ => m + 1 - (intOf i).toNat)
  case atStart => exact ⟨0, Nat.zero_le _, rfl, hidden (fun i hi => by omega), 0, rfl⟩
  case round =>
    obtain ⟨j, hj, rfl, HE, q, rfl⟩ := hrel
    by_cases hlt : j + 1 < m
    · have c1 := h.cell j (by omega)
      have c2 := h.cell (j + 1) hlt
      by_cases he : V j < V (j + 1)
      · have HR := hidden he
        have he' : decide (V (j + 1) ≤ V j) = false := by simp; omega
        have y1 : IntKind.i64.wrap ((j : Int) + 1 - 1) = (j : Int) := by rw [show (j : Int) + 1 - 1 = j by omega]; exact wrap_sm _ (by omega) (by omega)
        clear he
        go_wp2_with fail
        go_big_region
        go_wp2
        go_roundw
        case rel => exact ⟨j + 1, by omega, by go_num, hidden (fun i hi hi' => by
          by_cases e : i = j
          · rw [e]; exact HR.out
          · exact HE.out i (by omega) hi'), _, rfl⟩
        case measure => simp [intOf]; omega
      · have HR := hidden (rise_no (V := V) hlt he)
        have he' : V (j + 1) ≤ V j := by omega
        have y1 : IntKind.i64.wrap ((j : Int) + 1 - 1) = (j : Int) := by rw [show (j : Int) + 1 - 1 = j by omega]; exact wrap_sm _ (by omega) (by omega)
        clear he
        go_wp2_with fail
        go_big_region
        go_wp2
        go_ret
        exact ⟨by rw [HR.out]; rfl, below_drewN (Below.refl _ _) _⟩
    · have HR := hidden (rise_yes (m := m) (V := V) (fun i hi => HE.out i (by omega) hi))
      go_wp2
      go_ret
      exact ⟨by rw [HR.out]; rfl, below_drewN (Below.refl _ _) _⟩

set_option maxRecDepth 20000 in
set_option maxHeartbeats 800000 in
theorem isRising_any (b off m c : Nat) (V : Nat → Int) (w : World) (h : Ints w b off m V) (hm : m ≤ 1048576) :
    Calls Try.prog 83 #[.slice (some ⟨b, off, none⟩) m c] w fun e w' => e = .returned (.bool (riseB m V)) ∧ Below w.heap.size w w' := by
  go_enter Try.func83, Try.ntmps83
  go_wp2
  go_loopw [3] (fun i wr => ∃ j : Nat, j ≤ m ∧ i = .int .i64 ((j : Int) + 1) ∧ Hid (∀ i, i < j → i + 1 < m → V i < V (i + 1)) ∧ ∃ q, wr = w.drewN q) (fun i _ => m + 1 - (intOf i).toNat)
  case atStart => exact ⟨0, Nat.zero_le _, rfl, hidden (fun i hi => by omega), 0, rfl⟩
  case round =>
    obtain ⟨j, hj, rfl, HE, q, rfl⟩ := hrel
    by_cases hlt : j + 1 < m
    · have c1 := h.cell j (by omega)
      have c2 := h.cell (j + 1) hlt
      by_cases he : V j < V (j + 1)
      · have HR := hidden he
        have he' : decide (V (j + 1) ≤ V j) = false := by simp; omega
        have y1 : IntKind.i64.wrap ((j : Int) + 1 - 1) = (j : Int) := by rw [show (j : Int) + 1 - 1 = j by omega]; exact wrap_sm _ (by omega) (by omega)
        clear he
        go_wp2_with fail
        go_big_region
        go_wp2
        go_roundw
        case rel => exact ⟨j + 1, by omega, by go_num, hidden (fun i hi hi' => by
          by_cases e : i = j
          · rw [e]; exact HR.out
          · exact HE.out i (by omega) hi'), _, rfl⟩
        case measure => simp [intOf]; omega
      · have HR := hidden (rise_no (V := V) hlt he)
        have he' : V (j + 1) ≤ V j := by omega
        have y1 : IntKind.i64.wrap ((j : Int) + 1 - 1) = (j : Int) := by rw [show (j : Int) + 1 - 1 = j by omega]; exact wrap_sm _ (by omega) (by omega)
        clear he
        go_wp2_with fail
        go_big_region
        go_wp2
        go_ret
        exact ⟨by rw [HR.out]; rfl, below_drewN (Below.refl _ _) _⟩
    · have HR := hidden (rise_yes (m := m) (V := V) (fun i hi => HE.out i (by omega) hi))
      go_wp2
      go_ret
      exact ⟨by rw [HR.out]; rfl, below_drewN (Below.refl _ _) _⟩

set_option maxRecDepth 20000 in
set_option maxHeartbeats 1600000 in
theorem l6Fault_any (B E b off n c b1 o1 m c1 b2 o2 t c2 : Nat) (N : Nat → ByteArray) (A V : Nat → Int) (D : LsL) (w : World) (hd : One w B (.slice (some ⟨b, off, none⟩) n c)) (he : Two w E (.slice (some ⟨b1, o1, none⟩) m c1) (.slice (some ⟨b2, o2, none⟩) t c2)) (h : Syms w b off n N A) (h1 : Ints w b1 o1 m V) (h2 : Mats w b2 o2 t D) (hf : faultF n N A = 0) (hm : m ≤ 1048576) (hk : KeptM t D) :
    Calls Try.prog 45 #[.pointer (some ⟨B, 0, none⟩), .pointer (some ⟨E, 0, none⟩)] w fun e w' => e = .returned (.int .i64 (bnL n A m V t D)) ∧ Below w.heap.size w w' := by
  have ht := hk.most
  have HS := hidden (fault_sound hf)
  have HD := hidden hd
  have X := hidden he
  have Q := hidden h
  have I1 := hidden h1
  have I2 := hidden h2
  have HK := hidden hk
  clear hf hd he h h1 h2 hk
  have x0 := X.out.c0
  have x1 := X.out.c1
  by_cases hne : m = t
  · subst hne
    by_cases h12 : 12 < m
    · have HR := hidden (bnL_many (n := n) (A := A) (V := V) (D := D) (Or.inr h12 : m ≠ m ∨ 12 < m))
      have g1 : (12 : Int) < m := by omega
      go_enter Try.func45, Try.ntmps45
      go_wp2_with fail
      go_big_region
      all_goals go_wp2
      all_goals go_ret
      all_goals exact ⟨by rw [HR.out]; rfl, (Below.refl _ _).drew⟩
    · have HN := hidden (show ¬ (m ≠ m ∨ 12 < m) by omega)
      have g1 : ¬ (12 : Int) < m := by omega
      go_enter Try.func45, Try.ntmps45
      go_wp2_with fail
      go_cut [25] (fun t wc => t = .bool false ∧ Below w.heap.size w wc)
      case first =>
        go_big_region
        all_goals (go_wp2_with fail; go_meet)
        all_goals exact ⟨congrArg Value.bool (decide_eq_false (by omega)), (Below.refl _ _).drew⟩
      case rest =>
        rename World => w1
        obtain ⟨rfl, hb⟩ := hcut
        have B := hidden hb
        replace HD := hidden (HD.out.keep hb)
        replace X := hidden (X.out.keep hb)
        replace Q := hidden (Q.out.keep hb)
        replace I1 := hidden (I1.out.keep hb)
        replace I2 := hidden (I2.out.keep hb)
        clear hb x0 x1
        go_wp2
        go_loopw [5] (fun i wr => ∃ k : Nat, k ≤ m ∧ i = .int .i64 (k : Nat) ∧ Hid (bnTo n A V D k = 0 ∧ Below w1.heap.size w1 wr)) (fun i _ => m - (intOf i).toNat)
        case atStart => exact ⟨0, Nat.zero_le _, rfl, hidden ⟨rfl, Below.refl _ _⟩⟩
        case round =>
          obtain ⟨k, hk, rfl, HI⟩ := hrel
          have x0 := (X.out.keep HI.out.2).c0
          by_cases hlt : k < m
          · have d1 := (I1.out.keep HI.out.2).cell k hlt
            go_wp2_with fail
            with_reducible refine (l1In_any _ _ _ _).mono ?_
            rintro e w2 ⟨rfl, hb⟩
            have B2 := hidden (keepB HI.out.2 hb)
            clear hb x0 d1
            by_cases hv : 0 ≤ V k ∧ V k ≤ 11
            · have HO := hidden (bnOne_in (n := n) (A := A) (k := D.m k) (T := D.L k) hv)
              rw [show decide (0 ≤ V k ∧ V k ≤ 11) = true from decide_eq_true hv]
              have x1 := (X.out.keep B2.out).c1
              obtain ⟨g2, o3, c3, e1, i1, _⟩ := (I2.out.keep B2.out).row k hlt
              have J := hidden i1
              clear i1 hv
              go_wp2_with fail
              with_reducible refine (l3Fault_all _ _ _ _ _ _ _ _ _ N A (D.L k) _ (HD.out.keep B2.out) (Q.out.keep B2.out) J.out HS.out (HK.out.m k hlt)).mono ?_
              rintro e w3 ⟨rfl, hb⟩
              have B3 := hidden (keepB B2.out hb)
              clear hb x1 e1 J
              rw [← HO.out]
              by_cases hz : bnOne n A (V k) (D.m k) (D.L k) = 0
              · have HX := hidden (bnTo_next HI.out.1 hz)
                rw [hz]
                clear hz
                go_wp2
                go_roundw
                case rel => exact ⟨k + 1, by omega, by go_num, hidden ⟨HX.out, B3.out⟩⟩
                case measure => simp [intOf]; omega
              · have HX := hidden (bnTo_first HI.out.1 hz m hlt)
                have HY := hidden (bnL_to HN.out (by rw [HX.out]; exact hz))
                have hz' : (bnOne n A (V k) (D.m k) (D.L k) != 0) = true := by simpa using hz
                generalize bnOne n A (V k) (D.m k) (D.L k) = z at *
                clear hz
                go_wp2
                go_ret
                exact ⟨by rw [HY.out, HX.out]; rfl, keepB B.out B3.out⟩
            · have HO := hidden (bnOne_out (n := n) (A := A) (k := D.m k) (T := D.L k) hv)
              have HX := hidden (bnTo_first HI.out.1 (by rw [HO.out]; decide) m hlt)
              have HY := hidden (bnL_to HN.out (by rw [HX.out, HO.out]; decide))
              rw [show decide (0 ≤ V k ∧ V k ≤ 11) = false from decide_eq_false hv]
              clear hv
              go_wp2
              go_ret
              exact ⟨by rw [HY.out, HX.out, HO.out]; rfl, keepB B.out B2.out⟩
          · obtain rfl : m = k := by omega
            have HY := hidden (bnL_rise HN.out HI.out.1)
            go_wp2_with fail
            with_reducible refine (l1Rise_any _ _ _ _ V _ (I1.out.keep HI.out.2) hm).mono ?_
            rintro e w2 ⟨rfl, hb⟩
            have B2 := hidden (keepB HI.out.2 hb)
            clear hb x0
            generalize hr : riseB m V = ib
            cases ib
            · have HR := hidden hr
              clear hr
              go_wp2
              go_ret
              exact ⟨by rw [HY.out, HR.out]; rfl, keepB B.out B2.out⟩
            · have HR := hidden hr
              clear hr
              go_wp2
              go_ret
              exact ⟨by rw [HY.out, HR.out]; rfl, keepB B.out B2.out⟩
  · have HR := hidden (bnL_many (n := n) (A := A) (V := V) (D := D) (Or.inl hne : m ≠ t ∨ 12 < m))
    have g1 : ((m : Int) != (t : Int)) = true := by simp; omega
    go_enter Try.func45, Try.ntmps45
    go_wp2_with fail
    go_big_region
    all_goals go_wp2
    all_goals go_ret
    all_goals exact ⟨by rw [HR.out]; rfl, (Below.refl _ _).drew⟩

set_option maxRecDepth 20000 in
set_option maxHeartbeats 800000 in
theorem specBn_any (b off n c b1 o1 m c1 b2 o2 t c2 : Nat) (N : Nat → ByteArray) (A V : Nat → Int) (D : LsL) (w : World) (h : Syms w b off n N A) (h1 : Ints w b1 o1 m V) (h2 : Mats w b2 o2 t D) (hk : Kept n N A) (hm : m ≤ 1048576) (hk' : KeptM t D) :
    Calls Try.prog 44 #[.agg #[.slice (some ⟨b, off, none⟩) n c], .agg #[.slice (some ⟨b1, o1, none⟩) m c1, .slice (some ⟨b2, o2, none⟩) t c2]] w fun e w' => e = .returned (.int .i64 (bnF n N A m V t D)) ∧ Below w.heap.size w w' := by
  have X := hidden (One.new w (.slice (some ⟨b, off, none⟩) n c) 35)
  have B := hidden (alloc_below w (.cells #[.slice (some ⟨b, off, none⟩) n c] 35))
  have A2 := hidden (alloc_below (w.alloc (.cells #[.slice (some ⟨b, off, none⟩) n c] 35)) (.cells #[.slice (some ⟨b1, o1, none⟩) m c1, .slice (some ⟨b2, o2, none⟩) t c2] 29))
  have Y := hidden (Two.new (w.alloc (.cells #[.slice (some ⟨b, off, none⟩) n c] 35)) (.slice (some ⟨b1, o1, none⟩) m c1) (.slice (some ⟨b2, o2, none⟩) t c2) 29)
  simp only [World.size_alloc] at Y
  replace X := hidden (X.out.keep A2.out)
  replace B := hidden (keepB B.out A2.out)
  have Q := hidden (h.keep B.out)
  have I1 := hidden (h1.keep B.out)
  have I2 := hidden (h2.keep B.out)
  have HK := hidden hk
  have HK' := hidden hk'
  clear h h1 h2 hk hk' A2
  have d0 := X.out.c0
  go_enter Try.func44, Try.ntmps44
  go_wp2_with fail
  with_reducible refine (specFault_all _ _ _ _ N A _ Q.out HK.out).mono ?_
  rintro e w1 ⟨rfl, hb⟩
  replace X := hidden (X.out.keep hb)
  replace Y := hidden (Y.out.keep hb)
  replace B := hidden (keepB B.out hb)
  replace I1 := hidden (I1.out.keep hb)
  replace I2 := hidden (I2.out.keep hb)
  replace Q := hidden (Q.out.keep hb)
  clear hb d0
  by_cases hf : faultF n N A = 0
  · have HF := hidden hf
    rw [hf]
    clear hf
    go_wp2_with fail
    with_reducible refine (l6Fault_any _ _ _ _ _ _ _ _ _ _ _ _ _ _ N A V D _ X.out Y.out Q.out I1.out I2.out HF.out hm HK'.out).mono ?_
    rintro e w2 ⟨rfl, hb⟩
    replace B := hidden (keepB B.out hb)
    clear hb
    have HR := hidden (bn_l (m := m) (V := V) (t := t) (D := D) HF.out)
    go_wp2
    go_ret
    exact ⟨by rw [HR.out]; rfl, B.out⟩
  · have HR := hidden (bn_fault (m := m) (V := V) (t := t) (D := D) hf)
    have hf' : (faultF n N A != 0) = true := by simpa using hf
    generalize faultF n N A = z at *
    clear hf
    go_wp2
    go_ret
    exact ⟨by rw [HR.out]; rfl, B.out⟩

set_option maxRecDepth 20000 in
set_option maxHeartbeats 3200000 in
theorem implBn_any (b off n c b1 o1 m c1 b2 o2 t c2 : Nat) (N : Nat → ByteArray) (A V : Nat → Int) (D : LsL) (w : World) (h : Syms w b off n N A) (h1 : Ints w b1 o1 m V) (h2 : Mats w b2 o2 t D) (hk : Kept n N A) (hm : m ≤ 1048576) (hk' : KeptM t D) :
    Calls Try.prog 50 #[.agg #[.slice (some ⟨b, off, none⟩) n c], .agg #[.slice (some ⟨b1, o1, none⟩) m c1, .slice (some ⟨b2, o2, none⟩) t c2]] w fun e w' => e = .returned (.int .i64 (bnF n N A m V t D)) ∧ Below w.heap.size w w' := by
  have X := hidden (One.new w (.slice (some ⟨b, off, none⟩) n c) 35)
  have B := hidden (alloc_below w (.cells #[.slice (some ⟨b, off, none⟩) n c] 35))
  have A2 := hidden (alloc_below (w.alloc (.cells #[.slice (some ⟨b, off, none⟩) n c] 35)) (.cells #[.slice (some ⟨b1, o1, none⟩) m c1, .slice (some ⟨b2, o2, none⟩) t c2] 29))
  have Y := hidden (Two.new (w.alloc (.cells #[.slice (some ⟨b, off, none⟩) n c] 35)) (.slice (some ⟨b1, o1, none⟩) m c1) (.slice (some ⟨b2, o2, none⟩) t c2) 29)
  simp only [World.size_alloc] at Y
  replace X := hidden (X.out.keep A2.out)
  replace B := hidden (keepB B.out A2.out)
  have Q := hidden (h.keep B.out)
  have I1 := hidden (h1.keep B.out)
  have I2 := hidden (h2.keep B.out)
  have HK := hidden hk
  have HK' := hidden hk'
  have ht := hk'.most
  clear h h1 h2 hk hk' A2
  have d0 := X.out.c0
  go_enter Try.func50, Try.ntmps50
  go_wp2_with fail
  with_reducible refine (implFault_all _ _ _ _ N A _ Q.out HK.out).mono ?_
  rintro e w1 ⟨rfl, hb⟩
  replace X := hidden (X.out.keep hb)
  replace Y := hidden (Y.out.keep hb)
  replace B := hidden (keepB B.out hb)
  replace I1 := hidden (I1.out.keep hb)
  replace I2 := hidden (I2.out.keep hb)
  replace Q := hidden (Q.out.keep hb)
  clear hb d0
  by_cases hf : faultF n N A = 0
  · have HF := hidden hf
    have HB := hidden (bn_l (m := m) (V := V) (t := t) (D := D) hf)
    rw [hf]
    clear hf
    have y0 := Y.out.c0
    have y1 := Y.out.c1
    by_cases hne : m = t
    · subst hne
      by_cases h12 : 12 < m
      · have HR := hidden (bnL_many (n := n) (A := A) (V := V) (D := D) (Or.inr h12 : m ≠ m ∨ 12 < m))
        have g1 : (12 : Int) < m := by omega
        go_wp2
        go_ret
        exact ⟨by rw [HB.out, HR.out]; rfl, B.out⟩
      · have HN := hidden (show ¬ (m ≠ m ∨ 12 < m) by omega)
        have g1 : ¬ (12 : Int) < m := by omega
        go_wp2
        go_loopw [30] (fun i wr => ∃ k : Nat, k ≤ m ∧ i = .int .i64 (k : Nat) ∧ Hid (bnTo n A V D k = 0 ∧ Below w1.heap.size w1 wr)) (fun i _ => m - (intOf i).toNat)
        case atStart => exact ⟨0, Nat.zero_le _, rfl, hidden ⟨rfl, Below.refl _ _⟩⟩
        case round =>
          obtain ⟨k, hk, rfl, HI⟩ := hrel
          clear y0 y1
          by_cases hlt : k < m
          · have d1 := (I1.out.keep HI.out.2).cell k hlt
            by_cases hv : 0 ≤ V k ∧ V k ≤ 11
            · have HO := hidden (bnOne_in (n := n) (A := A) (k := D.m k) (T := D.L k) hv)
              have HT := hidden (term_l (m := D.m k) (T := D.L k) HF.out)
              obtain ⟨g2, o3, c3, e1, i1, _⟩ := (I2.out.keep HI.out.2).row k hlt
              have y1 := (Y.out.keep HI.out.2).c1
              have d0 := (X.out.keep HI.out.2).c0
              have v1 : ¬ V k < 0 := by omega
              have v2 : ¬ 12 ≤ V k := by omega
              have S := hidden (show ∀ wc, Below wr.heap.size wr wc → Calls Try.prog 62 #[.agg #[.slice (some ⟨b, off, none⟩) n c], .slice (some ⟨g2, o3, none⟩) (D.m k) c3] wc fun e w' => e = .returned (.int .i64 (bnOne n A (V k) (D.m k) (D.L k))) ∧ Below wr.heap.size wr w' from fun wc hc => by
                refine (implTerm_any _ _ _ _ _ _ _ _ N A (D.L k) _ (Q.out.keep (keepB HI.out.2 hc)) (i1.keep hc) HK.out (HK'.out.m k hlt)).mono ?_
                rintro e w' ⟨rfl, hb⟩
                exact ⟨by rw [HT.out, HO.out], keepB hc hb⟩)
              clear i1 hv
              by_cases hz : bnOne n A (V k) (D.m k) (D.L k) = 0
              · have HX := hidden (bnTo_next HI.out.1 hz)
                rw [hz] at S
                clear hz
                go_wp2_with fail
                go_cut [8] (fun t wc => t = .int .i64 0 ∧ Below wr.heap.size wr wc)
                case first =>
                  go_region_with (first | (go_at_call 62; with_reducible refine (S.out _ ?_).mono ?_; exact (Below.refl _ _).drew; rintro e w5 ⟨rfl, hb5⟩))
                  all_goals (go_wp2_with fail; go_meet)
                  all_goals exact ⟨rfl, hb5⟩
                case rest =>
                  rename World => w5
                  obtain ⟨rfl, bc⟩ := hcut
                  have B1 := hidden (keepB HI.out.2 bc)
                  clear bc e1 d0 d1 y1
                  go_wp2
                  go_roundw
                  case rel => exact ⟨k + 1, by omega, by go_num, hidden ⟨HX.out, B1.out⟩⟩
                  case measure => simp [intOf]; omega
              · have HX := hidden (bnTo_first HI.out.1 hz m hlt)
                have HY := hidden (bnL_to HN.out (by rw [HX.out]; exact hz))
                have hz' : (bnOne n A (V k) (D.m k) (D.L k) != 0) = true := by simpa using hz
                generalize bnOne n A (V k) (D.m k) (D.L k) = z at *
                clear hz
                go_wp2_with fail
                go_cut [8] (fun t wc => t = .int .i64 z ∧ Below wr.heap.size wr wc)
                case first =>
                  go_region_with (first | (go_at_call 62; with_reducible refine (S.out _ ?_).mono ?_; exact (Below.refl _ _).drew; rintro e w5 ⟨rfl, hb5⟩))
                  all_goals (go_wp2_with fail; go_meet)
                  all_goals exact ⟨rfl, hb5⟩
                case rest =>
                  rename World => w5
                  obtain ⟨rfl, bc⟩ := hcut
                  have B1 := hidden (keepB HI.out.2 bc)
                  clear bc e1 d0 d1 y1
                  go_wp2
                  go_ret
                  exact ⟨by rw [HB.out, HY.out, HX.out]; rfl, keepB B.out B1.out⟩
            · have HO := hidden (bnOne_out (n := n) (A := A) (k := D.m k) (T := D.L k) hv)
              have HX := hidden (bnTo_first HI.out.1 (by rw [HO.out]; decide) m hlt)
              have HY := hidden (bnL_to HN.out (by rw [HX.out, HO.out]; decide))
              by_cases v1 : V k < 0
              · clear hv
                go_wp2
                go_ret
                exact ⟨by rw [HB.out, HY.out, HX.out, HO.out]; rfl, keepB B.out HI.out.2⟩
              · have v2 : 12 ≤ V k := by omega
                clear hv
                go_wp2
                go_ret
                exact ⟨by rw [HB.out, HY.out, HX.out, HO.out]; rfl, keepB B.out HI.out.2⟩
          · obtain rfl : m = k := by omega
            have HY := hidden (bnL_rise HN.out HI.out.1)
            have y0 := (Y.out.keep HI.out.2).c0
            go_wp2_with fail
            with_reducible refine (isRising_any _ _ _ _ V _ (I1.out.keep HI.out.2) hm).mono ?_
            rintro e w2 ⟨rfl, hb⟩
            have B2 := hidden (keepB HI.out.2 hb)
            clear hb y0
            generalize hr : riseB m V = ib
            cases ib
            · have HR := hidden hr
              clear hr
              go_wp2
              go_ret
              exact ⟨by rw [HB.out, HY.out, HR.out]; rfl, keepB B.out B2.out⟩
            · have HR := hidden hr
              clear hr
              go_wp2
              go_ret
              exact ⟨by rw [HB.out, HY.out, HR.out]; rfl, keepB B.out B2.out⟩
    · have HR := hidden (bnL_many (n := n) (A := A) (V := V) (D := D) (Or.inl hne : m ≠ t ∨ 12 < m))
      have g1 : ((t : Int) != (m : Int)) = true := by simp; omega
      go_wp2
      go_ret
      exact ⟨by rw [HB.out, HR.out]; rfl, B.out⟩
  · have HR := hidden (bn_fault (m := m) (V := V) (t := t) (D := D) hf)
    have hf' : (faultF n N A != 0) = true := by simpa using hf
    generalize faultF n N A = z at *
    clear hf
    go_wp2
    go_ret
    exact ⟨by rw [HR.out]; rfl, B.out⟩

end Go.Proofs.Ytenlogljpgdbpaa
