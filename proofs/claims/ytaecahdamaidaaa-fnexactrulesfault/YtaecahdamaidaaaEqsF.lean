/- Contracts: the fault of a list of equations, as the model and as the program tells it. -/
import Derived.Test.YtaecahdamaidaaaEqnF
import Derived.Test.YtaecahdamaidaaaEqs
namespace Go.Proofs.Ytaecahdamaidaaa
open Go.RowKit

/-- Two cells of a block, one behind the other. -/
structure TwoAt (w : World) (b o : Nat) (x y : Value) : Prop where
  blk : b < w.heap.size
  c0 : w.cell? ⟨b, o, none⟩ = some x
  c1 : w.cell? ⟨b, o + 1, none⟩ = some y

theorem TwoAt.keep {w w' : World} {b o : Nat} {x y : Value} (h : TwoAt w b o x y) (hb : Below w.heap.size w w') : TwoAt w' b o x y :=
  ⟨Nat.lt_of_lt_of_le h.blk hb.size, by rw [(bcell hb).1 _ _ h.blk]; exact h.c0, by rw [(bcell hb).1 _ _ h.blk]; exact h.c1⟩

set_option maxRecDepth 20000 in
set_option maxHeartbeats 1600000 in
theorem l4Fault_at (B E o b off n c b1 o1 m1 c1 b2 o2 m2 c2 : Nat) (N : Nat → ByteArray) (A L1 L2 : Nat → Int) (w : World) (hd : One w B (.slice (some ⟨b, off, none⟩) n c)) (he : TwoAt w E o (.slice (some ⟨b1, o1, none⟩) m1 c1) (.slice (some ⟨b2, o2, none⟩) m2 c2)) (h : Syms w b off n N A) (h1 : Ints w b1 o1 m1 L1) (h2 : Ints w b2 o2 m2 L2) (hf : faultF n N A = 0) (hm1 : m1 ≤ 1048576) (hm2 : m2 ≤ 1048576) :
    Calls Try.prog 118 #[.pointer (some ⟨B, 0, none⟩), .pointer (some ⟨E, o, none⟩)] w fun e w' => e = .returned (.int .i64 (eqF n N A m1 L1 m2 L2)) ∧ Below w.heap.size w w' := by
  have HS := hidden (fault_sound hf)
  have T1 := hidden (term_l (m := m1) (T := L1) hf)
  have T2 := hidden (term_l (m := m2) (T := L2) hf)
  have D := hidden hd
  have X := hidden he
  have Q := hidden h
  have I1 := hidden h1
  have I2 := hidden h2
  clear hf hd he h h1 h2
  have x0 := X.out.c0
  go_enter Try.func118, Try.ntmps118
  go_wp2_with fail
  with_reducible refine (l3Fault_all _ _ _ _ _ _ _ _ _ N A L1 _ D.out Q.out I1.out HS.out hm1).mono ?_
  rintro e w1 ⟨rfl, hb⟩
  have B := hidden hb
  replace D := hidden (D.out.keep hb)
  replace X := hidden (X.out.keep hb)
  replace Q := hidden (Q.out.keep hb)
  replace I1 := hidden (I1.out.keep hb)
  replace I2 := hidden (I2.out.keep hb)
  clear hb x0
  rw [← T1.out]
  by_cases hz : termF n N A m1 L1 = 0
  · have Z1 := hidden hz
    rw [hz]
    clear hz
    have x0 := X.out.c1
    go_wp2_with fail
    with_reducible refine (l3Fault_all _ _ _ _ _ _ _ _ _ N A L2 _ D.out Q.out I2.out HS.out hm2).mono ?_
    rintro e w2 ⟨rfl, hb⟩
    replace B := hidden (keepB B.out hb)
    replace D := hidden (D.out.keep hb)
    replace X := hidden (X.out.keep hb)
    replace I1 := hidden (I1.out.keep hb)
    replace I2 := hidden (I2.out.keep hb)
    clear hb x0
    rw [← T2.out]
    by_cases hz : termF n N A m2 L2 = 0
    · have Z2 := hidden hz
      rw [hz]
      clear hz
      have x0 := X.out.c0
      go_wp2_with fail
      with_reducible refine (l4Low_any _ _ _ _ L1 _ I1.out hm1).mono ?_
      rintro e w3 ⟨rfl, hb⟩
      replace B := hidden (keepB B.out hb)
      replace X := hidden (X.out.keep hb)
      replace I2 := hidden (I2.out.keep hb)
      clear hb x0
      generalize hl : lowB m1 L1 = ib
      cases ib
      · have HR := hidden (eqF_high Z1.out Z2.out (Or.inl hl))
        clear hl
        go_wp2
        go_ret
        exact ⟨by rw [HR.out]; rfl, B.out⟩
      · have HL := hidden hl
        clear hl
        have x0 := X.out.c1
        go_wp2_with fail
        with_reducible refine (l4Low_any _ _ _ _ L2 _ I2.out hm2).mono ?_
        rintro e w4 ⟨rfl, hb⟩
        replace B := hidden (keepB B.out hb)
        clear hb x0
        generalize hl : lowB m2 L2 = ib
        cases ib
        · have HR := hidden (eqF_high Z1.out Z2.out (Or.inr hl))
          clear hl
          go_wp2
          go_ret
          exact ⟨by rw [HR.out]; rfl, B.out⟩
        · have HR := hidden (eqF_low Z1.out Z2.out HL.out hl)
          clear hl
          go_wp2
          go_ret
          exact ⟨by rw [HR.out]; rfl, B.out⟩
    · have HR := hidden (eqF_right Z1.out hz)
      have hz' : (termF n N A m2 L2 != 0) = true := by simpa using hz
      generalize termF n N A m2 L2 = z at *
      clear hz
      go_wp2
      go_ret
      exact ⟨by rw [HR.out]; rfl, B.out⟩
  · have HR := hidden (eqF_left (m2 := m2) (L2 := L2) hz)
    have hz' : (termF n N A m1 L1 != 0) = true := by simpa using hz
    generalize termF n N A m1 L1 = z at *
    clear hz
    go_wp2
    go_ret
    exact ⟨by rw [HR.out]; rfl, B.out⟩

set_option maxRecDepth 20000 in
set_option maxHeartbeats 800000 in
theorem eqEquationS_eq (b off b' off' n c c' : Nat) (D : EqL) (w : World) (h : Eqs w b off n D) (h' : Eqs w b' off' n D) (hk : KeptE n D) :
    Calls Try.prog 25 #[.slice (some ⟨b, off, none⟩) n c, .slice (some ⟨b', off', none⟩) n c'] w fun e w' => e = .returned (.bool true) ∧ Below w.heap.size w w' := by
  have hn := hk.most
  have H := hidden h
  have H' := hidden h'
  have HK := hidden hk
  clear h h' hk
  go_enter Try.func25, Try.ntmps25
  go_wp2
  go_loopw [5] (fun i wr => ∃ k : Nat, k ≤ n ∧ i = .int .i64 k ∧ Hid (Below w.heap.size w wr)) (fun i _ => n - (intOf i).toNat)
  case atStart => exact ⟨0, Nat.zero_le _, rfl, hidden (Below.refl _ _)⟩
  case round =>
    obtain ⟨k, hk, rfl, HB⟩ := hrel
    by_cases hlt : k < n
    · obtain ⟨g1, o1, c1, g2, o2, c2, e1, e2, i1, i2⟩ := (H.out.keep HB.out).row k hlt
      obtain ⟨g3, o3, c3, g4, o4, c4, e3, e4, i3, i4⟩ := (H'.out.keep HB.out).row k hlt
      have S := hidden (fun wc (hc : Below wr.heap.size wr wc) => eqEquation_eq g1 o1 g2 o2 (D.m1 k) c1 (D.m2 k) c2 g3 o3 g4 o4 c3 c4 (D.L1 k) (D.L2 k) wc (i1.keep hc) (i2.keep hc) (i3.keep hc) (i4.keep hc) (HK.out.m1 k hlt) (HK.out.m2 k hlt))
      clear i1 i2 i3 i4
      go_wp2_with fail
      go_cut [26] (fun t wc => t = .bool false ∧ Below wr.heap.size wr wc)
      case first =>
        go_region_with (first | (go_at_call 60; with_reducible refine (S.out _ ?_).mono ?_; exact (Below.refl _ _).drew; rintro e w5 ⟨rfl, hb5⟩))
        all_goals (go_wp2_with fail; go_meet)
        all_goals exact ⟨rfl, (Below.refl _ _).drew.trans hb5⟩
      case rest =>
        rename World => w5
        obtain ⟨rfl, bc⟩ := hcut
        have B1 := hidden (keepB HB.out bc)
        clear bc e1 e2 e3 e4
        go_wp2
        go_roundw
        case rel => exact ⟨k + 1, by omega, by go_num, B1⟩
        case measure => simp [intOf]; omega
    · go_wp2
      go_ret
      exact ⟨rfl, HB.out⟩

/-- The fault of the first k equations. -/
noncomputable def eqsTo (n : Nat) (N : Nat → ByteArray) (A : Nat → Int) (D : EqL) : Nat → Int
  | 0 => 0
  | k + 1 => if eqsTo n N A D k = 0 then eqF n N A (D.m1 k) (D.L1 k) (D.m2 k) (D.L2 k) else eqsTo n N A D k

/-- The fault of a list of equations. -/
noncomputable def eqsF (n : Nat) (N : Nat → ByteArray) (A : Nat → Int) (k : Nat) (D : EqL) : Int :=
  if faultF n N A = 0 then (if 12 < k then 2 else eqsTo n N A D k) else faultF n N A

section
variable {n : Nat} {N : Nat → ByteArray} {A : Nat → Int} {m : Nat} {D : EqL}
theorem eqs_fault (h : faultF n N A ≠ 0) : eqsF n N A m D = faultF n N A := by rw [eqsF, if_neg h]
theorem eqs_many (h : faultF n N A = 0) (hm : 12 < m) : eqsF n N A m D = 2 := by rw [eqsF, if_pos h, if_pos hm]
theorem eqs_to (h : faultF n N A = 0) (hm : ¬ 12 < m) : eqsF n N A m D = eqsTo n N A D m := by rw [eqsF, if_pos h, if_neg hm]
theorem eqsTo_first {k : Nat} (h : eqsTo n N A D k = 0) (hk : eqF n N A (D.m1 k) (D.L1 k) (D.m2 k) (D.L2 k) ≠ 0) : ∀ j, k < j → eqsTo n N A D j = eqF n N A (D.m1 k) (D.L1 k) (D.m2 k) (D.L2 k)
  | 0, hj => by omega
  | j + 1, hj => by
    by_cases e : k = j
    · subst e; show (if _ then _ else _) = _; rw [if_pos h]
    · have ih := eqsTo_first h hk j (by omega)
      show (if eqsTo n N A D j = 0 then _ else eqsTo n N A D j) = _
      rw [ih, if_neg hk]
theorem eqsTo_next {k : Nat} (h : eqsTo n N A D k = 0) (hk : eqF n N A (D.m1 k) (D.L1 k) (D.m2 k) (D.L2 k) = 0) : eqsTo n N A D (k + 1) = 0 := by
  show (if _ then _ else _) = _; rw [if_pos h, hk]
theorem eqsTo_each : ∀ k, eqsTo n N A D k = 0 → ∀ i, i < k → eqF n N A (D.m1 i) (D.L1 i) (D.m2 i) (D.L2 i) = 0
  | 0, _, i, hi => by omega
  | k + 1, h, i, hi => by
    have h' : (if eqsTo n N A D k = 0 then eqF n N A (D.m1 k) (D.L1 k) (D.m2 k) (D.L2 k) else eqsTo n N A D k) = 0 := h
    by_cases e : eqsTo n N A D k = 0
    · rw [if_pos e] at h'
      by_cases ei : i = k
      · rw [ei]; exact h'
      · exact eqsTo_each k e i (by omega)
    · rw [if_neg e] at h'; exact absurd h' e
end

set_option maxRecDepth 20000 in
set_option maxHeartbeats 1600000 in
theorem l5Fault_any (B b off n c b' off' m c' : Nat) (N : Nat → ByteArray) (A : Nat → Int) (D : EqL) (w : World) (hd : One w B (.slice (some ⟨b, off, none⟩) n c)) (h : Syms w b off n N A) (h' : Eqs w b' off' m D) (hf : faultF n N A = 0) (hk : KeptE m D) :
    Calls Try.prog 94 #[.pointer (some ⟨B, 0, none⟩), .slice (some ⟨b', off', none⟩) m c'] w fun e w' => e = .returned (.int .i64 (eqsF n N A m D)) ∧ Below w.heap.size w w' := by
  have hm := hk.most
  by_cases h12 : 12 < m
  · have HR := hidden (eqs_many (D := D) hf h12)
    have g1 : (12 : Int) < m := by omega
    go_enter Try.func94, Try.ntmps94
    go_wp2
    go_ret
    exact ⟨by rw [HR.out]; rfl, Below.refl _ _⟩
  · have HR := hidden (eqs_to (D := D) hf h12)
    have g1 : ¬ (12 : Int) < m := by omega
    have Q := hidden h
    have X := hidden h'
    have HD := hidden hd
    have HF := hidden hf
    have HK := hidden hk
    clear h h' hd hf hk
    go_enter Try.func94, Try.ntmps94
    go_wp2
    go_loopw [5] (fun i wr => ∃ k : Nat, k ≤ m ∧ i = .int .i64 (k : Nat) ∧ Hid (eqsTo n N A D k = 0 ∧ Below w.heap.size w wr)) (fun i _ => m - (intOf i).toNat)
    case atStart => exact ⟨0, Nat.zero_le _, rfl, hidden ⟨rfl, Below.refl _ _⟩⟩
    case round =>
      obtain ⟨k, hk, rfl, HI⟩ := hrel
      by_cases hlt : k < m
      · obtain ⟨g1', o1, c1, g2', o2, c2, e1, e2, i1, i2⟩ := (X.out.keep HI.out.2).row k hlt
        have TA := hidden (TwoAt.mk (Nat.lt_of_lt_of_le (X.out.blk (by omega)) HI.out.2.size) e1 e2)
        have I1 := hidden i1
        have I2 := hidden i2
        have M1 := hidden (HK.out.m1 k hlt)
        have M2 := hidden (HK.out.m2 k hlt)
        clear i1 i2 e1 e2
        go_wp2_with fail
        with_reducible refine (l4Fault_at _ _ _ _ _ _ _ _ _ _ _ _ _ _ _ N A (D.L1 k) (D.L2 k) _ (HD.out.keep HI.out.2) TA.out (Q.out.keep HI.out.2) I1.out I2.out HF.out M1.out M2.out).mono ?_
        rintro e w1 ⟨rfl, hb⟩
        have B1 := hidden (keepB HI.out.2 hb)
        clear hb TA I1 I2 M1 M2
        by_cases hz : eqF n N A (D.m1 k) (D.L1 k) (D.m2 k) (D.L2 k) = 0
        · have HN := hidden (eqsTo_next HI.out.1 hz)
          rw [hz]
          clear hz
          go_wp2
          go_roundw
          case rel => exact ⟨k + 1, by omega, by go_num, hidden ⟨HN.out, B1.out⟩⟩
          case measure => simp [intOf]; omega
        · have HN := hidden (eqsTo_first HI.out.1 hz m hlt)
          have hz' : (eqF n N A (D.m1 k) (D.L1 k) (D.m2 k) (D.L2 k) != 0) = true := by simpa using hz
          generalize eqF n N A (D.m1 k) (D.L1 k) (D.m2 k) (D.L2 k) = z at *
          clear hz
          go_wp2
          go_ret
          exact ⟨by rw [HR.out, HN.out]; rfl, B1.out⟩
      · obtain rfl : m = k := by omega
        go_wp2
        go_ret
        exact ⟨by rw [HR.out, HI.out.1]; rfl, HI.out.2⟩

set_option maxRecDepth 20000 in
set_option maxHeartbeats 1600000 in
theorem implEqs_any (b off n c b' off' m c' : Nat) (N : Nat → ByteArray) (A : Nat → Int) (D : EqL) (w : World) (h : Syms w b off n N A) (h' : Eqs w b' off' m D) (hk : Kept n N A) (hk' : KeptE m D) :
    Calls Try.prog 58 #[.agg #[.slice (some ⟨b, off, none⟩) n c], .slice (some ⟨b', off', none⟩) m c'] w fun e w' => e = .returned (.int .i64 (eqsF n N A m D)) ∧ Below w.heap.size w w' := by
  have X := hidden (One.new w (.slice (some ⟨b, off, none⟩) n c) 35)
  have B := hidden (alloc_below w (.cells #[.slice (some ⟨b, off, none⟩) n c] 35))
  have Q := hidden (h.keep B.out)
  have I := hidden (h'.keep B.out)
  have HK := hidden hk
  have HK' := hidden hk'
  have hm := hk'.most
  clear h h' hk hk'
  go_enter Try.func58, Try.ntmps58
  go_wp2_with fail
  with_reducible refine (implFault_all _ _ _ _ N A _ Q.out HK.out).mono ?_
  rintro e w1 ⟨rfl, hb⟩
  replace X := hidden (X.out.keep hb)
  replace B := hidden (keepB B.out hb)
  replace I := hidden (I.out.keep hb)
  replace Q := hidden (Q.out.keep hb)
  clear hb
  by_cases hf : faultF n N A = 0
  · have HF := hidden hf
    rw [hf]
    clear hf
    by_cases h12 : 12 < m
    · have HR := hidden (eqs_many (D := D) HF.out h12)
      have g1 : (12 : Int) < m := by omega
      go_wp2
      go_ret
      exact ⟨by rw [HR.out]; rfl, B.out⟩
    · have HR := hidden (eqs_to (D := D) HF.out h12)
      have g1 : ¬ (12 : Int) < m := by omega
      go_wp2
      go_loopw [19] (fun i wr => ∃ k : Nat, k ≤ m ∧ i = .int .i64 (k : Nat) ∧ Hid (eqsTo n N A D k = 0 ∧ Below w1.heap.size w1 wr)) (fun i _ => m - (intOf i).toNat)
      case atStart => exact ⟨0, Nat.zero_le _, rfl, hidden ⟨rfl, Below.refl _ _⟩⟩
      case round =>
        obtain ⟨k, hk, rfl, HI⟩ := hrel
        by_cases hlt : k < m
        · obtain ⟨g1', o1, c1, g2', o2, c2, e1, e2, i1, i2⟩ := (I.out.keep HI.out.2).row k hlt
          have BA := hidden (alloc_below wr (.cells #[.slice (some ⟨g1', o1, none⟩) (D.m1 k) c1, .slice (some ⟨g2', o2, none⟩) (D.m2 k) c2] 79))
          have I1 := hidden (i1.keep BA.out)
          have I2 := hidden (i2.keep BA.out)
          have M1 := hidden (HK'.out.m1 k hlt)
          have M2 := hidden (HK'.out.m2 k hlt)
          have B1 := hidden (keepB HI.out.2 BA.out)
          have d0 := (X.out.keep HI.out.2).c0
          have hlt0 := Nat.lt_of_lt_of_le X.out.blk HI.out.2.size
          have d1 := (X.out.keep B1.out).c0
          clear i1 i2
          go_wp2_with fail
          with_reducible refine (implEqF_any _ _ _ _ _ _ _ _ _ _ _ _ N A (D.L1 k) (D.L2 k) _ (Q.out.keep B1.out) I1.out I2.out HK.out M1.out M2.out).mono ?_
          rintro e w2 ⟨rfl, hb⟩
          replace B1 := hidden (keepB B1.out hb)
          clear hb I1 I2 M1 M2 BA d0 d1 e1 e2
          by_cases hz : eqF n N A (D.m1 k) (D.L1 k) (D.m2 k) (D.L2 k) = 0
          · have HN := hidden (eqsTo_next HI.out.1 hz)
            rw [hz]
            clear hz
            go_wp2
            go_roundw
            case rel => exact ⟨k + 1, by omega, by go_num, hidden ⟨HN.out, B1.out⟩⟩
            case measure => simp [intOf]; omega
          · have HN := hidden (eqsTo_first HI.out.1 hz m hlt)
            have hz' : (eqF n N A (D.m1 k) (D.L1 k) (D.m2 k) (D.L2 k) != 0) = true := by simpa using hz
            generalize eqF n N A (D.m1 k) (D.L1 k) (D.m2 k) (D.L2 k) = z at *
            clear hz
            go_wp2
            go_ret
            exact ⟨by rw [HR.out, HN.out]; rfl, keepB B.out B1.out⟩
        · obtain rfl : m = k := by omega
          go_wp2
          go_ret
          exact ⟨by rw [HR.out, HI.out.1]; rfl, keepB B.out HI.out.2⟩
  · have HR := hidden (eqs_fault (m := m) (D := D) hf)
    have hf' : (faultF n N A != 0) = true := by simpa using hf
    generalize faultF n N A = z at *
    clear hf
    go_wp2
    go_ret
    exact ⟨by rw [HR.out]; rfl, B.out⟩

end Go.Proofs.Ytaecahdamaidaaa
