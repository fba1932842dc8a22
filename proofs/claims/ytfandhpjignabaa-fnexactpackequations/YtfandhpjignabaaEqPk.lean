/- Contracts: equations as bytes: PackEquations, as the model makes it. -/
import Derived.Test.YtfandhpjignabaaEqsM
import Derived.Test.YtfandhpjignabaaEqsF
import Derived.Test.YtfandhpjignabaaKeyT
namespace Go.Proofs.Ytfandhpjignabaa
open Go.RowKit

/-- The pieces: how many equations, and then all sides. -/
def pcs (n : Nat) (F : LsL) : Nat → List Int
  | 0 => [(n : Int)]
  | e + 1 => packT (F.L e) (F.m e)

/-- All bytes. -/
def pkAll (n : Nat) (D : EqL) : List Int := joinTo (pcs n (fl2 D)) (1 + n * 2)

theorem pcs_left (n : Nat) (D : EqL) (k : Nat) : pcs n (fl2 D) (1 + k * 2) = packT (D.L1 k) (D.m1 k) := by
  rw [show 1 + k * 2 = k * 2 + 1 by omega]; simp only [pcs]; rw [fl2_L0, fl2_m0]
theorem pcs_right (n : Nat) (D : EqL) (k : Nat) : pcs n (fl2 D) (1 + k * 2 + 1) = packT (D.L2 k) (D.m2 k) := by
  rw [show 1 + k * 2 + 1 = (k * 2 + 1) + 1 by omega]; simp only [pcs]; rw [fl2_L1, fl2_m1]

/-- Equations whose sides are short, with nodes of the language. -/
structure Pk (n : Nat) (D : EqL) : Prop where
  few : n ≤ 12
  m1 : ∀ i, i < n → 1 ≤ D.m1 i ∧ D.m1 i ≤ 24
  m2 : ∀ i, i < n → 1 ≤ D.m2 i ∧ D.m2 i ≤ 24
  L1 : ∀ i, i < n → ∀ j, j < D.m1 i → -12 ≤ D.L1 i j ∧ D.L1 i j ≤ 5
  L2 : ∀ i, i < n → ∀ j, j < D.m2 i → -12 ≤ D.L2 i j ∧ D.L2 i j ≤ 5

theorem pk_len {n : Nat} {D : EqL} (h : Pk n D) : ∀ k, k ≤ n → (joinTo (pcs n (fl2 D)) (1 + k * 2)).length ≤ 1 + k * 48 ∧ 1 ≤ (joinTo (pcs n (fl2 D)) (1 + k * 2)).length
  | 0, _ => by simp [joinTo, pcs]
  | k + 1, hk => by
    have h1 := pk_len h k (by omega)
    have a := (h.m1 k (by omega)).2
    have b := (h.m2 k (by omega)).2
    rw [show 1 + (k + 1) * 2 = (1 + k * 2) + 1 + 1 by omega]
    simp only [joinTo, List.length_append, pcs_left, pcs_right, packT_len]
    omega

theorem eqF_both {n : Nat} {N : Nat → ByteArray} {A : Nat → Int} {m1 : Nat} {L1 : Nat → Int} {m2 : Nat} {L2 : Nat → Int} (h : eqF n N A m1 L1 m2 L2 = 0) : termF n N A m1 L1 = 0 ∧ termF n N A m2 L2 = 0 := by
  by_cases h1 : termF n N A m1 L1 = 0
  · by_cases h2 : termF n N A m2 L2 = 0
    · exact ⟨h1, h2⟩
    · rw [eqF_right h1 h2] at h; exact absurd h h2
  · rw [eqF_left h1] at h; exact absurd h h1

theorem eqs_pk {n : Nat} {N : Nat → ByteArray} {A : Nat → Int} {m : Nat} {D : EqL} (h : eqsF n N A m D = 0) : Pk m D := by
  have hf : faultF n N A = 0 := Classical.byContradiction fun x => by rw [eqs_fault x] at h; exact x h
  have h12 : ¬ 12 < m := fun x => by rw [eqs_many hf x] at h; cases h
  rw [eqs_to hf h12] at h
  have each := eqsTo_each m h
  have t1 := fun i hi => term_right (eqF_both (each i hi)).1
  have t2 := fun i hi => term_right (eqF_both (each i hi)).2
  exact ⟨by omega, fun i hi => ⟨(t1 i hi).pos, (t1 i hi).nods.most⟩, fun i hi => ⟨(t2 i hi).pos, (t2 i hi).nods.most⟩, fun i hi => (t1 i hi).nods.rng, fun i hi => (t2 i hi).nods.rng⟩

theorem one_own {w : World} {t : Nat} (x : Int) (ht : t = 5) : OwnR (w.alloc (.cells #[.int .u8 x] t)) w.heap.size w.heap.size 1 1 [.int .u8 x] := by
  subst ht
  exact ⟨rfl, Or.inr ⟨w.heap.size, 1, #[.int .u8 x], rfl, Nat.le_refl _, heap_alloc_new w _, Nat.le_refl _, by unfold maxLen; omega, rfl, rfl⟩⟩

set_option maxRecDepth 20000 in
set_option maxHeartbeats 1600000 in
theorem l5PackAll_any (b off n c : Nat) (D : EqL) (w : World) (h : Eqs w b off n D) (hp : Pk n D) :
    Calls Try.prog 54 #[.slice (some ⟨b, off, none⟩) n c] w fun e w' => ∃ g d, e = .returned (.slice (some ⟨g, 0, none⟩) (pkAll n D).length d) ∧ w.heap.size ≤ g ∧ OwnR w' w.heap.size g (pkAll n D).length d ((pkAll n D).map (Value.int .u8)) ∧ Below w.heap.size w w' := by
  have hn := hp.few
  have HP := hidden hp
  have H := hidden h
  have HO := hidden (one_own (w := w) (n : Int) rfl)
  have a1 : IntKind.u8.wrap (n : Int) = n := by rw [IntKind.wrap_u8']; omega
  generalize hX : joinTo (pcs n (fl2 D)) = X
  have HX := hidden hX
  generalize hK : (pkAll n D).length = K
  have HK := hidden hK
  generalize hV : (pkAll n D).map (Value.int .u8) = V
  have HV := hidden hV
  clear h hp hX hK hV
  go_enter Try.func54, Try.ntmps54
  go_wp2
  go_loopw [3, 4] (fun o i wr => ∃ k g d q, k ≤ n ∧ i = .int .i64 (k : Nat) ∧ o = .slice (some ⟨g, 0, none⟩) q d ∧ q ≤ 1000 ∧ Hid (q = (X (1 + k * 2)).length ∧ w.heap.size ≤ g ∧ OwnR wr w.heap.size g q d ((X (1 + k * 2)).map (Value.int .u8)) ∧ Below w.heap.size w wr)) (fun _ i _ => n - (intOf i).toNat)
  case atStart => exact ⟨0, _, _, 1, Nat.zero_le _, rfl, rfl, by omega, hidden ⟨by rw [← HX.out]; rfl, Nat.le_refl _, by rw [← HX.out]; exact HO.out, alloc_below _ _⟩⟩
  case round =>
    clear HO a1
    obtain ⟨k, g, d, q, hk, rfl, rfl, hq, HI⟩ := hrel
    by_cases hlt : k < n
    · obtain ⟨g1, o1, c1, g2, o2, c2, e1, e2, i1, i2⟩ := H.out.row k hlt
      have J1 := hidden i1
      have J2 := hidden i2
      have E1 := hidden e1
      have E2 := hidden e2
      have hm1 := (HP.out.m1 k hlt)
      have hm2 := (HP.out.m2 k hlt)
      have HL1 := hidden (HP.out.L1 k hlt)
      have HL2 := hidden (HP.out.L2 k hlt)
      have hblk := H.out.blk (by omega)
      clear i1 i2 e1 e2
      have O1 := hidden HI.out.2.2.1
      have B1 := hidden HI.out.2.2.2
      have HQ := hidden HI.out.1
      have HX1 := hidden (show X (1 + (k + 1) * 2) = X (1 + k * 2) ++ packT (D.L1 k) (D.m1 k) ++ packT (D.L2 k) (D.m2 k) by
        rw [← HX.out, show 1 + (k + 1) * 2 = (1 + k * 2) + 1 + 1 by omega]
        simp only [joinTo, pcs_left, pcs_right])
      have hq2 : q ≤ 1 + k * 48 := by have := (pk_len HP.out k (by omega)).1; rw [HX.out] at this; have := HQ.out; omega
      clear HI
      have e1 := ((bcell B1.out).1 b (off + k * 2) hblk).trans E1.out
      go_wp2_with fail
      with_reducible refine (l5Pack_any _ _ _ _ (D.L1 k) _ (J1.out.keep B1.out) hm1.2 HL1.out).mono ?_
      rintro e w2 ⟨g3, d3, rfl, hg3, ho, hb⟩
      have OS := hidden ho
      have O2 := hidden (OwnR.keep O1.out hb)
      have B2 := hidden (keepB B1.out hb)
      clear ho hb hg3 e1 O1
      go_wp2_with (at_builtin; refine wpList_append_own _ rfl _ _ 25 rfl w.heap.size 5 _ (.int .u8 0) 1 1 Try.underlying25 rfl rfl rfl rfl rfl (by decide) _ _ _ rfl O2.out ⟨g3, 0, none⟩ (D.m1 k) d3 (packV (D.L1 k) (D.m1 k)) rfl (by rw [packV_len]; omega) OS.out.src (packV_one _ _) (by unfold maxLen; omega) (by omega) B2.out.size ?_)
      intro v2 w3 hown hgrow hnil
      have hG : w.heap.size ≤ g := (World.ownsRow.lt O2.out g rfl).1
      obtain ⟨g4, d4, rfl, hg4, ho, hb⟩ := own_row hown (by simpa using hnil) (B2.out.grown hgrow B2.out.size (by intro x hx; simp [Value.ownBlock] at hx; omega))
      have O3 := hidden ho
      have B3 := hidden hb
      clear hown hgrow hnil ho hb hg4 hG O2 OS
      have e1 := ((bcell B3.out).1 b (off + k * 2 + 1) hblk).trans E2.out
      obtain ⟨q2, hq2'⟩ : ∃ q2, q2 = q + D.m1 k := ⟨_, rfl⟩
      have HQ2 := hidden hq2'
      rw [← hq2'] at O3 ⊢
      have hq3 : q2 ≤ 1 + k * 48 + 24 := by omega
      clear hq2'
      go_wp2_with fail
      with_reducible refine (l5Pack_any _ _ _ _ (D.L2 k) _ (J2.out.keep B3.out) hm2.2 HL2.out).mono ?_
      rintro e w4 ⟨g5, d5, rfl, hg5, ho, hb⟩
      have OS := hidden ho
      have O4 := hidden (OwnR.keep O3.out hb)
      have B4 := hidden (keepB B3.out hb)
      clear ho hb hg5 e1 O3
      go_wp2_with (at_builtin; refine wpList_append_own _ rfl _ _ 25 rfl w.heap.size 5 _ (.int .u8 0) 1 1 Try.underlying25 rfl rfl rfl rfl rfl (by decide) _ _ _ rfl O4.out ⟨g5, 0, none⟩ (D.m2 k) d5 (packV (D.L2 k) (D.m2 k)) rfl (by rw [packV_len]; omega) OS.out.src (packV_one _ _) (by unfold maxLen; omega) (by omega) B4.out.size ?_)
      intro v2 w5 hown hgrow hnil
      have hG : w.heap.size ≤ g4 := (World.ownsRow.lt O4.out g4 rfl).1
      obtain ⟨g6, d6, rfl, hg6, ho, hb⟩ := own_row hown (by simpa using hnil) (B4.out.grown hgrow B4.out.size (by intro x hx; simp [Value.ownBlock] at hx; omega))
      have HE := hidden (And.intro hg6 (And.intro ho hb))
      obtain ⟨q4, hq4⟩ : ∃ q4, q4 = q2 + D.m2 k := ⟨_, rfl⟩
      have HQ4 := hidden hq4
      rw [← hq4] at HE ⊢
      have hq5 : q4 ≤ 1000 := by omega
      clear hown hgrow hnil ho hb hg6 hG O4 OS hq4
      go_wp2
      go_roundw
      case rel =>
        refine ⟨k + 1, g6, d6, q4, by omega, by go_num, rfl, hq5, hidden ⟨?_, HE.out.1, ?_, HE.out.2.2⟩⟩
        · rw [HX1.out]; simp only [List.length_append, packT_len]; have := HQ4.out; have := HQ2.out; have := HQ.out; omega
        · rw [HX1.out]; simp only [List.map_append, List.append_assoc]; exact HE.out.2.1
      case measure => simp [intOf]; omega
    · obtain rfl : n = k := by omega
      have h1 : K = q := by have := HI.out.1; have := HK.out; rw [← HX.out] at *; unfold pkAll at *; omega
      have h2 : V = (X (1 + n * 2)).map (Value.int .u8) := by rw [← HV.out, ← HX.out]; rfl
      have HH := hidden (And.intro h1 h2)
      clear h1 h2
      go_wp2
      go_ret
      exact ⟨g, d, by rw [HH.out.1]; rfl, HI.out.2.1, by rw [HH.out.1, HH.out.2]; exact HI.out.2.2.1, HI.out.2.2.2⟩

set_option maxRecDepth 20000 in
set_option maxHeartbeats 1600000 in
theorem specPkE_any (b off n c b' off' m c' : Nat) (N : Nat → ByteArray) (A : Nat → Int) (D : EqL) (w : World) (h : Syms w b off n N A) (h' : Eqs w b' off' m D) (hk : Kept n N A) (hk' : KeptE m D) :
    Calls Try.prog 25 #[.agg #[.slice (some ⟨b, off, none⟩) n c], .slice (some ⟨b', off', none⟩) m c'] w fun e w' => BytAns w (eqsF n N A m D) (pkAll m D) e w' ∧ Below w.heap.size w w' := by
  have X := hidden ((One.new w (.slice (some ⟨b, off, none⟩) n c) 33).keep (alloc_below _ (.cells #[.int .i64 0, .slice none 0 0] 51)))
  have R := hidden (Res.new (w.alloc (.cells #[.slice (some ⟨b, off, none⟩) n c] 33)) (.int .i64 0) (.slice none 0 0) 51)
  have B := hidden (keepB (alloc_below w (.cells #[.slice (some ⟨b, off, none⟩) n c] 33)) (alloc_below _ (.cells #[.int .i64 0, .slice none 0 0] 51)))
  have Q := hidden (h.keep B.out)
  have I := hidden (h'.keep B.out)
  have HK := hidden hk
  have HK' := hidden hk'
  rw [World.size_alloc] at R
  clear h h' hk hk'
  generalize hL : pkAll m D = L
  have HL := hidden hL
  clear hL
  have x0 := X.out.c0
  go_enter Try.func25, Try.ntmps25
  go_wp2_with fail
  with_reducible refine (specEqs_any _ _ _ _ _ _ _ _ N A D _ Q.out I.out HK.out HK'.out).mono ?_
  rintro e w1 ⟨rfl, hb⟩
  replace R := hidden (R.out.keep hb)
  replace B := hidden (keepB B.out hb)
  replace I := hidden (I.out.keep hb)
  clear hb Q X x0
  by_cases hf : eqsF n N A m D = 0
  · have HF := hidden hf
    rw [hf]
    clear hf
    have S := hidden (l5PackAll_any _ _ _ c' D _ I.out (eqs_pk HF.out))
    rw [HL.out] at S
    go_wp2_with fail
    with_reducible refine S.out.mono ?_
    rintro r w3 ⟨g, d, rfl, hgg, ho, hb⟩
    have O := hidden ho
    have RB := hidden (Nat.lt_of_lt_of_le R.out.blk hgg)
    replace R := hidden (R.out.keep hb)
    replace B := hidden (keepB B.out hb)
    clear hb I ho hgg S
    obtain ⟨K, hK⟩ : ∃ K, K = L.length := ⟨_, rfl⟩
    have HKK := hidden hK
    rw [← hK] at O ⊢
    clear hK
    obtain ⟨_, q0, q1, f0, f1⟩ := id R.out
    go_wp2
    have rb := RB.out
    exact bodyPost_ret (v := .agg #[.int .i64 0, .slice (some ⟨g, 0, none⟩) K d]) (by simp [results, Try.results25, go_sem, q0, q1]) rfl ⟨Or.inr ⟨HF.out, g, d, by rw [HKK.out], by omega, by
        rw [← HKK.out]; exact ((O.out.other _ _ (by show g ≠ w.heap.size + 1; omega)).other _ _ (by show g ≠ w.heap.size + 1; omega)).base (by omega)⟩, (B.out.setCell (by simp) _).setCell (by simp) _⟩
  · have HN := hidden hf
    have hf' : (eqsF n N A m D != 0) = true := by simpa using hf
    generalize hz : eqsF n N A m D = z at hf' HN ⊢
    have HZ := hidden hz
    clear hz
    clear hf
    obtain ⟨_, q0, q1, f0, f1⟩ := id R.out
    go_wp2
    exact bodyPost_ret (v := .agg #[.int .i64 z, .slice none 0 0]) (by simp [results, Try.results25, go_sem, q0, q1]) rfl ⟨Or.inl ⟨by rw [HZ.out]; exact HN.out, by rw [HZ.out]⟩, (B.out.setCell (by simp) _).setCell (by simp) _⟩

end Go.Proofs.Ytfandhpjignabaa
