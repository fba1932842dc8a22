/- Contracts: NormalForm, as the model and as the program does it; whether two terms are joined, as the model tells it. -/
import Derived.Test.YtbdgnpjbmlcchaaNrmI
namespace Go.Proofs.Ytbdgnpjbmlcchaa
open Go.RowKit

/-- NormalForm's answer. -/
noncomputable def nmF (n : Nat) (N : Nat → ByteArray) (A : Nat → Int) (r : Nat) (D : EqL) (x : Int) (m : Nat) (T : Nat → Int) : NfR :=
  if boF n N A r D m T = 0 then (if 0 ≤ x ∧ x ≤ 200 then nfR A D r x.toNat 0 m T else ⟨3, 0, 0, T⟩) else ⟨boF n N A r D m T, 0, 0, T⟩

section
variable {n : Nat} {N : Nat → ByteArray} {A : Nat → Int} {r : Nat} {D : EqL} {x : Int} {m : Nat} {T : Nat → Int}
theorem nm_bo (h : boF n N A r D m T ≠ 0) : nmF n N A r D x m T = ⟨boF n N A r D m T, 0, 0, T⟩ := by rw [nmF, if_neg h]
theorem nm_range (h : boF n N A r D m T = 0) (hx : ¬ (0 ≤ x ∧ x ≤ 200)) : nmF n N A r D x m T = ⟨3, 0, 0, T⟩ := by rw [nmF, if_pos h, if_neg hx]
theorem nm_ok (h : boF n N A r D m T = 0) {z : Nat} (hx : x = z) (hz : z ≤ 200) : nmF n N A r D x m T = nfR A D r z 0 m T := by
  subst hx; rw [nmF, if_pos h, if_pos ⟨by omega, by omega⟩]; rfl
end

set_option maxRecDepth 20000 in
set_option maxHeartbeats 6400000 in
theorem specNf_any (b off n c b1 o1 r c1 b' off' m c' : Nat) (N : Nat → ByteArray) (A T : Nat → Int) (D : EqL) (x : Int) (w : World) (h : Syms w b off n N A) (hD : Eqs w b1 o1 r D) (h' : Ints w b' off' m T) (hk : Kept n N A) (hk' : KeptE r D) (hm : m ≤ 1048576) :
    Calls Try.prog 17 #[.agg #[.slice (some ⟨b, off, none⟩) n c], .slice (some ⟨b1, o1, none⟩) r c1, .slice (some ⟨b', off', none⟩) m c', .int .i64 x] w fun e w' => NfAns w (nmF n N A r D x m T) e w' ∧ Below w.heap.size w w' := by
  have X := hidden ((One.new w (.slice (some ⟨b, off, none⟩) n c) 34).keep (alloc_below _ (.cells #[.int .i64 0, .slice none 0 0, .int .i64 0] 49)))
  have R := hidden (show Num3 ((w.alloc (.cells #[.slice (some ⟨b, off, none⟩) n c] 34)).alloc (.cells #[.int .i64 0, .slice none 0 0, .int .i64 0] 49)) (w.heap.size + 1) (.int .i64 0) (.slice none 0 0) (.int .i64 0) by
    have := Num3.new (w.alloc (.cells #[.slice (some ⟨b, off, none⟩) n c] 34)) (.int .i64 0) (.slice none 0 0) (.int .i64 0) 49
    rwa [World.size_alloc] at this)
  have B := hidden (keepB (alloc_below w (.cells #[.slice (some ⟨b, off, none⟩) n c] 34)) (alloc_below _ (.cells #[.int .i64 0, .slice none 0 0, .int .i64 0] 49)))
  have Q := hidden (h.keep B.out)
  have I := hidden (h'.keep B.out)
  have ID := hidden (hD.keep B.out)
  have HK := hidden hk
  have HK' := hidden hk'
  clear h h' hD hk hk'
  go_enter Try.func17, Try.ntmps17
  go_wp2_with fail
  with_reducible refine (l8Both_any _ _ _ _ _ _ _ _ _ _ _ _ _ N A T D _ X.out Q.out ID.out I.out HK.out HK'.out hm).mono ?_
  rintro e w1 ⟨rfl, hb⟩
  replace X := hidden (X.out.keep hb)
  replace R := hidden (R.out.keep hb)
  replace Q := hidden (Q.out.keep hb)
  replace I := hidden (I.out.keep hb)
  replace ID := hidden (ID.out.keep hb)
  replace B := hidden (keepB B.out hb)
  clear hb
  by_cases hz : boF n N A r D m T = 0
  · have OK := hidden (bo_trm hz)
    have HZ := hidden hz
    have hr12 := (bo_trm hz).1.eqs.most
    rw [hz]
    clear hz
    go_wp2_with fail
    with_reducible refine (l1In_any _ _ _ _).mono ?_
    rintro e w2 ⟨rfl, hb⟩
    replace X := hidden (X.out.keep hb)
    replace R := hidden (R.out.keep hb)
    replace Q := hidden (Q.out.keep hb)
    replace I := hidden (I.out.keep hb)
    replace ID := hidden (ID.out.keep hb)
    replace B := hidden (keepB B.out hb)
    clear hb
    by_cases hx : 0 ≤ x ∧ x ≤ 200
    · rw [show decide (0 ≤ x ∧ x ≤ 200) = true by simp; omega]
      obtain ⟨z, hz⟩ : ∃ z : Nat, x = z := ⟨x.toNat, by omega⟩
      have hz200 : z ≤ 200 := by omega
      have HA := hidden (nm_ok (N := N) HZ.out hz hz200)
      subst hz
      clear hx
      have S := hidden (l8Normal_any w.heap.size b off n c b1 o1 r c1 b' off' m c' z N A T D w2 X.out Q.out ID.out I.out OK.out.2 OK.out.1.eqs hz200)
      go_wp2_with fail
      with_reducible refine S.out.mono ?_
      rintro e1 w4 ⟨ha, hb⟩
      have hR := R.out.blk
      replace R := hidden (R.out.keep hb)
      replace B := hidden (keepB B.out hb)
      clear hb S
      obtain ⟨RR, hRR⟩ : ∃ RR, RR = nfR A D r z 0 m T := ⟨_, rfl⟩
      replace HA := hidden (HA.out.trans hRR.symm)
      rw [← hRR] at ha
      clear hRR
      obtain ⟨C0, s0, K0, U0⟩ := RR
      rcases ha with ⟨hne, rfl⟩ | ⟨h00, g, d, rfl, hg, ho, hk24⟩
      · have HNE := hidden hne
        clear hne
        simp only
        obtain ⟨_, q0, q1, q2, f0, f1, f2⟩ := id R.out
        go_wp2
        exact bodyPost_ret (v := .agg #[.int .i64 C0, .slice none 0 0, .int .i64 0]) (by simp [results, Try.results17, go_sem, q0, q1, q2]) rfl ⟨by rw [HA.out]; exact Or.inl ⟨HNE.out, rfl⟩, ((B.out.setCell (by simp) _).setCell (by simp) _).setCell (by simp) _⟩
      · have H00 := hidden h00
        have OO := hidden ho
        have hg2 : w.heap.size + 1 < g := by omega
        clear h00 ho hg
        simp only at hk24 ⊢
        obtain ⟨_, q0, q1, q2, f0, f1, f2⟩ := id R.out
        go_wp2
        exact bodyPost_ret (v := .agg #[.int .i64 0, .slice (some ⟨g, 0, none⟩) K0 d, .int .i64 (s0 : Nat)]) (by simp [results, Try.results17, go_sem, q0, q1, q2]) rfl ⟨by rw [HA.out]; exact Or.inr ⟨H00.out, g, d, rfl, by omega, (((OO.out.other _ _ (by show g ≠ w.heap.size + 1; omega)).other _ _ (by show g ≠ w.heap.size + 1; omega)).other _ _ (by show g ≠ w.heap.size + 1; omega)).base (by omega), hk24⟩, ((B.out.setCell (by simp) _).setCell (by simp) _).setCell (by simp) _⟩
    · rw [show decide (0 ≤ x ∧ x ≤ 200) = false by simp; omega]
      have HA := hidden (nm_range HZ.out hx)
      obtain ⟨_, q0, q1, q2, f0, f1, f2⟩ := id R.out
      go_wp2
      exact bodyPost_ret (v := .agg #[.int .i64 3, .slice none 0 0, .int .i64 0]) (by simp [results, Try.results17, go_sem, q0, q1, q2]) rfl ⟨by rw [HA.out]; exact Or.inl ⟨by show (3 : Int) ≠ 0; decide, rfl⟩, ((B.out.setCell (by simp) _).setCell (by simp) _).setCell (by simp) _⟩
  · have HA := hidden (nm_bo (x := x) hz)
    have HN := hidden hz
    have hz' : (boF n N A r D m T != 0) = true := by simpa using hz
    generalize boF n N A r D m T = z at *
    clear hz
    obtain ⟨_, q0, q1, q2, f0, f1, f2⟩ := id R.out
    go_wp2
    exact bodyPost_ret (v := .agg #[.int .i64 z, .slice none 0 0, .int .i64 0]) (by simp [results, Try.results17, go_sem, q0, q1, q2]) rfl ⟨by rw [HA.out]; exact Or.inl ⟨HN.out, rfl⟩, ((B.out.setCell (by simp) _).setCell (by simp) _).setCell (by simp) _⟩

def fuelB (x : Int) : Bool := decide (0 ≤ x ∧ x ≤ 200)

set_option maxRecDepth 20000 in
set_option maxHeartbeats 400000 in
theorem isFuel_any (x : Int) (w : World) :
    Calls Try.prog 37 #[.int .i64 x] w fun e w' => e = .returned (.bool (fuelB x)) ∧ Below w.heap.size w w' := by
  by_cases h0 : 0 ≤ x
  · by_cases h2 : x ≤ 200
    · have HR := hidden (show fuelB x = true by unfold fuelB; simp; omega)
      go_enter Try.func37, Try.ntmps37
      go_wp2
      go_ret
      exact ⟨by rw [HR.out]; rfl, Below.refl _ _⟩
    · have HR := hidden (show fuelB x = false by unfold fuelB; simp; omega)
      go_enter Try.func37, Try.ntmps37
      go_wp2
      go_ret
      exact ⟨by rw [HR.out]; rfl, Below.refl _ _⟩
  · have HR := hidden (show fuelB x = false by unfold fuelB; simp; omega)
    go_enter Try.func37, Try.ntmps37
    go_wp2
    go_ret
    exact ⟨by rw [HR.out]; rfl, Below.refl _ _⟩

set_option maxRecDepth 20000 in
set_option maxHeartbeats 6400000 in
theorem implNf_any (b off n c b1 o1 r c1 b' off' m c' : Nat) (N : Nat → ByteArray) (A T : Nat → Int) (D : EqL) (x : Int) (w : World) (h : Syms w b off n N A) (hD : Eqs w b1 o1 r D) (h' : Ints w b' off' m T) (hk : Kept n N A) (hk' : KeptE r D) (hm : m ≤ 1048576) :
    Calls Try.prog 22 #[.agg #[.slice (some ⟨b, off, none⟩) n c], .slice (some ⟨b1, o1, none⟩) r c1, .slice (some ⟨b', off', none⟩) m c', .int .i64 x] w fun e w' => NfAns w (nmF n N A r D x m T) e w' ∧ Below w.heap.size w w' := by
  have X := hidden ((One.new w (.slice (some ⟨b, off, none⟩) n c) 34).keep (alloc_below _ (.cells #[.int .i64 0, .slice none 0 0, .int .i64 0] 49)))
  have R := hidden (show Num3 ((w.alloc (.cells #[.slice (some ⟨b, off, none⟩) n c] 34)).alloc (.cells #[.int .i64 0, .slice none 0 0, .int .i64 0] 49)) (w.heap.size + 1) (.int .i64 0) (.slice none 0 0) (.int .i64 0) by
    have := Num3.new (w.alloc (.cells #[.slice (some ⟨b, off, none⟩) n c] 34)) (.int .i64 0) (.slice none 0 0) (.int .i64 0) 49
    rwa [World.size_alloc] at this)
  have B := hidden (keepB (alloc_below w (.cells #[.slice (some ⟨b, off, none⟩) n c] 34)) (alloc_below _ (.cells #[.int .i64 0, .slice none 0 0, .int .i64 0] 49)))
  have Q := hidden (h.keep B.out)
  have I := hidden (h'.keep B.out)
  have ID := hidden (hD.keep B.out)
  have HK := hidden hk
  have HK' := hidden hk'
  clear h h' hD hk hk'
  have x0 := (One.new w (.slice (some ⟨b, off, none⟩) n c) 34).c0
  go_enter Try.func22, Try.ntmps22
  go_wp2_with fail
  with_reducible refine (rewriteFault_any _ _ _ _ _ _ _ _ _ _ _ _ N A T D _ Q.out ID.out I.out HK.out HK'.out hm).mono ?_
  rintro e w1 ⟨rfl, hb⟩
  replace X := hidden (X.out.keep hb)
  replace R := hidden (R.out.keep hb)
  replace Q := hidden (Q.out.keep hb)
  replace I := hidden (I.out.keep hb)
  replace ID := hidden (ID.out.keep hb)
  replace B := hidden (keepB B.out hb)
  clear hb
  clear x0
  by_cases hz : boF n N A r D m T = 0
  · have HZ := hidden hz
    have hr12 := (bo_trm hz).1.eqs.most
    rw [hz]
    clear hz
    go_wp2_with fail
    with_reducible refine (isFuel_any _ _).mono ?_
    rintro e w3 ⟨rfl, hb⟩
    replace X := hidden (X.out.keep hb)
    replace R := hidden (R.out.keep hb)
    replace Q := hidden (Q.out.keep hb)
    replace I := hidden (I.out.keep hb)
    replace ID := hidden (ID.out.keep hb)
    replace B := hidden (keepB B.out hb)
    clear hb
    by_cases hx : 0 ≤ x ∧ x ≤ 200
    · obtain ⟨z, hz⟩ : ∃ z : Nat, x = z := ⟨x.toNat, by omega⟩
      have hz200 : z ≤ 200 := by omega
      have HA := hidden (nm_ok (N := N) HZ.out hz hz200)
      subst hz
      clear hx
      have S := hidden (rewriteWhole_any b off n c b1 o1 r c1 b' off' m c' z N A T D w3 Q.out ID.out I.out HK.out HZ.out hz200)
      have x0 := X.out.c0
      rw [show fuelB (z : Int) = true by unfold fuelB; simp; omega]
      go_wp2_with fail
      with_reducible refine S.out.mono ?_
      rintro e1 w4 ⟨ha, hb⟩
      have hR := R.out.blk
      replace R := hidden (R.out.keep hb)
      replace B := hidden (keepB B.out hb)
      clear hb S x0
      obtain ⟨RR, hRR⟩ : ∃ RR, RR = nfR A D r z 0 m T := ⟨_, rfl⟩
      replace HA := hidden (HA.out.trans hRR.symm)
      rw [← hRR] at ha
      clear hRR
      obtain ⟨C0, s0, K0, U0⟩ := RR
      rcases ha with ⟨hne, rfl⟩ | ⟨h00, g, d, rfl, hg, ho, hk24⟩
      · have HNE := hidden hne
        clear hne
        simp only
        obtain ⟨_, q0, q1, q2, f0, f1, f2⟩ := id R.out
        go_wp2
        exact bodyPost_ret (v := .agg #[.int .i64 C0, .slice none 0 0, .int .i64 0]) (by simp [results, Try.results22, go_sem, q0, q1, q2]) rfl ⟨by rw [HA.out]; exact Or.inl ⟨HNE.out, rfl⟩, ((B.out.setCell (by simp) _).setCell (by simp) _).setCell (by simp) _⟩
      · have H00 := hidden h00
        have OO := hidden ho
        have hg2 : w.heap.size + 1 < g := by omega
        clear h00 ho hg
        simp only at hk24 ⊢
        obtain ⟨_, q0, q1, q2, f0, f1, f2⟩ := id R.out
        go_wp2
        exact bodyPost_ret (v := .agg #[.int .i64 0, .slice (some ⟨g, 0, none⟩) K0 d, .int .i64 (s0 : Nat)]) (by simp [results, Try.results22, go_sem, q0, q1, q2]) rfl ⟨by rw [HA.out]; exact Or.inr ⟨H00.out, g, d, rfl, by omega, (((OO.out.other _ _ (by show g ≠ w.heap.size + 1; omega)).other _ _ (by show g ≠ w.heap.size + 1; omega)).other _ _ (by show g ≠ w.heap.size + 1; omega)).base (by omega), hk24⟩, ((B.out.setCell (by simp) _).setCell (by simp) _).setCell (by simp) _⟩
    · have HA := hidden (nm_range HZ.out hx)
      rw [show fuelB x = false by unfold fuelB; simp; omega]
      by_cases h1 : x < 0
      · clear hx
        obtain ⟨_, q0, q1, q2, f0, f1, f2⟩ := id R.out
        go_wp2
        exact bodyPost_ret (v := .agg #[.int .i64 3, .slice none 0 0, .int .i64 0]) (by simp [results, Try.results22, go_sem, q0, q1, q2]) rfl ⟨by rw [HA.out]; exact Or.inl ⟨by show (3 : Int) ≠ 0; decide, rfl⟩, ((B.out.setCell (by simp) _).setCell (by simp) _).setCell (by simp) _⟩
      · have h2 : 200 < x := by omega
        clear hx
        obtain ⟨_, q0, q1, q2, f0, f1, f2⟩ := id R.out
        go_wp2
        exact bodyPost_ret (v := .agg #[.int .i64 3, .slice none 0 0, .int .i64 0]) (by simp [results, Try.results22, go_sem, q0, q1, q2]) rfl ⟨by rw [HA.out]; exact Or.inl ⟨by show (3 : Int) ≠ 0; decide, rfl⟩, ((B.out.setCell (by simp) _).setCell (by simp) _).setCell (by simp) _⟩
  · have HA := hidden (nm_bo (x := x) hz)
    have HN := hidden hz
    have hz' : (boF n N A r D m T != 0) = true := by simpa using hz
    generalize boF n N A r D m T = z at *
    clear hz
    obtain ⟨_, q0, q1, q2, f0, f1, f2⟩ := id R.out
    go_wp2
    exact bodyPost_ret (v := .agg #[.int .i64 z, .slice none 0 0, .int .i64 0]) (by simp [results, Try.results22, go_sem, q0, q1, q2]) rfl ⟨by rw [HA.out]; exact Or.inl ⟨HN.out, rfl⟩, ((B.out.setCell (by simp) _).setCell (by simp) _).setCell (by simp) _⟩

end Go.Proofs.Ytbdgnpjbmlcchaa
