/- Contracts: AreJoined, as the model and as the program tells it. -/
import Derived.Test.YtbdgnpjbmlcchaaNrmF
namespace Go.Proofs.Ytbdgnpjbmlcchaa
open Go.RowKit

set_option maxRecDepth 20000 in
set_option maxHeartbeats 400000 in
theorem truth1_any (w : World) : Calls Try.prog 23 #[.bool true] w fun e w' => e = .returned (.agg #[.int .i64 0, .int .i64 1]) ∧ Below w.heap.size w w' := by
  go_enter Try.func23, Try.ntmps23
  go_wp2
  exact bodyPost_ret (v := .agg #[.int .i64 0, .int .i64 1]) (by simp [results, Try.results23, go_sem]) rfl ⟨rfl, by first | exact alloc_below _ _ | exact (((alloc_below _ _).setCell (by simp) _).setCell (by simp) _)⟩

set_option maxRecDepth 20000 in
set_option maxHeartbeats 400000 in
theorem truth0_any (w : World) : Calls Try.prog 23 #[.bool false] w fun e w' => e = .returned (.agg #[.int .i64 0, .int .i64 0]) ∧ Below w.heap.size w w' := by
  go_enter Try.func23, Try.ntmps23
  go_wp2
  exact bodyPost_ret (v := .agg #[.int .i64 0, .int .i64 0]) (by simp [results, Try.results23, go_sem]) rfl ⟨rfl, by first | exact alloc_below _ _ | exact (((alloc_below _ _).setCell (by simp) _).setCell (by simp) _)⟩

/-- AreJoined's code and number. -/
noncomputable def ajC (n : Nat) (N : Nat → ByteArray) (A : Nat → Int) (r : Nat) (D : EqL) (x : Int) (m2 : Nat) (T2 : Nat → Int) (m3 : Nat) (T3 : Nat → Int) : Int :=
  if (nmF n N A r D x m2 T2).C = 0 then (nmF n N A r D x m3 T3).C else (nmF n N A r D x m2 T2).C
noncomputable def jnV (R2 R3 : NfR) : Int := if R3.C = 0 then (if sameI R2.K R3.K R2.U R3.U = true then 1 else 0) else 0
noncomputable def ajV (n : Nat) (N : Nat → ByteArray) (A : Nat → Int) (r : Nat) (D : EqL) (x : Int) (m2 : Nat) (T2 : Nat → Int) (m3 : Nat) (T3 : Nat → Int) : Int :=
  if (nmF n N A r D x m2 T2).C = 0 then jnV (nmF n N A r D x m2 T2) (nmF n N A r D x m3 T3) else 0

section
variable {n : Nat} {N : Nat → ByteArray} {A : Nat → Int} {r : Nat} {D : EqL} {x : Int} {m2 m3 m : Nat} {T2 T3 T : Nat → Int}
theorem aj_first (h : (nmF n N A r D x m2 T2).C ≠ 0) : ajC n N A r D x m2 T2 m3 T3 = (nmF n N A r D x m2 T2).C ∧ ajV n N A r D x m2 T2 m3 T3 = 0 := by simp [ajC, ajV, h]
theorem aj_then (h : (nmF n N A r D x m2 T2).C = 0) : ajC n N A r D x m2 T2 m3 T3 = (nmF n N A r D x m3 T3).C ∧ ajV n N A r D x m2 T2 m3 T3 = jnV (nmF n N A r D x m2 T2) (nmF n N A r D x m3 T3) := by simp [ajC, ajV, h]
theorem jn_bad {R2 R3 : NfR} (h : R3.C ≠ 0) : jnV R2 R3 = 0 := by simp [jnV, h]
theorem jn_same {R2 R3 : NfR} (h : R3.C = 0) (hs : sameI R2.K R3.K R2.U R3.U = true) : jnV R2 R3 = 1 := by simp [jnV, h, hs]
theorem jn_other {R2 R3 : NfR} (h : R3.C = 0) (hs : sameI R2.K R3.K R2.U R3.U = false) : jnV R2 R3 = 0 := by simp [jnV, h, hs]
theorem nm_zero (h : (nmF n N A r D x m T).C = 0) : boF n N A r D m T = 0 ∧ ∃ z : Nat, x = z ∧ z ≤ 200 := by
  by_cases hb : boF n N A r D m T = 0
  · refine ⟨hb, ?_⟩
    by_cases hx : 0 ≤ x ∧ x ≤ 200
    · exact ⟨x.toNat, by omega, by omega⟩
    · rw [nm_range hb hx] at h; exact absurd h (by show (3 : Int) ≠ 0; decide)
  · rw [nm_bo hb] at h; exact absurd h hb
end

set_option maxRecDepth 20000 in
set_option maxHeartbeats 6400000 in
theorem l8Joined_any (Bs : Nat) (b off n c b1 o1 r c1 b2 o2 m2 c2 b3 o3 m3 c3 : Nat) (N : Nat → ByteArray) (A T2 T3 : Nat → Int) (D : EqL) (z : Nat) (w : World) (hs : One w Bs (.slice (some ⟨b, off, none⟩) n c)) (h : Syms w b off n N A) (hD : Eqs w b1 o1 r D) (h2 : Ints w b2 o2 m2 T2) (h3 : Ints w b3 o3 m3 T3) (hg2 : Trm n A m2 T2) (hg3 : Trm n A m3 T3) (hr : EqOk n A r D) (hz : z ≤ 200) (h0 : (nfR A D r z 0 m2 T2).C = 0) :
    Calls Try.prog 19 #[.pointer (some ⟨Bs, 0, none⟩), .slice (some ⟨b1, o1, none⟩) r c1, .slice (some ⟨b2, o2, none⟩) m2 c2, .slice (some ⟨b3, o3, none⟩) m3 c3, .int .i64 (z : Nat)] w fun e w' => e = .returned (.tuple #[.int .i64 (jnV (nfR A D r z 0 m2 T2) (nfR A D r z 0 m3 T3)), .int .i64 (nfR A D r z 0 m3 T3).C]) ∧ Below w.heap.size w w' := by
  have HS := hidden hs
  have HY := hidden h
  have HD := hidden hD
  have H3 := hidden h3
  have G3 := hidden hg3
  have HE := hidden hr
  have S1 := hidden (l8Normal_any Bs b off n c b1 o1 r c1 b2 o2 m2 c2 z N A T2 D w hs h hD h2 hg2 hr hz)
  obtain ⟨R2, hR2⟩ : ∃ R, R = nfR A D r z 0 m2 T2 := ⟨_, rfl⟩
  obtain ⟨R3, hR3⟩ : ∃ R, R = nfR A D r z 0 m3 T3 := ⟨_, rfl⟩
  have HR3 := hidden hR3
  rw [← hR2] at S1 h0
  rw [← hR2, ← hR3]
  obtain ⟨C2, s2, K2, U2⟩ := R2
  obtain ⟨C3, s3, K3, U3⟩ := R3
  have H0 := hidden (show C2 = 0 from h0)
  obtain ⟨zv, hzv⟩ : ∃ v, v = jnV ⟨C2, s2, K2, U2⟩ ⟨C3, s3, K3, U3⟩ := ⟨_, rfl⟩
  have HZV := hidden hzv
  rw [← hzv]
  simp only
  clear hs h hD h2 h3 hg2 hg3 hr hR2 hR3 h0 hzv
  go_enter Try.func19, Try.ntmps19
  go_wp2_with fail
  with_reducible refine S1.out.mono ?_
  rintro e w1 ⟨ha, hb⟩
  have B1 := hidden hb
  clear hb S1
  rcases ha with ⟨hne, -⟩ | ⟨-, g, d, rfl, hg, ho, hk24⟩
  · exact absurd H0.out hne
  have Y1 := hidden (Num3.new w1 (.int .i64 0) (.slice (some ⟨g, 0, none⟩) K2 d) (.int .i64 (s2 : Nat)) 49)
  have hb := alloc_below w1 (.cells #[.int .i64 0, .slice (some ⟨g, 0, none⟩) K2 d, .int .i64 (s2 : Nat)] 49)
  have O1 := hidden (ho.keep hb)
  replace B1 := hidden (keepB B1.out hb)
  have S3 := hidden (l8Normal_any Bs b off n c b1 o1 r c1 b3 o3 m3 c3 z N A T3 D _ (HS.out.keep B1.out) (HY.out.keep B1.out) (HD.out.keep B1.out) (H3.out.keep B1.out) G3.out HE.out hz)
  rw [← HR3.out] at S3
  simp only at hk24
  clear ho hb hg
  have y0 := Y1.out.c0
  go_wp2_with fail
  with_reducible refine S3.out.mono ?_
  rintro e w2 ⟨ha, hb⟩
  replace Y1 := hidden (Y1.out.keep hb)
  replace O1 := hidden (O1.out.keep hb)
  replace B1 := hidden (keepB B1.out hb)
  clear hb S3 y0
  rcases ha with ⟨hne, rfl⟩ | ⟨h00, g3, d3, rfl, hg3, ho3, hk3⟩
  · have HV := hidden (show zv = 0 by rw [HZV.out, jn_bad hne])
    simp only at hne ⊢
    have hne' : (C3 != 0) = true := by simpa using hne
    have Y2 := hidden (Num3.new w2 (.int .i64 C3) (.slice none 0 0) (.int .i64 0) 49)
    have hb := alloc_below w2 (.cells #[.int .i64 C3, .slice none 0 0, .int .i64 0] 49)
    replace B1 := hidden (keepB B1.out hb)
    clear hb hne
    have y0 := Y2.out.c0
    go_wp2_with fail
    go_big_region
    go_wp2_with fail
    exact bodyPost_ret (v := .tuple #[.int .i64 0, .int .i64 C3]) (by simp [results, Try.results19, go_sem]) rfl ⟨by rw [HV.out], below_drewN B1.out _⟩
  · have H00 := hidden (show C3 = 0 from h00)
    have hb := alloc_below w2 (.cells #[.int .i64 0, .slice (some ⟨g3, 0, none⟩) K3 d3, .int .i64 (s3 : Nat)] 49)
    have Y2 := hidden (Num3.new w2 (.int .i64 0) (.slice (some ⟨g3, 0, none⟩) K3 d3) (.int .i64 (s3 : Nat)) 49)
    have O3 := hidden (ho3.keep hb)
    replace O1 := hidden (O1.out.keep hb)
    replace Y1 := hidden (Y1.out.keep hb)
    replace B1 := hidden (keepB B1.out hb)
    have SS := hidden (l1Same_any g 0 K2 d g3 0 K3 d3 U2 U3 _ O1.out.ints O3.out.ints (by omega))
    clear hb h00 hg3 ho3
    simp only
    have y0 := Y2.out.c0
    have y1 := Y1.out.c1
    have y2 := Y2.out.c1
    go_wp2_with fail
    with_reducible refine SS.out.mono ?_
    rintro e w3 ⟨rfl, hb⟩
    replace B1 := hidden (keepB B1.out hb)
    clear hb SS y0 y1 y2
    cases hs : sameI K2 K3 U2 U3 with
    | true =>
      have HV := hidden (show zv = 1 by rw [HZV.out]; exact jn_same H00.out hs)
      clear hs
      go_wp2
      exact bodyPost_ret (v := .tuple #[.int .i64 1, .int .i64 0]) (by simp [results, Try.results19, go_sem]) rfl ⟨by rw [HV.out, H00.out], B1.out⟩
    | false =>
      have HV := hidden (show zv = 0 by rw [HZV.out]; exact jn_other H00.out hs)
      clear hs
      go_wp2
      exact bodyPost_ret (v := .tuple #[.int .i64 0, .int .i64 0]) (by simp [results, Try.results19, go_sem]) rfl ⟨by rw [HV.out, H00.out], B1.out⟩

set_option maxRecDepth 20000 in
set_option maxHeartbeats 6400000 in
theorem specAj_any (b off n c b1 o1 r c1 b2 o2 m2 c2 b3 o3 m3 c3 : Nat) (N : Nat → ByteArray) (A T2 T3 : Nat → Int) (D : EqL) (x : Int) (w : World) (h : Syms w b off n N A) (hD : Eqs w b1 o1 r D) (h2 : Ints w b2 o2 m2 T2) (h3 : Ints w b3 o3 m3 T3) (hk : Kept n N A) (hk' : KeptE r D) (hm2 : m2 ≤ 1048576) (hm3 : m3 ≤ 1048576) :
    Calls Try.prog 6 #[.agg #[.slice (some ⟨b, off, none⟩) n c], .slice (some ⟨b1, o1, none⟩) r c1, .slice (some ⟨b2, o2, none⟩) m2 c2, .slice (some ⟨b3, o3, none⟩) m3 c3, .int .i64 x] w fun e w' => e = .returned (.agg #[.int .i64 (ajC n N A r D x m2 T2 m3 T3), .int .i64 (ajV n N A r D x m2 T2 m3 T3)]) ∧ Below w.heap.size w w' := by
  have X := hidden ((One.new w (.slice (some ⟨b, off, none⟩) n c) 34).keep (alloc_below _ (.cells #[.int .i64 0, .int .i64 0] 30)))
  have R := hidden (show Res ((w.alloc (.cells #[.slice (some ⟨b, off, none⟩) n c] 34)).alloc (.cells #[.int .i64 0, .int .i64 0] 30)) (w.heap.size + 1) (.int .i64 0) (.int .i64 0) by
    have := Res.new (w.alloc (.cells #[.slice (some ⟨b, off, none⟩) n c] 34)) (.int .i64 0) (.int .i64 0) 30
    rwa [World.size_alloc] at this)
  have B := hidden (keepB (alloc_below w (.cells #[.slice (some ⟨b, off, none⟩) n c] 34)) (alloc_below _ (.cells #[.int .i64 0, .int .i64 0] 30)))
  have Q := hidden (h.keep B.out)
  have I2 := hidden (h2.keep B.out)
  have I3 := hidden (h3.keep B.out)
  have ID := hidden (hD.keep B.out)
  have HK := hidden hk
  have HK' := hidden hk'
  clear h h2 h3 hD hk hk'
  obtain ⟨zc, hzc⟩ : ∃ z, z = ajC n N A r D x m2 T2 m3 T3 := ⟨_, rfl⟩
  obtain ⟨zv, hzv⟩ : ∃ z, z = ajV n N A r D x m2 T2 m3 T3 := ⟨_, rfl⟩
  have HZC := hidden hzc
  have HZV := hidden hzv
  rw [← hzc, ← hzv]
  clear hzc hzv
  have S1 := hidden (specNf_any b off n c b1 o1 r c1 b2 o2 m2 c2 N A T2 D x _ Q.out ID.out I2.out HK.out HK'.out hm2)
  have x0 := X.out.c0
  go_enter Try.func6, Try.ntmps6
  go_wp2_with fail
  with_reducible refine S1.out.mono ?_
  rintro e w1 ⟨ha, hb⟩
  replace X := hidden (X.out.keep hb)
  replace R := hidden (R.out.keep hb)
  replace Q := hidden (Q.out.keep hb)
  replace I2 := hidden (I2.out.keep hb)
  replace I3 := hidden (I3.out.keep hb)
  replace ID := hidden (ID.out.keep hb)
  replace B := hidden (keepB B.out hb)
  clear hb S1 x0
  rcases ha with ⟨hne, rfl⟩ | ⟨h00, g, d, rfl, hg, ho, hk24⟩
  · have HNE := hidden hne
    have HA := hidden (aj_first (m3 := m3) (T3 := T3) hne)
    obtain ⟨q, hq⟩ : ∃ q, q = (nmF n N A r D x m2 T2).C := ⟨_, rfl⟩
    have HQ := hidden hq
    have hne' : (q != 0) = true := by rw [hq]; simpa using hne
    rw [← hq]
    clear hne hq
    have y0 := (Num3.new w1 (.int .i64 q) (.slice none 0 0) (.int .i64 0) 49).c0
    have hb := alloc_below w1 (.cells #[.int .i64 q, .slice none 0 0, .int .i64 0] 49)
    replace R := hidden (R.out.keep hb)
    replace B := hidden (keepB B.out hb)
    clear hb
    obtain ⟨_, q0, q1, f0, f1⟩ := id R.out
    go_wp2
    exact bodyPost_ret (v := .agg #[.int .i64 q, .int .i64 0]) (by simp [results, Try.results6, go_sem, q0, q1]) rfl ⟨by rw [HZC.out, HZV.out, HA.out.1, HA.out.2, HQ.out], (B.out.setCell (by simp) _).setCell (by simp) _⟩
  · have HA := hidden (aj_then (m3 := m3) (T3 := T3) h00)
    obtain ⟨z, hz⟩ := (nm_zero h00).2
    have hz200 := hz.2
    have HB2 := hidden (nm_zero h00).1
    have HN2 := hidden (nm_ok (N := N) HB2.out hz.1 hz200)
    have H00 := hidden (show (nfR A D r z 0 m2 T2).C = 0 by rw [← HN2.out]; exact h00)
    have OK := hidden (bo_trm HB2.out)
    obtain ⟨KK, hKK⟩ : ∃ q, q = (nmF n N A r D x m2 T2).K := ⟨_, rfl⟩
    obtain ⟨ss, hss⟩ : ∃ q, q = (nmF n N A r D x m2 T2).steps := ⟨_, rfl⟩
    rw [← hKK, ← hss]
    clear h00 ho hk24 hg hKK hss
    have y0 := (Num3.new w1 (.int .i64 0) (.slice (some ⟨g, 0, none⟩) KK d) (.int .i64 (ss : Nat)) 49).c0
    have hb := alloc_below w1 (.cells #[.int .i64 0, .slice (some ⟨g, 0, none⟩) KK d, .int .i64 (ss : Nat)] 49)
    replace X := hidden (X.out.keep hb)
    replace R := hidden (R.out.keep hb)
    replace Q := hidden (Q.out.keep hb)
    replace I2 := hidden (I2.out.keep hb)
    replace I3 := hidden (I3.out.keep hb)
    replace ID := hidden (ID.out.keep hb)
    replace B := hidden (keepB B.out hb)
    clear hb
    have S2 := hidden (l3Fault_all _ _ _ _ _ _ _ m3 c3 N A T3 _ X.out Q.out I3.out OK.out.1.eqs.sig hm3)
    go_wp2_with fail
    with_reducible refine S2.out.mono ?_
    rintro e w2 ⟨rfl, hb⟩
    replace X := hidden (X.out.keep hb)
    replace R := hidden (R.out.keep hb)
    replace Q := hidden (Q.out.keep hb)
    replace I2 := hidden (I2.out.keep hb)
    replace I3 := hidden (I3.out.keep hb)
    replace ID := hidden (ID.out.keep hb)
    replace B := hidden (keepB B.out hb)
    clear hb S2 y0
    have HBO := hidden (bo_l (T := T3) (m := m3) (bo_ok HB2.out).1)
    by_cases hl : lF n A m3 T3 = 0
    · have HB3 := hidden (HBO.out.trans hl)
      have OK3 := hidden (bo_trm HB3.out)
      have HN3 := hidden (nm_ok (N := N) HB3.out hz.1 hz200)
      obtain rfl := hz.1
      rw [hl]
      clear hl hz
      have S3 := hidden (l8Joined_any _ b off n c b1 o1 r c1 b2 o2 m2 c2 b3 o3 m3 c3 N A T2 T3 D z _ X.out Q.out ID.out I2.out I3.out OK.out.2 OK3.out.2 OK.out.1.eqs hz200 H00.out)
      rw [← HN2.out, ← HN3.out, ← HA.out.1, ← HA.out.2, ← HZC.out, ← HZV.out] at S3
      go_wp2_with fail
      with_reducible refine S3.out.mono ?_
      rintro e w3 ⟨rfl, hb⟩
      replace R := hidden (R.out.keep hb)
      replace B := hidden (keepB B.out hb)
      clear hb S3
      obtain ⟨_, q0, q1, f0, f1⟩ := id R.out
      go_wp2
      exact bodyPost_ret (v := .agg #[.int .i64 zc, .int .i64 zv]) (by simp [results, Try.results6, go_sem, q0, q1]) rfl ⟨rfl, (B.out.setCell (by simp) _).setCell (by simp) _⟩
    · have HQ := hidden (show zc = lF n A m3 T3 ∧ zv = 0 by
        have hb : boF n N A r D m3 T3 ≠ 0 := by rw [HBO.out]; exact hl
        rw [HZC.out, HZV.out, HA.out.1, HA.out.2, nm_bo hb]
        exact ⟨HBO.out, jn_bad hb⟩)
      have hl' : (lF n A m3 T3 != 0) = true := by simpa using hl
      generalize lF n A m3 T3 = q at *
      clear hl hz
      obtain ⟨_, q0, q1, f0, f1⟩ := id R.out
      go_wp2
      exact bodyPost_ret (v := .agg #[.int .i64 q, .int .i64 0]) (by simp [results, Try.results6, go_sem, q0, q1]) rfl ⟨by rw [HQ.out.1, HQ.out.2], (B.out.setCell (by simp) _).setCell (by simp) _⟩

set_option maxRecDepth 20000 in
set_option maxHeartbeats 6400000 in
theorem implAj_any (b off n c b1 o1 r c1 b2 o2 m2 c2 b3 o3 m3 c3 : Nat) (N : Nat → ByteArray) (A T2 T3 : Nat → Int) (D : EqL) (x : Int) (w : World) (h : Syms w b off n N A) (hD : Eqs w b1 o1 r D) (h2 : Ints w b2 o2 m2 T2) (h3 : Ints w b3 o3 m3 T3) (hk : Kept n N A) (hk' : KeptE r D) (hm2 : m2 ≤ 1048576) (hm3 : m3 ≤ 1048576) :
    Calls Try.prog 10 #[.agg #[.slice (some ⟨b, off, none⟩) n c], .slice (some ⟨b1, o1, none⟩) r c1, .slice (some ⟨b2, o2, none⟩) m2 c2, .slice (some ⟨b3, o3, none⟩) m3 c3, .int .i64 x] w fun e w' => e = .returned (.agg #[.int .i64 (ajC n N A r D x m2 T2 m3 T3), .int .i64 (ajV n N A r D x m2 T2 m3 T3)]) ∧ Below w.heap.size w w' := by
  have X := hidden ((One.new w (.slice (some ⟨b, off, none⟩) n c) 34).keep (alloc_below _ (.cells #[.int .i64 0, .int .i64 0] 30)))
  have R := hidden (show Res ((w.alloc (.cells #[.slice (some ⟨b, off, none⟩) n c] 34)).alloc (.cells #[.int .i64 0, .int .i64 0] 30)) (w.heap.size + 1) (.int .i64 0) (.int .i64 0) by
    have := Res.new (w.alloc (.cells #[.slice (some ⟨b, off, none⟩) n c] 34)) (.int .i64 0) (.int .i64 0) 30
    rwa [World.size_alloc] at this)
  have B := hidden (keepB (alloc_below w (.cells #[.slice (some ⟨b, off, none⟩) n c] 34)) (alloc_below _ (.cells #[.int .i64 0, .int .i64 0] 30)))
  have Q := hidden (h.keep B.out)
  have I2 := hidden (h2.keep B.out)
  have I3 := hidden (h3.keep B.out)
  have ID := hidden (hD.keep B.out)
  have HK := hidden hk
  have HK' := hidden hk'
  clear h h2 h3 hD hk hk'
  obtain ⟨zc, hzc⟩ : ∃ z, z = ajC n N A r D x m2 T2 m3 T3 := ⟨_, rfl⟩
  obtain ⟨zv, hzv⟩ : ∃ z, z = ajV n N A r D x m2 T2 m3 T3 := ⟨_, rfl⟩
  have HZC := hidden hzc
  have HZV := hidden hzv
  rw [← hzc, ← hzv]
  clear hzc hzv
  have S1 := hidden (implNf_any b off n c b1 o1 r c1 b2 o2 m2 c2 N A T2 D x _ Q.out ID.out I2.out HK.out HK'.out hm2)
  have x0 := X.out.c0
  go_enter Try.func10, Try.ntmps10
  go_wp2_with fail
  with_reducible refine S1.out.mono ?_
  rintro e w1 ⟨ha, hb⟩
  replace X := hidden (X.out.keep hb)
  replace R := hidden (R.out.keep hb)
  replace Q := hidden (Q.out.keep hb)
  replace I2 := hidden (I2.out.keep hb)
  replace I3 := hidden (I3.out.keep hb)
  replace ID := hidden (ID.out.keep hb)
  replace B := hidden (keepB B.out hb)
  clear hb S1 x0
  rcases ha with ⟨hne, rfl⟩ | ⟨h00, g, d, rfl, hg, ho, hk24⟩
  · have HNE := hidden hne
    have HA := hidden (aj_first (m3 := m3) (T3 := T3) hne)
    obtain ⟨q, hq⟩ : ∃ q, q = (nmF n N A r D x m2 T2).C := ⟨_, rfl⟩
    have HQ := hidden hq
    have hne' : (q != 0) = true := by rw [hq]; simpa using hne
    rw [← hq]
    clear hne hq
    have y0 := (Num3.new w1 (.int .i64 q) (.slice none 0 0) (.int .i64 0) 49).c0
    have hb := alloc_below w1 (.cells #[.int .i64 q, .slice none 0 0, .int .i64 0] 49)
    replace R := hidden (R.out.keep hb)
    replace B := hidden (keepB B.out hb)
    clear hb
    obtain ⟨_, q0, q1, f0, f1⟩ := id R.out
    go_wp2
    exact bodyPost_ret (v := .agg #[.int .i64 q, .int .i64 0]) (by simp [results, Try.results10, go_sem, q0, q1]) rfl ⟨by rw [HZC.out, HZV.out, HA.out.1, HA.out.2, HQ.out], (B.out.setCell (by simp) _).setCell (by simp) _⟩
  · have HA := hidden (aj_then (m3 := m3) (T3 := T3) h00)
    obtain ⟨R2, hR2⟩ : ∃ q, q = nmF n N A r D x m2 T2 := ⟨_, rfl⟩
    obtain ⟨R3, hR3⟩ : ∃ q, q = nmF n N A r D x m3 T3 := ⟨_, rfl⟩
    have HR3 := hidden hR3
    rw [← hR2, ← hR3] at HA
    rw [← hR2] at ho hk24 ⊢
    clear hR2 hR3 h00
    obtain ⟨C2, s2, K2, U2⟩ := R2
    obtain ⟨C3, s3, K3, U3⟩ := R3
    simp only at ho hk24 ⊢
    have Y1 := hidden (Num3.new w1 (.int .i64 0) (.slice (some ⟨g, 0, none⟩) K2 d) (.int .i64 (s2 : Nat)) 49)
    have hb := alloc_below w1 (.cells #[.int .i64 0, .slice (some ⟨g, 0, none⟩) K2 d, .int .i64 (s2 : Nat)] 49)
    have O1 := hidden (ho.keep hb)
    replace X := hidden (X.out.keep hb)
    replace R := hidden (R.out.keep hb)
    replace Q := hidden (Q.out.keep hb)
    replace I2 := hidden (I2.out.keep hb)
    replace I3 := hidden (I3.out.keep hb)
    replace ID := hidden (ID.out.keep hb)
    replace B := hidden (keepB B.out hb)
    clear hb hg ho
    have S3 := hidden (implNf_any b off n c b1 o1 r c1 b3 o3 m3 c3 N A T3 D x _ Q.out ID.out I3.out HK.out HK'.out hm3)
    rw [← HR3.out] at S3
    have y0 := Y1.out.c0
    have x0 := X.out.c0
    go_wp2_with fail
    with_reducible refine S3.out.mono ?_
    rintro e w2 ⟨ha, hb⟩
    replace X := hidden (X.out.keep hb)
    replace R := hidden (R.out.keep hb)
    replace Q := hidden (Q.out.keep hb)
    replace I2 := hidden (I2.out.keep hb)
    replace I3 := hidden (I3.out.keep hb)
    replace ID := hidden (ID.out.keep hb)
    replace Y1 := hidden (Y1.out.keep hb)
    replace O1 := hidden (O1.out.keep hb)
    replace B := hidden (keepB B.out hb)
    clear hb S3 y0 x0
    rcases ha with ⟨hne, rfl⟩ | ⟨h00, g3, d3, rfl, hg3, ho3, hk3⟩
    · have HQ := hidden (show zc = C3 ∧ zv = 0 by
        rw [HZC.out, HZV.out, HA.out.1, HA.out.2]
        exact ⟨rfl, jn_bad hne⟩)
      simp only at hne ⊢
      have hne' : (C3 != 0) = true := by simpa using hne
      clear hne
      have y0 := (Num3.new w2 (.int .i64 C3) (.slice none 0 0) (.int .i64 0) 49).c0
      have hb := alloc_below w2 (.cells #[.int .i64 C3, .slice none 0 0, .int .i64 0] 49)
      replace R := hidden (R.out.keep hb)
      replace B := hidden (keepB B.out hb)
      clear hb
      obtain ⟨_, q0, q1, f0, f1⟩ := id R.out
      go_wp2
      exact bodyPost_ret (v := .agg #[.int .i64 C3, .int .i64 0]) (by simp [results, Try.results10, go_sem, q0, q1]) rfl ⟨by rw [HQ.out.1, HQ.out.2], (B.out.setCell (by simp) _).setCell (by simp) _⟩
    · have H00 := hidden (show C3 = 0 from h00)
      have hb := alloc_below w2 (.cells #[.int .i64 0, .slice (some ⟨g3, 0, none⟩) K3 d3, .int .i64 (s3 : Nat)] 49)
      have Y2 := hidden (Num3.new w2 (.int .i64 0) (.slice (some ⟨g3, 0, none⟩) K3 d3) (.int .i64 (s3 : Nat)) 49)
      have O3 := hidden (ho3.keep hb)
      replace X := hidden (X.out.keep hb)
      replace R := hidden (R.out.keep hb)
      replace Q := hidden (Q.out.keep hb)
      replace I2 := hidden (I2.out.keep hb)
      replace I3 := hidden (I3.out.keep hb)
      replace ID := hidden (ID.out.keep hb)
      replace Y1 := hidden (Y1.out.keep hb)
      replace O1 := hidden (O1.out.keep hb)
      replace B := hidden (keepB B.out hb)
      clear hb h00 hg3 ho3
      have SS := hidden (sameTerms_any g 0 K2 d g3 0 K3 d3 U2 U3 _ O1.out.ints O3.out.ints (by omega))
      simp only
      have y0 := Y2.out.c0
      have y1 := Y1.out.c1
      have y2 := Y2.out.c1
      go_wp2_with fail
      with_reducible refine SS.out.mono ?_
      rintro e w3 ⟨rfl, hb⟩
      replace R := hidden (R.out.keep hb)
      replace B := hidden (keepB B.out hb)
      clear hb SS y0 y1 y2
      cases hs : sameI K2 K3 U2 U3 with
      | true =>
        have HQ := hidden (show zc = 0 ∧ zv = 1 by
          rw [HZC.out, HZV.out, HA.out.1, HA.out.2]
          exact ⟨H00.out, jn_same H00.out hs⟩)
        clear hs
        go_wp2_with fail
        with_reducible refine (truth1_any _).mono ?_
        rintro e w4 ⟨rfl, hb⟩
        replace R := hidden (R.out.keep hb)
        replace B := hidden (keepB B.out hb)
        clear hb
        obtain ⟨_, q0, q1, f0, f1⟩ := id R.out
        go_wp2
        exact bodyPost_ret (v := .agg #[.int .i64 0, .int .i64 1]) (by simp [results, Try.results10, go_sem, q0, q1]) rfl ⟨by rw [HQ.out.1, HQ.out.2], (B.out.setCell (by simp) _).setCell (by simp) _⟩
      | false =>
        have HQ := hidden (show zc = 0 ∧ zv = 0 by
          rw [HZC.out, HZV.out, HA.out.1, HA.out.2]
          exact ⟨H00.out, jn_other H00.out hs⟩)
        clear hs
        go_wp2_with fail
        with_reducible refine (truth0_any _).mono ?_
        rintro e w4 ⟨rfl, hb⟩
        replace R := hidden (R.out.keep hb)
        replace B := hidden (keepB B.out hb)
        clear hb
        obtain ⟨_, q0, q1, f0, f1⟩ := id R.out
        go_wp2
        exact bodyPost_ret (v := .agg #[.int .i64 0, .int .i64 0]) (by simp [results, Try.results10, go_sem, q0, q1]) rfl ⟨by rw [HQ.out.1, HQ.out.2], (B.out.setCell (by simp) _).setCell (by simp) _⟩

end Go.Proofs.Ytbdgnpjbmlcchaa
