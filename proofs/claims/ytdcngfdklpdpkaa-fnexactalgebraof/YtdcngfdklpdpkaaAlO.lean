/- Contracts: AlgebraOf on both sides. -/
import Derived.Test.YtdcngfdklpdpkaaAlG
namespace Go.Proofs.Ytdcngfdklpdpkaa
open Go.RowKit

/-- Three cells that may be written. -/
structure Own3 (w : World) (b : Nat) (x y z : Value) : Prop where
  tr : Tr3 w b x y z
  f0 : w.frozen? ⟨b, 0, none⟩ = false
  f1 : w.frozen? ⟨b, 1, none⟩ = false
  f2 : w.frozen? ⟨b, 2, none⟩ = false
theorem Own3.new (w : World) (x y z : Value) (t : TypeId) : Own3 (w.alloc (.cells #[x, y, z] t)) w.heap.size x y z := ⟨Tr3.new _ _ _ _ _, by simp [go_sem], by simp [go_sem], by simp [go_sem]⟩
theorem Own3.keep {w w' : World} {b : Nat} {x y z : Value} (h : Own3 w b x y z) (hb : Below w.heap.size w w') : Own3 w' b x y z :=
  ⟨h.tr.keep hb, by rw [hb.frozen (p := ⟨b, 0, none⟩) h.tr.blk]; exact h.f0, by rw [hb.frozen (p := ⟨b, 1, none⟩) h.tr.blk]; exact h.f1, by rw [hb.frozen (p := ⟨b, 2, none⟩) h.tr.blk]; exact h.f2⟩
theorem Own3.later {w w' : World} {b B : Nat} {x y z : Value} (h : Own3 w b x y z) (hb : Below B w w') (hB : b < B) : Own3 w' b x y z :=
  ⟨⟨Nat.lt_of_lt_of_le h.tr.blk hb.size, by rw [hb.cell (p := ⟨b, 0, none⟩) hB]; exact h.tr.c0, by rw [hb.cell (p := ⟨b, 1, none⟩) hB]; exact h.tr.c1, by rw [hb.cell (p := ⟨b, 2, none⟩) hB]; exact h.tr.c2⟩, by rw [hb.frozen (p := ⟨b, 0, none⟩) hB]; exact h.f0, by rw [hb.frozen (p := ⟨b, 1, none⟩) hB]; exact h.f1, by rw [hb.frozen (p := ⟨b, 2, none⟩) hB]; exact h.f2⟩

open Classical in
/-- AlgebraOf's code. -/
noncomputable def aoC (n : Nat) (N : Nat → ByteArray) (A : Nat → Int) (z s : Int) : Int :=
  if faultF n N A ≠ 0 then faultF n N A else if (1 ≤ z ∧ z ≤ 3) ∧ (0 ≤ s ∧ s ≤ 65520) then 0 else 3

theorem AlAns.bad {w w' : World} {C z : Int} {n : Nat} {D : LsL} {x : Int} (h : C = x) (h0 : x ≠ 0) : AlAns w C z n D (.returned (.agg #[.int .i64 x, .int .i64 0, .slice none 0 0])) w' := Or.inl ⟨by rw [h]; exact h0, by rw [h]⟩

set_option maxRecDepth 20000 in
set_option maxHeartbeats 3200000 in
theorem specAlgOf_any (b off n c : Nat) (N : Nat → ByteArray) (A : Nat → Int) (z s0 : Int) (w : World) (h : Syms w b off n N A) (hk : Kept n N A) :
    Calls Try.prog 16 #[.agg #[.slice (some ⟨b, off, none⟩) n c], .int .i64 z, .int .i64 s0] w fun e w' => AlAns w (aoC n N A z s0) z n (algD z A s0) e w' ∧ Below w.heap.size w w' := by
  have HK := hidden hk
  have bA := alloc_below w (.cells #[.slice (some ⟨b, off, none⟩) n c] 33)
  have bB := alloc_below (w.alloc (.cells #[.slice (some ⟨b, off, none⟩) n c] 33)) (.cells #[.int .i64 0, .int .i64 0, .slice none 0 0] 41)
  have X := hidden ((One.new w (.slice (some ⟨b, off, none⟩) n c) 33).keep bB)
  have R := hidden (Own3.new (w.alloc (.cells #[.slice (some ⟨b, off, none⟩) n c] 33)) (.int .i64 0) (.int .i64 0) (.slice none 0 0) 41)
  rw [World.size_alloc] at R
  have B := hidden (keepB bA bB)
  have Q := hidden (h.keep B.out)
  clear h hk bA bB
  go_enter Try.func16, Try.ntmps16
  go_wp2_with fail
  with_reducible refine (specFault_all _ _ _ _ N A _ Q.out HK.out).mono ?_
  rintro e w1 ⟨rfl, hb⟩
  replace X := hidden (X.out.keep hb)
  replace R := hidden (R.out.keep hb)
  replace B := hidden (keepB B.out hb)
  replace Q := hidden (Q.out.keep hb)
  clear hb
  by_cases hf : faultF n N A = 0
  · have HF := hidden hf
    rw [hf]
    clear hf
    go_wp2_with fail
    with_reducible refine (l1In_any _ _ _ _).mono ?_
    rintro e w2 ⟨rfl, hb⟩
    replace X := hidden (X.out.keep hb)
    replace R := hidden (R.out.keep hb)
    replace B := hidden (keepB B.out hb)
    replace Q := hidden (Q.out.keep hb)
    clear hb
    by_cases hz : 1 ≤ z ∧ z ≤ 3
    · have HZ := hidden hz
      rw [decide_eq_true hz]
      clear hz
      go_wp2_with fail
      with_reducible refine (l1In_any _ _ _ _).mono ?_
      rintro e w3 ⟨rfl, hb⟩
      replace X := hidden (X.out.keep hb)
      replace R := hidden (R.out.keep hb)
      replace B := hidden (keepB B.out hb)
      replace Q := hidden (Q.out.keep hb)
      clear hb
      by_cases hs : 0 ≤ s0 ∧ s0 ≤ 65520
      · have HS := hidden hs
        rw [decide_eq_true hs]
        clear hs
        have HR := hidden (show aoC n N A z s0 = 0 by rw [aoC, if_neg (by simp [HF.out]), if_pos ⟨HZ.out, HS.out⟩])
        go_wp2_with fail
        with_reducible refine (l10Make_any _ _ _ _ _ N A z s0 _ X.out Q.out (fault_sound HF.out) HZ.out HS.out).mono ?_
        rintro e w4 ⟨⟨lo, hi, g, d, rfl, hlo, hmr⟩, hb⟩
        have R4 := hidden (R.out.keep hb)
        have BF := hidden (keepB B.out hb)
        have MR := hidden hmr
        have HLO := hidden (show w.heap.size + 1 < lo ∧ w.heap.size ≤ lo from by have := R.out.tr.blk; have := B.out.size; omega)
        obtain ⟨⟨_, q0, q1, q2⟩, f0, f1, f2⟩ := id R4.out
        clear hmr hb hlo
        go_wp2
        refine bodyPost_ret (v := .agg #[.int .i64 0, .int .i64 z, .slice (some ⟨g, 0, none⟩) n d]) (by simp [results, Try.results16, go_sem, q0, q1, q2]) rfl ⟨Or.inr ⟨HR.out, lo, hi, g, d, rfl, HLO.out.2, ((MR.out.setLow _ _ (by exact HLO.out.1)).setLow _ _ (by exact HLO.out.1)).setLow _ _ (by exact HLO.out.1)⟩, ((BF.out.setCell (by simp) _).setCell (by simp) _).setCell (by simp) _⟩
      · have HR := hidden (show aoC n N A z s0 = 3 by rw [aoC, if_neg (by simp [HF.out]), if_neg (by intro h; exact hs h.2)])
        rw [decide_eq_false hs]
        obtain ⟨⟨_, q0, q1, q2⟩, f0, f1, f2⟩ := id R.out
        clear hs
        go_wp2
        refine bodyPost_ret (v := .agg #[.int .i64 3, .int .i64 0, .slice none 0 0]) (by simp [results, Try.results16, go_sem, q0, q1, q2]) rfl ⟨AlAns.bad HR.out (by decide), ((B.out.setCell (by simp) _).setCell (by simp) _).setCell (by simp) _⟩
    · have HR := hidden (show aoC n N A z s0 = 3 by rw [aoC, if_neg (by simp [HF.out]), if_neg (by intro h; exact hz h.1)])
      rw [decide_eq_false hz]
      obtain ⟨⟨_, q0, q1, q2⟩, f0, f1, f2⟩ := id R.out
      clear hz
      go_wp2
      refine bodyPost_ret (v := .agg #[.int .i64 3, .int .i64 0, .slice none 0 0]) (by simp [results, Try.results16, go_sem, q0, q1, q2]) rfl ⟨AlAns.bad HR.out (by decide), ((B.out.setCell (by simp) _).setCell (by simp) _).setCell (by simp) _⟩
  · have HR := hidden (show aoC n N A z s0 = faultF n N A by rw [aoC, if_pos hf])
    have HF := hidden hf
    have hc : (faultF n N A != 0) = true := by simpa using hf
    clear hf
    generalize faultF n N A = q at *
    obtain ⟨⟨_, q0, q1, q2⟩, f0, f1, f2⟩ := id R.out
    go_wp2
    refine bodyPost_ret (v := .agg #[.int .i64 q, .int .i64 0, .slice none 0 0]) (by simp [results, Try.results16, go_sem, q0, q1, q2]) rfl ⟨AlAns.bad HR.out HF.out, ((B.out.setCell (by simp) _).setCell (by simp) _).setCell (by simp) _⟩

set_option maxRecDepth 20000 in
set_option maxHeartbeats 12800000 in
theorem implAlgOf_any (b off n c : Nat) (N : Nat → ByteArray) (A : Nat → Int) (z s0 : Int) (w : World) (h : Syms w b off n N A) (hk : Kept n N A) :
    Calls Try.prog 17 #[.agg #[.slice (some ⟨b, off, none⟩) n c], .int .i64 z, .int .i64 s0] w fun e w' => AlAns w (aoC n N A z s0) z n (algD z A s0) e w' ∧ Below w.heap.size w w' := by
  have HK := hidden hk
  have bA := alloc_below w (.cells #[.slice (some ⟨b, off, none⟩) n c] 33)
  have bB := alloc_below (w.alloc (.cells #[.slice (some ⟨b, off, none⟩) n c] 33)) (.cells #[.int .i64 0, .int .i64 0, .slice none 0 0] 41)
  have X := hidden ((One.new w (.slice (some ⟨b, off, none⟩) n c) 33).keep bB)
  have R := hidden (Own3.new (w.alloc (.cells #[.slice (some ⟨b, off, none⟩) n c] 33)) (.int .i64 0) (.int .i64 0) (.slice none 0 0) 41)
  rw [World.size_alloc] at R
  have B := hidden (keepB bA bB)
  have Q := hidden (h.keep B.out)
  have LB := hidden h.blk
  clear h hk bA bB
  go_enter Try.func17, Try.ntmps17
  go_wp2_with fail
  with_reducible refine (implFault_all _ _ _ _ N A _ Q.out HK.out).mono ?_
  rintro e w1 ⟨rfl, hb⟩
  replace X := hidden (X.out.keep hb)
  replace R := hidden (R.out.keep hb)
  replace B := hidden (keepB B.out hb)
  replace Q := hidden (Q.out.keep hb)
  clear hb
  by_cases hf : faultF n N A = 0
  · have HF := hidden hf
    rw [hf]
    clear hf
    go_wp2_with fail
    with_reducible refine (isSize_any _ _).mono ?_
    rintro e w2 ⟨rfl, hb⟩
    replace X := hidden (X.out.keep hb)
    replace R := hidden (R.out.keep hb)
    replace B := hidden (keepB B.out hb)
    replace Q := hidden (Q.out.keep hb)
    clear hb
    by_cases hz : 1 ≤ z ∧ z ≤ 3
    · have HZ := hidden hz
      rw [decide_eq_true hz]
      clear hz
      by_cases h1 : s0 < 0
      · have HR := hidden (show aoC n N A z s0 = 3 by rw [aoC, if_neg (by simp [HF.out]), if_neg (by intro h; omega)])
        obtain ⟨⟨_, q0, q1, q2⟩, f0, f1, f2⟩ := id R.out
        go_wp2
        refine bodyPost_ret (v := .agg #[.int .i64 3, .int .i64 0, .slice none 0 0]) (by simp [results, Try.results17, go_sem, q0, q1, q2]) rfl ⟨AlAns.bad HR.out (by decide), ((B.out.setCell (by simp) _).setCell (by simp) _).setCell (by simp) _⟩
      · by_cases h2 : s0 ≤ 65520
        · have HS := hidden (show 0 ≤ s0 ∧ s0 ≤ 65520 by omega)
          have HR := hidden (show aoC n N A z s0 = 0 by rw [aoC, if_neg (by simp [HF.out]), if_pos ⟨HZ.out, HS.out⟩])
          have HSD := hidden (sdN_bd HS.out)
          have HG := hidden (fault_sound HF.out)
          have hn6 := HG.out.most
          have hn1 := HG.out.least
          have hz := HZ.out
          have bC := alloc_below w2 (.cells #[.int .i64 z, .slice none 0 0] 35)
          have x7 := Own2.new w2 (.int .i64 z) (.slice none 0 0) 35
          have GM := hidden (GrA.nil (w2.alloc (.cells #[.int .i64 z, .slice none 0 0] 35)) (w2.heap.size + 1) (algD z A s0) (by simp))
          have X7 := hidden x7
          have BC := hidden bC
          have x0 := X.out.c0
          have x1 := (X.out.keep bC).c0
          clear x7 bC
          go_wp2
          go_loopw [2, 36] (fun sv i wr => ∃ (k : Nat) (tv : Value), k ≤ n ∧ i = .int .i64 (k : Int) ∧ sv = .int .i64 (sdN s0 (offT z A k)) ∧ Hid (GrA wr (w2.heap.size + 1) tv k (algD z A s0)) ∧ Hid (Own2 wr w2.heap.size (.int .i64 z) tv) ∧ Hid (Below w2.heap.size w2 wr)) (fun _ i _ => n - (intOf i).toNat)
          case atStart => exact ⟨0, _, Nat.zero_le _, rfl, rfl, GM, X7, BC⟩
          case round =>
            clear GM X7 BC x0 x1
            obtain ⟨k, tv, hk, rfl, rfl, GM, X7, BL⟩ := hrel
            by_cases hlt : k < n
            · have a0 := (Q.out.keep BL.out).arity k hlt
              have a2 := (Q.out.keep BL.out).name k hlt
              obtain ⟨e1, e2, e3⟩ := tN_int HZ.out HG.out hlt
              have HA := hidden (HG.out.arity k hlt)
              have BQ := hidden (alloc_below wr (.cells #[.string (N k), .int .i64 (A k)] 76))
              obtain ⟨P, hP⟩ : ∃ P, P = tN z A k := ⟨_, rfl⟩
              have HP := hidden hP
              rw [← hP] at e1 e2 e3
              have EP := hidden e1
              clear hP e1
              obtain ⟨o, ho⟩ : ∃ o, o = offT z A k := ⟨_, rfl⟩
              have HOF := hidden ho
              rw [← ho]
              clear ho
              go_wp2_with fail
              with_reducible refine (power_any z (A k).toNat (A k) _ HZ.out (by have := HA.out; omega) (by have := HA.out; omega)).mono ?_
              rintro e w3 ⟨rfl, hb⟩
              rw [EP.out]
              have B1 := hidden (keepB BQ.out hb)
              obtain ⟨w4, hmk, how, hgr⟩ := makeInts w3 P (by omega)
              have HO := hidden (show OwnI w4 w3.heap.size w3.heap.size P P (fun i => sdN s0 (o + i + 1) % z) 0 from ⟨_, how, fun i hi => by omega⟩)
              have B2 := hidden (keepB B1.out ((Below.refl _ _).grown hgr (Nat.le_refl _) (fun k hk => by cases hk)))
              have L3 := hidden B1.out.size
              clear BQ hb a0 a2 how hgr
              go_wp2_with fail
              go_loopw [2, 47] (fun sv nn wq => ∃ (j : Nat), j ≤ P ∧ nn = .int .i64 (j : Int) ∧ sv = .int .i64 (sdN s0 (o + j)) ∧ Hid (OwnI wq w3.heap.size w3.heap.size P P (fun i => sdN s0 (o + i + 1) % z) j) ∧ Hid (Below wr.heap.size wr wq)) (fun _ nn _ => P - (intOf nn).toNat)
              case atStart => exact ⟨0, Nat.zero_le _, by simp, rfl, HO, B2⟩
              case round =>
                rename World => wq
                obtain ⟨j, hj, rfl, rfl, OL, BQ⟩ := hrel
                by_cases hjl : j < P
                · have hys := HSD.out (o + j)
                  obtain ⟨y, hy⟩ : ∃ y, y = sdN s0 (o + j) := ⟨_, rfl⟩
                  have HY := hidden hy
                  rw [← hy] at hys ⊢
                  obtain ⟨y2, hy2⟩ : ∃ y2, y2 = (227 * y + 1) % 65521 := ⟨_, rfl⟩
                  have HY2 := hidden (show y2 = sdN s0 (o + (j + 1)) by rw [← Nat.add_assoc]; simp only [sdN]; rw [← HY.out]; exact hy2)
                  have hy2b : 0 ≤ y2 ∧ y2 ≤ 65520 := by omega
                  have hq0 : (z == 0) = false := by simp; omega
                  have HPUT := hidden (OL.out.put hjl ((227 * y + 1) % 65521 % z) (by rw [← hy2, HY2.out]; rfl))
                  obtain ⟨⟨u0, p0⟩, p1, -, -⟩ := id HPUT.out
                  have EY2 := hidden hy2
                  have LW := hidden (show wr.heap.size ≤ w3.heap.size from L3.out)
                  clear hy hy2 hmk
                  go_wp2
                  go_roundw
                  case rel => exact ⟨j + 1, by omega, by go_num, by rw [← HY2.out, EY2.out], hidden HPUT.out.2.2.1, hidden (BQ.out.grown HPUT.out.2.2.2 BQ.out.size (fun q hq => by cases hq; exact LW.out))⟩
                  case measure => simp [intOf]; omega
                · obtain rfl : j = P := by omega
                  have X8 := hidden (X7.out.keep BQ.out)
                  obtain ⟨xs, G, hx1, hx2, hx3⟩ := GM.out.row
                  have bE := alloc_below wq (.cells #[.slice (some ⟨w3.heap.size, 0, none⟩) j j] 47)
                  have XO := hidden (ownsRow_up2 hx1 (keepB BQ.out bE))
                  have HX1 := hidden hx1
                  have HX2 := hidden hx2
                  have HX3 := hidden hx3
                  have BE := hidden (keepB BQ.out bE)
                  have OJ := hidden (OL.out.keep bE)
                  have HGT := hidden GM.out.top
                  have y0 := X8.out.two.c1
                  have y1 := (X8.out.keep bE).two.c1
                  have X9 := hidden (X8.out.keep bE)
                  have h5 := BE.out.size
                  have hws := BL.out.size
                  have HBK := hidden (show ∀ q, tv.ownBlock = some q → w2.heap.size + 1 ≤ q from fun q hq => (GM.out.block q hq).1)
                  have BF := hidden (keepB BL.out BE.out)
                  clear hx1 hx2 hx3 bE hmk
                  go_wp2_with (at_builtin; refine (fun h => h trivial : (True → _) → _) ?_)
                  intro _
                  refine wpList_append_lies _ rfl _ _ 25 rfl (w2.heap.size + 1) 47 _ (.slice none 0 0) 1 24 Try.underlying25 rfl rfl rfl rfl rfl (by decide) _ k xs rfl XO.out ⟨_, 0, none⟩ 1 1 [.slice (some ⟨w3.heap.size, 0, none⟩) j j] rfl rfl (one_srcV _ _ _ _ (by simp)) (by intro u hu; simp at hu; rcases hu with rfl; rfl) (by decide) (by unfold maxLen; omega) (by omega) (by have := HGT.out; omega) _ rfl ?_
                  intro g6 d6 w6 hown hgrow hat hlt6
                  replace hgrow : World.grownBy _ w6 tv.ownBlock := hgrow
                  replace hat : tv.ownBlock = some g6 ∨ _ := hat
                  have NEW := hidden (GrA.put (D := algD z A s0) (k := k) HGT.out BE.out hgrow HX1.out HX2.out HX3.out L3.out (d1 := j) (B1 := w3.heap.size) (by simp only [algD]; rw [← HP.out, ← HOF.out]; exact OJ.out) (by simp only [algD]; rw [← HP.out]; exact Nat.le_refl _) (by simp only [algD]; rw [← HP.out]; exact hown) (by rcases hat with hh | hh; exact Or.inl hh; exact Or.inr (by rw [hh]; try simp)))
                  have X7' := hidden (X9.out.grownV hgrow (fun e => by have := HBK.out _ e; omega))
                  have HB6 := hidden (BF.out.grown hgrow (by omega) (fun z hz => by have := HBK.out _ hz; omega))
                  have HSV := hidden (show sdN s0 (o + j) = sdN s0 (offT z A (k + 1)) by simp only [offT]; rw [← HOF.out, ← HP.out])
                  have z0 := X7'.out.two.c1
                  have z1 := X7'.out.f1
                  clear hown hgrow hat hlt6 y0 y1 h5
                  go_wp2
                  go_roundw
                  case rel =>
                    exact ⟨k + 1, _, by omega, by go_num, by rw [HSV.out], hidden (NEW.out.setLow ⟨w2.heap.size, 1, none⟩ _ (by simp)), hidden (X7'.out.set1 _), hidden (HB6.out.setCell (by simp) _)⟩
                  case measure => simp [intOf]; omega
            · obtain rfl : k = n := by omega
              obtain ⟨g, d, rfl, hmr⟩ := GM.out.done hn1
              have MR := hidden hmr
              have R8 := hidden (R.out.keep BL.out)
              have BF := hidden (keepB B.out BL.out)
              have HLO := hidden (show w.heap.size + 1 < w2.heap.size + 1 ∧ w.heap.size ≤ w2.heap.size + 1 from by have := R.out.tr.blk; have := B.out.size; omega)
              have x0 := X7.out.two.c0
              have x1 := X7.out.two.c1
              obtain ⟨⟨_, q0, q1, q2⟩, f0, f1, f2⟩ := id R8.out
              clear hmr
              go_wp2
              refine bodyPost_ret (v := .agg #[.int .i64 0, .int .i64 z, .slice (some ⟨g, 0, none⟩) k d]) (by simp [results, Try.results17, go_sem, q0, q1, q2]) rfl ⟨Or.inr ⟨HR.out, w2.heap.size + 1, wr.heap.size, g, d, rfl, HLO.out.2, ((MR.out.setLow _ _ (by exact HLO.out.1)).setLow _ _ (by exact HLO.out.1)).setLow _ _ (by exact HLO.out.1)⟩, ((BF.out.setCell (by simp) _).setCell (by simp) _).setCell (by simp) _⟩
        · have HR := hidden (show aoC n N A z s0 = 3 by rw [aoC, if_neg (by simp [HF.out]), if_neg (by intro h; omega)])
          have h3 : 65520 < s0 := by omega
          obtain ⟨⟨_, q0, q1, q2⟩, f0, f1, f2⟩ := id R.out
          go_wp2
          refine bodyPost_ret (v := .agg #[.int .i64 3, .int .i64 0, .slice none 0 0]) (by simp [results, Try.results17, go_sem, q0, q1, q2]) rfl ⟨AlAns.bad HR.out (by decide), ((B.out.setCell (by simp) _).setCell (by simp) _).setCell (by simp) _⟩
    · have HR := hidden (show aoC n N A z s0 = 3 by rw [aoC, if_neg (by simp [HF.out]), if_neg (by intro h; exact hz h.1)])
      rw [decide_eq_false hz]
      obtain ⟨⟨_, q0, q1, q2⟩, f0, f1, f2⟩ := id R.out
      clear hz
      go_wp2
      refine bodyPost_ret (v := .agg #[.int .i64 3, .int .i64 0, .slice none 0 0]) (by simp [results, Try.results17, go_sem, q0, q1, q2]) rfl ⟨AlAns.bad HR.out (by decide), ((B.out.setCell (by simp) _).setCell (by simp) _).setCell (by simp) _⟩
  · have HR := hidden (show aoC n N A z s0 = faultF n N A by rw [aoC, if_pos hf])
    have HF := hidden hf
    have hc : (faultF n N A != 0) = true := by simpa using hf
    clear hf
    generalize faultF n N A = q at *
    obtain ⟨⟨_, q0, q1, q2⟩, f0, f1, f2⟩ := id R.out
    go_wp2
    refine bodyPost_ret (v := .agg #[.int .i64 q, .int .i64 0, .slice none 0 0]) (by simp [results, Try.results17, go_sem, q0, q1, q2]) rfl ⟨AlAns.bad HR.out HF.out, ((B.out.setCell (by simp) _).setCell (by simp) _).setCell (by simp) _⟩

end Go.Proofs.Ytdcngfdklpdpkaa
