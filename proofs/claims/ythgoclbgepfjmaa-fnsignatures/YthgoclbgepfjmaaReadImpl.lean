/- Contracts: ReadSignature of the program. -/
import Derived.Test.YthgoclbgepfjmaaReadSig
namespace Go.Proofs.Ythgoclbgepfjmaa
open Go.RowKit

theorem take_cut (m : List Int) (k : Nat) (h : k + 2 ≤ m.length) : m.take (k + 2) = [m.getD 0 0] ++ cutOf m 1 k ++ [m.getD (1 + k) 0] := by
  apply List.ext_getElem?
  intro i
  have hc : (cutOf m 1 k).length = k := by simp [cutOf]
  by_cases h0 : i = 0
  · subst h0
    simp [List.getD_eq_getElem?_getD, List.getElem?_eq_getElem (show 0 < m.length by omega)]
  · by_cases h1 : i ≤ k
    · obtain ⟨j, rfl⟩ : ∃ j, i = 1 + j := ⟨i - 1, by omega⟩
      have e : ([m.getD 0 0] ++ cutOf m 1 k ++ [m.getD (1 + k) 0])[1 + j]? = (cutOf m 1 k)[j]? := by
        rw [List.getElem?_append_left (by simp [hc]; omega), List.getElem?_append_right (by simp)]
        simp
      rw [e, List.getElem?_take, if_pos (by omega), cutOf, List.getElem?_map, List.getElem?_range (by omega)]
      simp [List.getD_eq_getElem?_getD, List.getElem?_eq_getElem (show 1 + j < m.length by omega)]
    · by_cases h2 : i = k + 1
      · subst h2
        rw [List.getElem?_append_right (by simp [hc]), List.getElem?_take, if_pos (by omega)]
        simp [hc, List.getD_eq_getElem?_getD, Nat.add_comm 1 k, List.getElem?_eq_getElem (show k + 1 < m.length by omega)]
      · rw [List.getElem?_take, if_neg (by omega), List.getElem?_eq_none (by simp [hc]; omega)]

theorem strOf_back (xs : List Int) (h : ∀ x ∈ xs, 0 ≤ x ∧ x ≤ 255) : (strOfNums xs).data.toList.map (fun b => (b.toNat : Int)) = xs := by
  simp only [strOfNums, List.map_map]
  rw [List.map_congr_left (g := id)]
  · simp
  · intro x hx
    have := h x hx
    simp
    omega

theorem mem_getD {l : List Int} (hb : ∀ i, 0 ≤ l.getD i 0 ∧ l.getD i 0 ≤ 255) : ∀ x ∈ l, 0 ≤ x ∧ x ≤ 255 := by
  intro x hx
  obtain ⟨i, hi, rfl⟩ := List.getElem_of_mem hx
  have := hb i
  rw [List.getD_eq_getElem?_getD, List.getElem?_eq_getElem hi] at this
  simpa using this

theorem cutOf_byt {l : List Int} (hb : ∀ i, 0 ≤ l.getD i 0 ∧ l.getD i 0 ≤ 255) (p i k : Nat) : ∀ x ∈ cutOf (l.drop p) i k, 0 ≤ x ∧ x ≤ 255 := by
  intro x hx
  simp only [cutOf, List.mem_map] at hx
  obtain ⟨j, _, rfl⟩ := hx
  rw [drop_getD]; exact hb _

/-- What was cut, packed again, is what it was cut off. -/
theorem packL_take {l : List Int} (hb : ∀ i, 0 ≤ l.getD i 0 ∧ l.getD i 0 ≤ 255) (q : Nat) (hq : l.getD 0 0 = q) (hl : 0 < l.length) : ∀ k, fit l k → packL (nmOf l) (arOf l) q k = l.take (pos l k)
  | 0, _ => by
    cases l with
    | nil => simp at hl
    | cons a r => simp [packL, pos] at hq ⊢; exact hq.symm
  | k + 1, hf => by
    have ih := packL_take hb q hq hl k (fun i hi => hf i (by omega))
    have hfk := hf k (by omega)
    have h1 : (nmOf l k).size = kk l k := by simp [nmOf, strOfNums, cutOf, ByteArray.size]
    have h2 : (l.drop (pos l k)).getD 0 0 = (kk l k : Nat) := by rw [drop_getD, Nat.add_zero, kk]; have := hb (pos l k); omega
    rw [packL, ih, pos_succ, List.take_add, symL, h1, nmOf, strOf_back _ (cutOf_byt hb _ _ _), arOf, take_cut _ _ (by rw [List.length_drop]; omega), h2]

theorem strOf_inj {a b : List Int} (ha : ∀ x ∈ a, 0 ≤ x ∧ x ≤ 255) (hb : ∀ x ∈ b, 0 ≤ x ∧ x ≤ 255) (h : strOfNums a = strOfNums b) : a = b := by
  rw [← strOf_back a ha, ← strOf_back b hb, h]

set_option maxRecDepth 20000 in
set_option maxHeartbeats 800000 in
theorem bytesEqual_any (b n c b' n' c' : Nat) (l l' : List Int) (w : World) (h : Byt.Row w b 0 n l) (h' : Byt.Row w b' 0 n' l') (bb : Bool) (hbb : decide (l = l') = bb) :
    Calls Try.prog 50 #[.slice (some ⟨b, 0, none⟩) n c, .slice (some ⟨b', 0, none⟩) n' c'] w fun e w' => e = .returned (.bool bb) ∧ Below w.heap.size w w' := by
  have k1 : ∀ cap, (convert 22 9 (.slice (some ⟨b, 0, none⟩) n cap)).run Try.prog w = .ok (.string (strOfNums l)) w := fun cap =>
    run_convert_bytes_arg (P := Try.prog) _ 22 5 Try.underlying22 Try.underlying5 b 0 n cap l h.len h.cell 9 Try.underlying9
  have k2 : ∀ cap, (convert 22 9 (.slice (some ⟨b', 0, none⟩) n' cap)).run Try.prog w = .ok (.string (strOfNums l')) w := fun cap =>
    run_convert_bytes_arg (P := Try.prog) _ 22 5 Try.underlying22 Try.underlying5 b' 0 n' cap l' h'.len h'.cell 9 Try.underlying9
  have k1d : ∀ cap, (convert 22 9 (.slice (some ⟨b, 0, none⟩) n cap)).run Try.prog w.drew = .ok (.string (strOfNums l)) w.drew := fun cap =>
    run_convert_bytes_arg (P := Try.prog) w.drew 22 5 Try.underlying22 Try.underlying5 b 0 n cap l h.len h.cell 9 Try.underlying9
  have k2d : ∀ cap, (convert 22 9 (.slice (some ⟨b', 0, none⟩) n' cap)).run Try.prog w.drew = .ok (.string (strOfNums l')) w.drew := fun cap =>
    run_convert_bytes_arg (P := Try.prog) w.drew 22 5 Try.underlying22 Try.underlying5 b' 0 n' cap l' h'.len h'.cell 9 Try.underlying9
  have he : ((strOfNums l).toList == (strOfNums l').toList) = bb := by
    rw [← hbb]
    by_cases e : l = l'
    · subst e; simp
    · rw [bne_bytes (fun h1 => e (strOf_inj (mem_getD h.byt) (mem_getD h'.byt) h1))]; simp [e]
  clear hbb
  generalize strOfNums l = s1 at *
  generalize strOfNums l' = s2 at *
  go_enter Try.func50, Try.ntmps50
  go_wp2
  first
    | (go_ret; exact ⟨by first | rfl | rw [← he]; rfl, by first | exact Below.refl _ _ | exact (Below.refl _ _).drew⟩)
    | (go_big_region; go_wp2; go_ret; exact ⟨by first | rfl | (rw [← he]; rfl), by first | exact Below.refl _ _ | exact (Below.refl _ _).drew⟩)

set_option maxRecDepth 20000 in
set_option maxHeartbeats 800000 in
theorem implPack_nil (w : World) (N : Nat → ByteArray) (A : Nat → Int) :
    Calls Try.prog 9 #[.agg #[.slice none 0 0]] w fun e w' => e = .returned (.agg #[.int .i64 2, .slice none 0 0]) ∧ Below w.heap.size w w' := by
  have R := hidden (Res.new (w.alloc (.cells #[.slice none 0 0] 26)) (.int .i64 0) (.slice none 0 0) 29)
  have B := hidden (keepB (alloc_below w (.cells #[.slice none 0 0] 26)) (alloc_below _ (.cells #[.int .i64 0, .slice none 0 0] 29)))
  rw [World.size_alloc] at R
  go_enter Try.func9, Try.ntmps9
  go_wp2_with fail
  refine (implFault_many none 0 0 _ (by omega) N A).mono ?_
  rintro e w1 ⟨rfl, hb⟩
  replace R := hidden (R.out.keep hb)
  replace B := hidden (keepB B.out hb)
  rw [fault_seven N A 0 (by omega)]
  obtain ⟨_, q0, q1, f0, f1⟩ := id R.out
  clear hb
  go_wp2
  exact bodyPost_ret (v := .agg #[.int .i64 2, .slice none 0 0]) (by simp [results, Try.results9, go_sem, q0, q1]) rfl ⟨rfl, (B.out.setCell (by simp) _).setCell (by simp) _⟩

set_option maxRecDepth 20000 in
set_option maxHeartbeats 1600000 in
theorem implRead_none (p : Option Addr) (c : Nat) (l : List Int) (w : World) (hl : l.length = 0) :
    Calls Try.prog 11 #[.slice p 0 c] w fun e w' => SigAns w l e w' ∧ Below w.heap.size w w' := by
  have HN := hidden (show ¬ whole l from fun h => by have := h.1; omega)
  go_enter Try.func11, Try.ntmps11
  go_wp2_with fail
  refine (cutSymbols_none _ _ _).mono ?_
  rintro e w1 ⟨rfl, hb⟩
  have R := hidden (((Res.new w (.int .i64 0) (.slice none 0 0) 33).keep hb).keep (alloc_below w1 (.cells #[.slice none 0 0] 26)))
  have B := hidden (keepB (keepB (alloc_below w _) hb) (alloc_below w1 (.cells #[.slice none 0 0] 26)))
  obtain ⟨_, q0, q1, f0, f1⟩ := id R.out
  unfold noSig
  clear hb
  go_wp2
  exact bodyPost_ret (v := errSig) (by simp [results, Try.results11, go_sem, q0, q1, errSig]) rfl ⟨Or.inl ⟨HN.out, rfl⟩, (B.out.setCell (by simp) _).setCell (by simp) _⟩

set_option maxRecDepth 20000 in
set_option maxHeartbeats 3200000 in
theorem implRead_any (b n c : Nat) (l : List Int) (w : World) (h : Byt.Row w b 0 n l) (hc : n ≤ c) (hx : n ≤ 1048576 ∧ c ≤ 9223372036854775807) (hn : 0 < n) :
    Calls Try.prog 11 #[.slice (some ⟨b, 0, none⟩) n c] w fun e w' => SigAns w l e w' ∧ Below w.heap.size w w' := by
  obtain ⟨q, hq⟩ : ∃ q : Nat, l.getD 0 0 = q := ⟨(l.getD 0 0).toNat, by have := h.byt 0; omega⟩
  have HQ := hidden hq
  have HL := hidden h.len
  have hq255 : q ≤ 255 := by have := h.byt 0; omega
  have hqt : (l.getD 0 0).toNat = q := by omega
  have HQT := hidden hqt
  have HBY := hidden h.byt
  have HROW := hidden h
  have C := hidden (cutSymbols_all b n c l (w.alloc (.cells #[.int .i64 0, .slice none 0 0] 33)) (h.later (alloc_below _ _) h.blk) hc hx hn q hq)
  clear h hq hqt
  go_enter Try.func11, Try.ntmps11
  go_wp2_with fail
  refine C.out.mono ?_
  rintro e w1 ⟨ha, hb⟩
  rcases ha with ⟨hfit, v, rfl, hrow⟩ | ⟨hfit, rfl⟩
  · by_cases hq0 : 1 ≤ q
    · obtain ⟨g, d, rfl, hgB, hown⟩ := hrow.ownS hq0
      have R := hidden (((Res.new w (.int .i64 0) (.slice none 0 0) 33).keep hb).keep (alloc_below w1 (.cells #[.slice (some ⟨g, 0, none⟩) q d] 26)))
      have B := hidden (keepB (keepB (alloc_below w _) hb) (alloc_below w1 (.cells #[.slice (some ⟨g, 0, none⟩) q d] 26)))
      have O := hidden (hown.keep (alloc_below w1 (.cells #[.slice (some ⟨g, 0, none⟩) q d] 26)))
      have X := hidden (One.new w1 (.slice (some ⟨g, 0, none⟩) q d) 26)
      have HF := hidden hfit
      have hgw : w.heap.size + 1 ≤ g := by simpa using hgB
      have hK := kept_of HBY.out q (by omega)
      have HK := hidden hK
      have x0 := X.out.c0
      clear hb hown hrow C hfit hK
      go_wp2_with fail
      refine (implPack_any g 0 q d (nmOf l) (arOf l) _ (O.out.syms HK.out.big HK.out.fits) HK.out).mono ?_
      rintro e w2 ⟨ha, hb⟩
      rcases ha with ⟨hf, rfl⟩ | ⟨hf, g3, d3, rfl, ho3⟩
      · have HW := hidden (show ¬ whole l from fun h => hf (by have := h.2.1.2.2; rw [HQT.out] at this; exact this))
        have hf' : (faultF q (nmOf l) (arOf l) != 0) = true := by simpa using hf
        generalize faultF q (nmOf l) (arOf l) = z at *
        replace hb := keepB hb (alloc_below w2 (.cells #[.int .i64 z, .slice none 0 0] 29))
        replace R := hidden (R.out.keep hb)
        replace B := hidden (keepB B.out hb)
        obtain ⟨_, q0, q1, f0, f1⟩ := id R.out
        clear hb x0 hf
        go_wp2
        exact bodyPost_ret (v := errSig) (by simp [results, Try.results11, go_sem, q0, q1, errSig]) rfl ⟨Or.inl ⟨HW.out, rfl⟩, (B.out.setCell (by simp) _).setCell (by simp) _⟩
      · have hr := fault_right hf
        have hgood : good l q := ⟨hr.most, HF.out, hf⟩
        have hpn : pos l q ≤ l.length := by
          obtain ⟨k, rfl⟩ : ∃ k, q = k + 1 := ⟨q - 1, by omega⟩
          rw [pos_succ]; exact HF.out k (by omega)
        have htake := packL_take HBY.out q HQ.out (by rw [HL.out]; exact hn) q HF.out
        have hm31 := packV_len hr q (Nat.le_refl _)
        have hbb : ∃ bb, decide (packL (nmOf l) (arOf l) q q = l) = bb := ⟨_, rfl⟩
        obtain ⟨bb, hbb⟩ := hbb
        have W1 := hidden (show bb = true → whole l from fun e => by
          rw [e, decide_eq_true_eq, htake] at hbb
          refine ⟨by rw [HL.out]; exact hn, by rw [HQT.out]; exact hgood, ?_⟩
          rw [HQT.out]
          have := congrArg List.length hbb
          rw [List.length_take] at this
          omega)
        have W2 := hidden (show bb = false → ¬ whole l from fun e h => by
          rw [e, decide_eq_false_iff_not, htake] at hbb
          have h2 := h.2.2
          rw [HQT.out] at h2
          exact hbb (by rw [h2, List.take_length]))
        have hlv : (packV (nmOf l) (arOf l) q q).length ≤ 1048576 := by have := hr.most; omega
        have PR := hidden (show Byt.Row w2 g3 0 (packV (nmOf l) (arOf l) q q).length (packL (nmOf l) (arOf l) q q) from OwnR.row (by rw [← packV_map]; exact ho3.ownR) hlv (packL_byt hr q (Nat.le_refl _)))
        have HBB := hidden hbb
        generalize (packV (nmOf l) (arOf l) q q).length = ln at *
        generalize packL (nmOf l) (arOf l) q q = pl at *
        have V := hidden (Two.new w2 (.int .i64 0) (.slice (some ⟨g3, 0, none⟩) ln d3) 29)
        have PR2 := hidden (PR.out.later (alloc_below w2 (.cells #[.int .i64 0, .slice (some ⟨g3, 0, none⟩) ln d3] 29)) PR.out.blk)
        replace hb := keepB hb (alloc_below w2 (.cells #[.int .i64 0, .slice (some ⟨g3, 0, none⟩) ln d3] 29))
        replace R := hidden (R.out.keep hb)
        replace B := hidden (keepB B.out hb)
        replace O := hidden (O.out.keep hb)
        replace X := hidden (X.out.keep hb)
        have DR := hidden (HROW.out.later B.out HROW.out.blk)
        obtain ⟨_, v0, v1⟩ := id V.out
        clear hb x0 hf hr hgood hpn htake hm31 hbb ho3 hlv PR
        go_wp2_with fail
        refine (bytesEqual_any g3 ln d3 b n c pl l _ PR2.out DR.out bb HBB.out).mono ?_
        rintro e w3 ⟨rfl, hb⟩
        replace R := hidden (R.out.keep hb)
        replace B := hidden (keepB B.out hb)
        replace O := hidden (O.out.keep hb)
        replace X := hidden (X.out.keep hb)
        obtain ⟨_, q0, q1, f0, f1⟩ := id R.out
        have x0 := X.out.c0
        clear hb v0 v1
        cases bb
        · have HW := hidden (W2.out rfl)
          go_wp2
          exact bodyPost_ret (v := errSig) (by simp [results, Try.results11, go_sem, q0, q1, errSig]) rfl ⟨Or.inl ⟨HW.out, rfl⟩, (B.out.setCell (by simp) _).setCell (by simp) _⟩
        · have HW := hidden (W1.out rfl)
          go_wp2
          refine bodyPost_ret (v := .agg #[.int .i64 0, .slice (some ⟨g, 0, none⟩) q d]) (by simp [results, Try.results11, go_sem, q0, q1]) rfl ⟨Or.inr ⟨HW.out, g, d, by rw [HQT.out], by omega, ?_⟩, (B.out.setCell (by simp) _).setCell (by simp) _⟩
          rw [HQT.out]
          exact ((O.out.other _ _ (by simp; omega)).other _ _ (by simp; omega)).base (by omega)
    · obtain rfl : q = 0 := by omega
      have HW := hidden (show ¬ whole l from fun h => by have h1 := h.2.1; rw [HQT.out] at h1; have := good_pos h1; omega)
      obtain ⟨xs, ho, _⟩ := hrow
      rcases ho.2 with ⟨rfl, _⟩ | ⟨g2, d2, cur, rfl, hgB, hblk, hrest⟩
      · clear ho
        have R := hidden (((Res.new w (.int .i64 0) (.slice none 0 0) 33).keep hb).keep (alloc_below w1 (.cells #[.slice none 0 0] 26)))
        have B := hidden (keepB (keepB (alloc_below w _) hb) (alloc_below w1 (.cells #[.slice none 0 0] 26)))
        have X := hidden (One.new w1 (.slice none 0 0) 26)
        have x0 := X.out.c0
        clear hb C hfit
        go_wp2_with fail
        refine (implPack_nil _ (nmOf l) (arOf l)).mono ?_
        rintro e w2 ⟨rfl, hb⟩
        replace hb := keepB hb (alloc_below w2 (.cells #[.int .i64 2, .slice none 0 0] 29))
        replace R := hidden (R.out.keep hb)
        replace B := hidden (keepB B.out hb)
        obtain ⟨_, q0, q1, f0, f1⟩ := id R.out
        clear hb x0
        go_wp2
        exact bodyPost_ret (v := errSig) (by simp [results, Try.results11, go_sem, q0, q1, errSig]) rfl ⟨Or.inl ⟨HW.out, rfl⟩, (B.out.setCell (by simp) _).setCell (by simp) _⟩
      · have S0 := hidden (show Syms (w1.alloc (.cells #[.slice (some ⟨g2, 0, none⟩) 0 d2] 26)) g2 0 0 (nmOf l) (arOf l) from ⟨fun h => absurd h (by omega), fun i hi => by omega, fun i hi => by omega, fun i hi => by omega, fun i hi => by omega⟩)
        clear ho hgB hblk hrest
        have R := hidden (((Res.new w (.int .i64 0) (.slice none 0 0) 33).keep hb).keep (alloc_below w1 (.cells #[.slice (some ⟨g2, 0, none⟩) 0 d2] 26)))
        have B := hidden (keepB (keepB (alloc_below w _) hb) (alloc_below w1 (.cells #[.slice (some ⟨g2, 0, none⟩) 0 d2] 26)))
        have X := hidden (One.new w1 (.slice (some ⟨g2, 0, none⟩) 0 d2) 26)
        have x0 := X.out.c0
        clear hb C hfit
        go_wp2_with fail
        refine (implPack_any g2 0 0 d2 (nmOf l) (arOf l) _ S0.out (kept_of HBY.out 0 (by omega))).mono ?_
        rintro e w2 ⟨ha, hb⟩
        rcases ha with ⟨-, rfl⟩ | ⟨hf, -⟩
        rotate_left
        · rw [fault_seven (nmOf l) (arOf l) 0 (by omega)] at hf; exact absurd hf (by decide)
        rw [fault_seven (nmOf l) (arOf l) 0 (by omega)]
        replace hb := keepB hb (alloc_below w2 (.cells #[.int .i64 2, .slice none 0 0] 29))
        replace R := hidden (R.out.keep hb)
        replace B := hidden (keepB B.out hb)
        obtain ⟨_, q0, q1, f0, f1⟩ := id R.out
        clear hb x0
        go_wp2
        exact bodyPost_ret (v := errSig) (by simp [results, Try.results11, go_sem, q0, q1, errSig]) rfl ⟨Or.inl ⟨HW.out, rfl⟩, (B.out.setCell (by simp) _).setCell (by simp) _⟩
  · have HW := hidden (show ¬ whole l from fun h => hfit (by have := h.2.1.2.1; rw [HQT.out] at this; exact this))
    have R := hidden (((Res.new w (.int .i64 0) (.slice none 0 0) 33).keep hb).keep (alloc_below w1 (.cells #[.slice none 0 0] 26)))
    have B := hidden (keepB (keepB (alloc_below w _) hb) (alloc_below w1 (.cells #[.slice none 0 0] 26)))
    obtain ⟨_, q0, q1, f0, f1⟩ := id R.out
    unfold noSig
    clear hb C hfit
    go_wp2
    exact bodyPost_ret (v := errSig) (by simp [results, Try.results11, go_sem, q0, q1, errSig]) rfl ⟨Or.inl ⟨HW.out, rfl⟩, (B.out.setCell (by simp) _).setCell (by simp) _⟩

end Go.Proofs.Ythgoclbgepfjmaa
