/- Contracts: a term as bytes: the program's packNodes; PackTerm of the model and of the program. -/
import Derived.Test.YtafhlkbjjjlkjaaPk
import Derived.Test.YtafhlkbjjjlkjaaSub
namespace Go.Proofs.Ytafhlkbjjjlkjaa
open Go.RowKit

theorem packV_set (T : Nat → Int) (m k : Nat) (hk : k < m) : (packV T k ++ List.replicate (m - k) (Value.int .u8 0)).set k (.int .u8 (bytN (T k))) = packV T (k + 1) ++ List.replicate (m - (k + 1)) (Value.int .u8 0) := by
  rw [show m - k = (m - (k + 1)) + 1 by omega, List.replicate_succ, List.set_append_right _ _ (by rw [packV_len]; exact Nat.le_refl _), packV_len, Nat.sub_self, List.set_cons_zero, packV_succ, List.append_assoc]
  rfl

set_option maxRecDepth 20000 in
set_option maxHeartbeats 1600000 in
theorem packNodes_any (b off m c : Nat) (T : Nat → Int) (w : World) (h : Ints w b off m T) (hm : m ≤ 24) (hT : ∀ i, i < m → -12 ≤ T i ∧ T i ≤ 5) :
    Calls Try.prog 67 #[.slice (some ⟨b, off, none⟩) m c] w fun e w' => ∃ g d, e = .returned (.slice (some ⟨g, 0, none⟩) m d) ∧ w.heap.size ≤ g ∧ OwnR w' w.heap.size g m d (packV T m) ∧ Below w.heap.size w w' := by
  have HT := hidden hT
  have H := hidden h
  obtain ⟨w1, hmk, how, hgr⟩ := run_make_full (P := Try.prog) w w.heap.size 22 5 _ (.int .u8 0) 1 Try.underlying22 rfl rfl rfl .i64 .i64 m (by show 1 * m ≤ _; omega) (by unfold maxLen; omega) (Nat.le_refl _)
  have e : (madeCells (Value.int IntKind.u8 0).cells (m * 1)).toList = List.replicate m (Value.int .u8 0) := by
    rw [Nat.mul_one]; exact toList_madeCells_one _ _
  rw [e] at how
  have HO := hidden how
  have HG := hidden hgr
  clear hT h how hgr e
  go_enter Try.func67, Try.ntmps67
  go_wp2
  go_loopw [11] (fun i wr => ∃ k : Nat, k ≤ m ∧ i = .int .i64 k ∧ Hid (OwnR wr w.heap.size w.heap.size m m (packV T k ++ List.replicate (m - k) (Value.int .u8 0)) ∧ Below w.heap.size w wr)) (fun i _ => m - (intOf i).toNat)
  case atStart => exact ⟨0, Nat.zero_le _, rfl, hidden ⟨by simpa [packV, packT, OwnR] using HO.out, (Below.refl _ _).grown HG.out (Nat.le_refl _) (fun k hk => by cases hk)⟩⟩
  case round =>
    obtain ⟨k, hk, rfl, HI⟩ := hrel
    by_cases hlt : k < m
    · have c1 := (H.out.keep HI.out.2).cell k hlt
      have ht := HT.out k hlt
      have HST := hidden (packV_set T m k hlt)
      clear hmk
      generalize T k = x at *
      go_wp2_with fail
      with_reducible refine (byteOf_any _ _ ht).mono ?_
      rintro e w2 ⟨rfl, hb⟩
      have O1 := HI.out.1.keep hb
      have B1 := keepB HI.out.2 hb
      have hfr := World.ownsRow.frozenAt O1 k
      have hl : (packV T k ++ List.replicate (m - k) (Value.int .u8 0)).length = m := by simp [packV_len]; omega
      have hst := World.ownsRow.cellAt O1 k (by omega)
      have hs2 := World.ownsRow.stored O1 k (.int .u8 (bytN x))
      rw [HST.out] at hs2
      rw [List.getElem?_eq_getElem (by omega)] at hst
      have HS := hidden (And.intro hs2.1 (B1.grown hs2.2 B1.size (fun j hj => by cases hj; exact Nat.le_refl _)))
      generalize (packV T k ++ List.replicate (m - k) (Value.int .u8 0))[k]'(by omega) = u at hst
      generalize bytN x = y at *
      clear hb O1 B1 hs2 HST HI c1 hl
      go_wp2
      go_roundw
      case rel => exact ⟨k + 1, by omega, by go_num, hidden ⟨HS.out.1, HS.out.2⟩⟩
      case measure => simp [intOf]; omega
    · obtain rfl : m = k := by omega
      go_wp2
      go_ret
      exact ⟨_, _, rfl, Nat.le_refl _, by simpa using HI.out.1, HI.out.2⟩

set_option maxRecDepth 20000 in
set_option maxHeartbeats 1600000 in
theorem specPack_any (b off n c b' off' m c' : Nat) (N : Nat → ByteArray) (A T : Nat → Int) (w : World) (h : Syms w b off n N A) (h' : Ints w b' off' m T) (hk : Kept n N A) (hm : m ≤ 1048576) :
    Calls Try.prog 18 #[.agg #[.slice (some ⟨b, off, none⟩) n c], .slice (some ⟨b', off', none⟩) m c'] w fun e w' => BytAns w (termF n N A m T) (packT T m) e w' ∧ Below w.heap.size w w' := by
  have D := hidden ((One.new w (.slice (some ⟨b, off, none⟩) n c) 26).keep (alloc_below _ (.cells #[.int .i64 0, .slice none 0 0] 31)))
  have R := hidden (Res.new (w.alloc (.cells #[.slice (some ⟨b, off, none⟩) n c] 26)) (.int .i64 0) (.slice none 0 0) 31)
  have B := hidden (keepB (alloc_below w (.cells #[.slice (some ⟨b, off, none⟩) n c] 26)) (alloc_below _ (.cells #[.int .i64 0, .slice none 0 0] 31)))
  have Q := hidden (h.keep B.out)
  have I := hidden (h'.keep B.out)
  have HK := hidden hk
  rw [World.size_alloc] at R
  clear h h' hk
  go_enter Try.func18, Try.ntmps18
  go_wp2_with fail
  with_reducible refine (specTerm_any _ _ _ _ _ _ _ _ N A T _ Q.out I.out HK.out hm).mono ?_
  rintro e w1 ⟨rfl, hb⟩
  replace D := hidden (D.out.keep hb)
  replace R := hidden (R.out.keep hb)
  replace B := hidden (keepB B.out hb)
  replace I := hidden (I.out.keep hb)
  clear hb Q
  by_cases hf : termF n N A m T = 0
  · have HF := hidden hf
    have HN := hidden (term_right hf).nods
    rw [hf]
    clear hf
    go_wp2_with fail
    with_reducible refine (l5Pack_any _ _ _ _ T _ I.out HN.out.most HN.out.rng).mono ?_
    rintro r w3 ⟨g, d, rfl, hgg, ho, hb⟩
    have O := hidden ho
    have hR := R.out.blk
    have hBs := B.out.size
    replace R := hidden (R.out.keep hb)
    replace B := hidden (keepB B.out hb)
    clear hb D I ho
    obtain ⟨_, q0, q1, f0, f1⟩ := id R.out
    go_wp2
    exact bodyPost_ret (v := .agg #[.int .i64 0, .slice (some ⟨g, 0, none⟩) m d]) (by simp [results, Try.results18, go_sem, q0, q1]) rfl ⟨Or.inr ⟨HF.out, g, d, by rw [packT_len], by omega, by
        rw [packT_len]; exact ((O.out.other _ _ (by simp; omega)).other _ _ (by simp; omega)).base (by omega)⟩, (B.out.setCell (by simp) _).setCell (by simp) _⟩
  · have HN := hidden hf
    have hf' : (termF n N A m T != 0) = true := by simpa using hf
    generalize hz : termF n N A m T = z at hf' HN ⊢
    have HZ := hidden hz
    clear hz
    clear hf
    obtain ⟨_, q0, q1, f0, f1⟩ := id R.out
    go_wp2
    exact bodyPost_ret (v := .agg #[.int .i64 z, .slice none 0 0]) (by simp [results, Try.results18, go_sem, q0, q1]) rfl ⟨Or.inl ⟨by rw [HZ.out]; exact HN.out, by rw [HZ.out]⟩, (B.out.setCell (by simp) _).setCell (by simp) _⟩

set_option maxRecDepth 20000 in
set_option maxHeartbeats 1600000 in
theorem implPack_any (b off n c b' off' m c' : Nat) (N : Nat → ByteArray) (A T : Nat → Int) (w : World) (h : Syms w b off n N A) (h' : Ints w b' off' m T) (hk : Kept n N A) (hm : m ≤ 1048576) :
    Calls Try.prog 15 #[.agg #[.slice (some ⟨b, off, none⟩) n c], .slice (some ⟨b', off', none⟩) m c'] w fun e w' => BytAns w (termF n N A m T) (packT T m) e w' ∧ Below w.heap.size w w' := by
  have D := hidden ((One.new w (.slice (some ⟨b, off, none⟩) n c) 26).keep (alloc_below _ (.cells #[.int .i64 0, .slice none 0 0] 31)))
  have R := hidden (Res.new (w.alloc (.cells #[.slice (some ⟨b, off, none⟩) n c] 26)) (.int .i64 0) (.slice none 0 0) 31)
  have B := hidden (keepB (alloc_below w (.cells #[.slice (some ⟨b, off, none⟩) n c] 26)) (alloc_below _ (.cells #[.int .i64 0, .slice none 0 0] 31)))
  have Q := hidden (h.keep B.out)
  have I := hidden (h'.keep B.out)
  have HK := hidden hk
  rw [World.size_alloc] at R
  clear h h' hk
  go_enter Try.func15, Try.ntmps15
  go_wp2_with fail
  with_reducible refine (implTerm_any _ _ _ _ _ _ _ _ N A T _ Q.out I.out HK.out hm).mono ?_
  rintro e w1 ⟨rfl, hb⟩
  replace D := hidden (D.out.keep hb)
  replace R := hidden (R.out.keep hb)
  replace B := hidden (keepB B.out hb)
  replace I := hidden (I.out.keep hb)
  clear hb Q
  by_cases hf : termF n N A m T = 0
  · have HF := hidden hf
    have HN := hidden (term_right hf).nods
    rw [hf]
    clear hf
    go_wp2_with fail
    with_reducible refine (packNodes_any _ _ _ _ T _ I.out HN.out.most HN.out.rng).mono ?_
    rintro r w3 ⟨g, d, rfl, hgg, ho, hb⟩
    have O := hidden ho
    have hR := R.out.blk
    have hBs := B.out.size
    replace R := hidden (R.out.keep hb)
    replace B := hidden (keepB B.out hb)
    clear hb D I ho
    obtain ⟨_, q0, q1, f0, f1⟩ := id R.out
    go_wp2
    exact bodyPost_ret (v := .agg #[.int .i64 0, .slice (some ⟨g, 0, none⟩) m d]) (by simp [results, Try.results15, go_sem, q0, q1]) rfl ⟨Or.inr ⟨HF.out, g, d, by rw [packT_len], by omega, by
        rw [packT_len]; exact ((O.out.other _ _ (by simp; omega)).other _ _ (by simp; omega)).base (by omega)⟩, (B.out.setCell (by simp) _).setCell (by simp) _⟩
  · have HN := hidden hf
    have hf' : (termF n N A m T != 0) = true := by simpa using hf
    generalize hz : termF n N A m T = z at hf' HN ⊢
    have HZ := hidden hz
    clear hz
    clear hf
    obtain ⟨_, q0, q1, f0, f1⟩ := id R.out
    go_wp2
    exact bodyPost_ret (v := .agg #[.int .i64 z, .slice none 0 0]) (by simp [results, Try.results15, go_sem, q0, q1]) rfl ⟨Or.inl ⟨by rw [HZ.out]; exact HN.out, by rw [HZ.out]⟩, (B.out.setCell (by simp) _).setCell (by simp) _⟩

end Go.Proofs.Ytafhlkbjjjlkjaa
