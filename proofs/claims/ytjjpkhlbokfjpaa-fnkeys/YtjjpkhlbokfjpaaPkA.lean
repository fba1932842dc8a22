/- Several texts as one: Pk, PkT, Law5Kit, Rd, Ahead, Plc, Round, Up, Join, Ground, Key, KeyRes, CutS, CutT, CutN, CutK, UpI, UpN. -/
import Derived.Test.YtjjpkhlbokfjpaaTermF
import Derived.Test.YtjjpkhlbokfjpaaBytesRes
import Derived.Test.YtjjpkhlbokfjpaaSub
import Derived.Test.YtjjpkhlbokfjpaaTermRes
import Derived.Sort.CutIn
import Derived.Deep.RegionHeld3
import Derived.Laws.CopyOwn
/- Contracts: a term as bytes: the model's l5Pack and PackTerm, the program's packNodes and PackTerm. -/
namespace Go.Proofs.Ytjjpkhlbokfjpaa
open Go.RowKit

/-- The byte of a node. -/
def bytN (x : Int) : Int := if x < 0 then 31 - x else x + 1
/-- The bytes of the first k nodes. -/
def packT (T : Nat → Int) : Nat → List Int
  | 0 => []
  | k + 1 => packT T k ++ [bytN (T k)]
def packV (T : Nat → Int) (k : Nat) : List Value := (packT T k).map (Value.int .u8)

theorem packT_len (T : Nat → Int) : ∀ k, (packT T k).length = k
  | 0 => rfl
  | k + 1 => by simp [packT, packT_len T k]
theorem packV_len (T : Nat → Int) (k : Nat) : (packV T k).length = k := by simp [packV, packT_len]
theorem packV_succ (T : Nat → Int) (k : Nat) : packV T (k + 1) = packV T k ++ [.int .u8 (bytN (T k))] := by simp [packV, packT]

theorem node_range {x : Int} {n : Nat} (hn : n ≤ 6) (h : nodeB x n = true) : -12 ≤ x ∧ x ≤ 5 := by
  rcases nodeB_cases h with ⟨j, e, hj⟩ | h
  · omega
  · omega
theorem bytN_range {x : Int} (h : -12 ≤ x ∧ x ≤ 5) : 1 ≤ bytN x ∧ bytN x ≤ 43 := by unfold bytN; split <;> omega

theorem packT_byt {T : Nat → Int} : ∀ m, (∀ i, i < m → -12 ≤ T i ∧ T i ≤ 5) → ∀ x ∈ packT T m, 0 ≤ x ∧ x ≤ 255
  | 0, _, x, hx => by simp [packT] at hx
  | m + 1, h, x, hx => by
    simp only [packT, List.mem_append, List.mem_singleton] at hx
    rcases hx with hx | rfl
    · exact packT_byt m (fun i hi => h i (by omega)) x hx
    · have := bytN_range (h m (by omega)); omega

theorem Nods.rng {n m : Nat} {A T : Nat → Int} (h : Nods n A m T) : ∀ i, i < m → -12 ≤ T i ∧ T i ≤ 5 := fun i hi => node_range h.few (h.node i hi)

theorem own_row {w w1 : World} {B : Nat} {v' : Value} {xs : List Value} {k : Nat} (h : w1.ownsRow B 5 1 v' k xs) (hnil : ¬ v' = .slice none 0 0) (hb : Below B w w1) : ∃ g d, v' = .slice (some ⟨g, 0, none⟩) k d ∧ B ≤ g ∧ OwnR w1 B g k d xs ∧ Below B w w1 := by
  rcases h.2 with ⟨hv, _⟩ | ⟨g, d, cur, hv, hg, _⟩
  · exact absurd hv hnil
  · subst hv; exact ⟨g, d, rfl, hg, h, hb⟩

set_option maxRecDepth 20000 in
set_option maxHeartbeats 1600000 in
theorem l5Pack_any (b off m c : Nat) (T : Nat → Int) (w : World) (h : Ints w b off m T) (hm : m ≤ 24) (hT : ∀ i, i < m → -12 ≤ T i ∧ T i ≤ 5) :
    Calls Try.prog 49 #[.slice (some ⟨b, off, none⟩) m c] w fun e w' => ∃ g d, e = .returned (.slice (some ⟨g, 0, none⟩) m d) ∧ w.heap.size ≤ g ∧ OwnR w' w.heap.size g m d (packV T m) ∧ Below w.heap.size w w' := by
  have HT := hidden hT
  have H := hidden h
  have HO := hidden (World.ownsRow_made (base := w.heap.size) (e := 5) (size := 1) w #[] 0 (Nat.le_refl _) (Nat.zero_le _) rfl)
  clear hT h
  go_enter Try.func49, Try.ntmps49
  go_wp2
  go_loopw [3, 4] (fun o i wr => ∃ k g d, k ≤ m ∧ i = .int .i64 (k : Nat) ∧ o = .slice (some ⟨g, 0, none⟩) k d ∧ Hid (w.heap.size ≤ g ∧ OwnR wr w.heap.size g k d (packV T k) ∧ Below w.heap.size w wr)) (fun _ i _ => m - (intOf i).toNat)
  case atStart => exact ⟨0, _, _, Nat.zero_le _, rfl, rfl, hidden ⟨Nat.le_refl _, HO.out, alloc_below _ _⟩⟩
  case round =>
    obtain ⟨k, g, d, hk, rfl, rfl, HI⟩ := hrel
    by_cases hlt : k < m
    · have c1 := (H.out.keep HI.out.2.2).cell k hlt
      have ht := HT.out k hlt
      have HST := hidden (packV_succ T k)
      have O1 := hidden HI.out.2.1
      have B1 := hidden HI.out.2.2
      have G1 := HI.out.1
      have W1 := hidden HI.out.2.2.size
      have HX := hidden (show bytN (T k) = if T k < 0 then 31 - T k else T k + 1 from rfl)
      clear HI
      generalize T k = x at *
      by_cases hx : x < 0
      · have HXX := hidden (show 31 - x = bytN x by rw [HX.out, if_pos hx])
        have a3 : IntKind.u8.wrap (31 - x) = 31 - x := by rw [IntKind.wrap_u8']; omega
        go_wp2_with (first | (at_builtin; refine wpList_append_own _ rfl _ _ 22 rfl w.heap.size 5 _ (.int .u8 0) 1 1 Try.underlying22 rfl rfl rfl rfl rfl (by decide) _ _ _ rfl (World.ownsRow.alloc O1.out _) ⟨wr.heap.size, 0, none⟩ 1 1 [.int .u8 (31 - x)] rfl rfl (one_src _ _ _) (oneVal _ rfl) (by unfold maxLen; omega) (by omega) (by have := W1.out; simp; omega) ?_) | go_in)
        intro v' w1 hown hgrow hnil
        obtain ⟨g2, d2, rfl, G2, O2, B2⟩ := own_row hown (by simpa using hnil) ((B1.out.alloc W1.out _).grown hgrow (by have := W1.out; simp; omega) (by intro q hq; simp [Value.ownBlock] at hq; omega))
        rw [HXX.out, ← HST.out] at O2
        have H4 := hidden (And.intro G2 (And.intro O2 B2))
        clear hown hgrow hnil c1 O1 B1 G1 W1 O2 B2 G2 HXX HX HST
        go_wp2
        exact ⟨⟨k + 1, g2, d2, by omega, by go_num, rfl, H4⟩, by simp [intOf]; omega⟩
      · have HXX := hidden (show x + 1 = bytN x by rw [HX.out, if_neg hx])
        have a3 : IntKind.u8.wrap (x + 1) = x + 1 := by rw [IntKind.wrap_u8']; omega
        go_wp2_with (first | (at_builtin; refine wpList_append_own _ rfl _ _ 22 rfl w.heap.size 5 _ (.int .u8 0) 1 1 Try.underlying22 rfl rfl rfl rfl rfl (by decide) _ _ _ rfl (World.ownsRow.alloc O1.out _) ⟨wr.heap.size, 0, none⟩ 1 1 [.int .u8 (x + 1)] rfl rfl (one_src _ _ _) (oneVal _ rfl) (by unfold maxLen; omega) (by omega) (by have := W1.out; simp; omega) ?_) | go_in)
        intro v' w1 hown hgrow hnil
        obtain ⟨g2, d2, rfl, G2, O2, B2⟩ := own_row hown (by simpa using hnil) ((B1.out.alloc W1.out _).grown hgrow (by have := W1.out; simp; omega) (by intro q hq; simp [Value.ownBlock] at hq; omega))
        rw [HXX.out, ← HST.out] at O2
        have H4 := hidden (And.intro G2 (And.intro O2 B2))
        clear hown hgrow hnil c1 O1 B1 G1 W1 O2 B2 G2 HXX HX HST
        go_wp2
        exact ⟨⟨k + 1, g2, d2, by omega, by go_num, rfl, H4⟩, by simp [intOf]; omega⟩
    · obtain rfl : m = k := by omega
      go_wp2
      go_ret
      exact ⟨g, d, rfl, HI.out.1, HI.out.2.1, HI.out.2.2⟩

set_option maxRecDepth 20000 in
set_option maxHeartbeats 400000 in
theorem variableOfB_any (x : Int) (w : World) (h : -9223372036854775808 ≤ -1 - x ∧ -1 - x ≤ 9223372036854775807) :
    Calls Try.prog 90 #[.int .i64 x] w fun e w' => e = .returned (.int .i64 (-1 - x)) ∧ Below w.heap.size w w' := by
  go_enter Try.func90, Try.ntmps90
  go_wp2
  go_ret
  exact ⟨rfl, Below.refl _ _⟩

set_option maxRecDepth 20000 in
set_option maxHeartbeats 400000 in
theorem byteOf_any (x : Int) (w : World) (h : -12 ≤ x ∧ x ≤ 5) :
    Calls Try.prog 76 #[.int .i64 x] w fun e w' => e = .returned (.int .u8 (bytN x)) ∧ Below w.heap.size w w' := by
  go_enter Try.func76, Try.ntmps76
  go_wp2_with fail
  with_reducible refine (isVariable_any _ _).mono ?_
  rintro e w1 ⟨rfl, hb⟩
  have B := hidden hb
  clear hb
  by_cases hx : x < 0
  · have hv : varB x = true := by simp [varB]; omega
    rw [hv]
    clear hv
    have HX := hidden (show bytN x = 32 + (-1 - x) by unfold bytN; rw [if_pos hx]; omega)
    go_wp2_with fail
    with_reducible refine (variableOfB_any _ _ (by omega)).mono ?_
    rintro e w2 ⟨rfl, hb⟩
    have B2 := hidden (keepB B.out hb)
    clear hb
    have a3 : IntKind.u8.wrap (32 + (-1 - x)) = 32 + (-1 - x) := by rw [IntKind.wrap_u8']; omega
    go_wp2
    go_ret
    exact ⟨by rw [HX.out]; rfl, B2.out⟩
  · have hv : varB x = false := by simp [varB]; omega
    rw [hv]
    clear hv
    have HX := hidden (show bytN x = 1 + x by unfold bytN; rw [if_neg hx]; omega)
    have a3 : IntKind.u8.wrap (1 + x) = 1 + x := by rw [IntKind.wrap_u8']; omega
    go_wp2
    go_ret
    exact ⟨by rw [HX.out]; rfl, B.out⟩

end Go.Proofs.Ytjjpkhlbokfjpaa

/- Contracts: a term as bytes: the program's packNodes; PackTerm of the model and of the program. -/
namespace Go.Proofs.Ytjjpkhlbokfjpaa
open Go.RowKit

theorem packV_set (T : Nat → Int) (m k : Nat) (hk : k < m) : (packV T k ++ List.replicate (m - k) (Value.int .u8 0)).set k (.int .u8 (bytN (T k))) = packV T (k + 1) ++ List.replicate (m - (k + 1)) (Value.int .u8 0) := by
  rw [show m - k = (m - (k + 1)) + 1 by omega, List.replicate_succ, List.set_append_right _ _ (by rw [packV_len]; exact Nat.le_refl _), packV_len, Nat.sub_self, List.set_cons_zero, packV_succ, List.append_assoc]
  rfl

set_option maxRecDepth 20000 in
set_option maxHeartbeats 1600000 in
theorem packNodes_any (b off m c : Nat) (T : Nat → Int) (w : World) (h : Ints w b off m T) (hm : m ≤ 24) (hT : ∀ i, i < m → -12 ≤ T i ∧ T i ≤ 5) :
    Calls Try.prog 46 #[.slice (some ⟨b, off, none⟩) m c] w fun e w' => ∃ g d, e = .returned (.slice (some ⟨g, 0, none⟩) m d) ∧ w.heap.size ≤ g ∧ OwnR w' w.heap.size g m d (packV T m) ∧ Below w.heap.size w w' := by
  have HT := hidden hT
  have H := hidden h
  obtain ⟨w1, hmk, how, hgr⟩ := run_make_full (P := Try.prog) w w.heap.size 22 5 _ (.int .u8 0) 1 Try.underlying22 rfl rfl rfl .i64 .i64 m (by show 1 * m ≤ _; omega) (by unfold maxLen; omega) (Nat.le_refl _)
  have e : (madeCells (Value.int IntKind.u8 0).cells (m * 1)).toList = List.replicate m (Value.int .u8 0) := by
    rw [Nat.mul_one]; exact toList_madeCells_one _ _
  rw [e] at how
  have HO := hidden how
  have HG := hidden hgr
  clear hT h how hgr e
  go_enter Try.func46, Try.ntmps46
  go_wp2
  go_loopw [11] (fun i wr => ∃ k : Nat, k ≤ m ∧ i = .int .i64 k ∧ Hid (OwnR wr w.heap.size w.heap.size m m (packV T k ++ List.replicate (m - k) (Value.int .u8 0)) ∧ Below w.heap.size w wr)) (fun i _ => m - (intOf i).toNat)
  case atStart => exact ⟨0, Nat.zero_le _, rfl, hidden ⟨by simpa [packV, packT, OwnR] using HO.out, (Below.refl _ _).grown HG.out (Nat.le_refl _) (fun k hk => by cases hk)⟩⟩
  case round =>
    obtain ⟨k, hk, rfl, HI⟩ := hrel
    by_cases hlt : k < m
    · have c1 := (H.out.keep HI.out.2).cell k hlt
      have ht := HT.out k hlt
      have HST := hidden (packV_set T m k hlt)
      clear hmk
      generalize T k = x at *
      go_wp2_with fail
      with_reducible refine (byteOf_any _ _ ht).mono ?_
      rintro e w2 ⟨rfl, hb⟩
      have O1 := HI.out.1.keep hb
      have B1 := keepB HI.out.2 hb
      have hfr := World.ownsRow.frozenAt O1 k
      have hl : (packV T k ++ List.replicate (m - k) (Value.int .u8 0)).length = m := by simp [packV_len]; omega
      have hst := World.ownsRow.cellAt O1 k (by omega)
      have hs2 := World.ownsRow.stored O1 k (.int .u8 (bytN x))
      rw [HST.out] at hs2
      rw [List.getElem?_eq_getElem (by omega)] at hst
      have HS := hidden (And.intro hs2.1 (B1.grown hs2.2 B1.size (fun j hj => by cases hj; exact Nat.le_refl _)))
      generalize (packV T k ++ List.replicate (m - k) (Value.int .u8 0))[k]'(by omega) = u at hst
      generalize bytN x = y at *
      clear hb O1 B1 hs2 HST HI c1 hl
      go_wp2
      go_roundw
      case rel => exact ⟨k + 1, by omega, by go_num, hidden ⟨HS.out.1, HS.out.2⟩⟩
      case measure => simp [intOf]; omega
    · obtain rfl : m = k := by omega
      go_wp2
      go_ret
      exact ⟨_, _, rfl, Nat.le_refl _, by simpa using HI.out.1, HI.out.2⟩

set_option maxRecDepth 20000 in
set_option maxHeartbeats 1600000 in
theorem specPack_any (b off n c b' off' m c' : Nat) (N : Nat → ByteArray) (A T : Nat → Int) (w : World) (h : Syms w b off n N A) (h' : Ints w b' off' m T) (hk : Kept n N A) (hm : m ≤ 1048576) :
    Calls Try.prog 19 #[.agg #[.slice (some ⟨b, off, none⟩) n c], .slice (some ⟨b', off', none⟩) m c'] w fun e w' => BytAns w (termF n N A m T) (packT T m) e w' ∧ Below w.heap.size w w' := by
  have D := hidden ((One.new w (.slice (some ⟨b, off, none⟩) n c) 26).keep (alloc_below _ (.cells #[.int .i64 0, .slice none 0 0] 42)))
  have R := hidden (Res.new (w.alloc (.cells #[.slice (some ⟨b, off, none⟩) n c] 26)) (.int .i64 0) (.slice none 0 0) 42)
  have B := hidden (keepB (alloc_below w (.cells #[.slice (some ⟨b, off, none⟩) n c] 26)) (alloc_below _ (.cells #[.int .i64 0, .slice none 0 0] 42)))
  have Q := hidden (h.keep B.out)
  have I := hidden (h'.keep B.out)
  have HK := hidden hk
  rw [World.size_alloc] at R
  clear h h' hk
  go_enter Try.func19, Try.ntmps19
  go_wp2_with fail
  with_reducible refine (specTerm_any _ _ _ _ _ _ _ _ N A T _ Q.out I.out HK.out hm).mono ?_
  rintro e w1 ⟨rfl, hb⟩
  replace D := hidden (D.out.keep hb)
  replace R := hidden (R.out.keep hb)
  replace B := hidden (keepB B.out hb)
  replace I := hidden (I.out.keep hb)
  clear hb Q
  by_cases hf : termF n N A m T = 0
  · have HF := hidden hf
    have HN := hidden (term_right hf).nods
    rw [hf]
    clear hf
    go_wp2_with fail
    with_reducible refine (l5Pack_any _ _ _ _ T _ I.out HN.out.most HN.out.rng).mono ?_
    rintro r w3 ⟨g, d, rfl, hgg, ho, hb⟩
    have O := hidden ho
    have hR := R.out.blk
    have hBs := B.out.size
    replace R := hidden (R.out.keep hb)
    replace B := hidden (keepB B.out hb)
    clear hb D I ho
    obtain ⟨_, q0, q1, f0, f1⟩ := id R.out
    go_wp2
    exact bodyPost_ret (v := .agg #[.int .i64 0, .slice (some ⟨g, 0, none⟩) m d]) (by simp [results, Try.results19, go_sem, q0, q1]) rfl ⟨Or.inr ⟨HF.out, g, d, by rw [packT_len], by omega, by
        rw [packT_len]; exact ((O.out.other _ _ (by simp; omega)).other _ _ (by simp; omega)).base (by omega)⟩, (B.out.setCell (by simp) _).setCell (by simp) _⟩
  · have HN := hidden hf
    have hf' : (termF n N A m T != 0) = true := by simpa using hf
    generalize hz : termF n N A m T = z at hf' HN ⊢
    have HZ := hidden hz
    clear hz
    clear hf
    obtain ⟨_, q0, q1, f0, f1⟩ := id R.out
    go_wp2
    exact bodyPost_ret (v := .agg #[.int .i64 z, .slice none 0 0]) (by simp [results, Try.results19, go_sem, q0, q1]) rfl ⟨Or.inl ⟨by rw [HZ.out]; exact HN.out, by rw [HZ.out]⟩, (B.out.setCell (by simp) _).setCell (by simp) _⟩

set_option maxRecDepth 20000 in
set_option maxHeartbeats 1600000 in
theorem implPack_any (b off n c b' off' m c' : Nat) (N : Nat → ByteArray) (A T : Nat → Int) (w : World) (h : Syms w b off n N A) (h' : Ints w b' off' m T) (hk : Kept n N A) (hm : m ≤ 1048576) :
    Calls Try.prog 16 #[.agg #[.slice (some ⟨b, off, none⟩) n c], .slice (some ⟨b', off', none⟩) m c'] w fun e w' => BytAns w (termF n N A m T) (packT T m) e w' ∧ Below w.heap.size w w' := by
  have D := hidden ((One.new w (.slice (some ⟨b, off, none⟩) n c) 26).keep (alloc_below _ (.cells #[.int .i64 0, .slice none 0 0] 42)))
  have R := hidden (Res.new (w.alloc (.cells #[.slice (some ⟨b, off, none⟩) n c] 26)) (.int .i64 0) (.slice none 0 0) 42)
  have B := hidden (keepB (alloc_below w (.cells #[.slice (some ⟨b, off, none⟩) n c] 26)) (alloc_below _ (.cells #[.int .i64 0, .slice none 0 0] 42)))
  have Q := hidden (h.keep B.out)
  have I := hidden (h'.keep B.out)
  have HK := hidden hk
  rw [World.size_alloc] at R
  clear h h' hk
  go_enter Try.func16, Try.ntmps16
  go_wp2_with fail
  with_reducible refine (implTerm_any _ _ _ _ _ _ _ _ N A T _ Q.out I.out HK.out hm).mono ?_
  rintro e w1 ⟨rfl, hb⟩
  replace D := hidden (D.out.keep hb)
  replace R := hidden (R.out.keep hb)
  replace B := hidden (keepB B.out hb)
  replace I := hidden (I.out.keep hb)
  clear hb Q
  by_cases hf : termF n N A m T = 0
  · have HF := hidden hf
    have HN := hidden (term_right hf).nods
    rw [hf]
    clear hf
    go_wp2_with fail
    with_reducible refine (packNodes_any _ _ _ _ T _ I.out HN.out.most HN.out.rng).mono ?_
    rintro r w3 ⟨g, d, rfl, hgg, ho, hb⟩
    have O := hidden ho
    have hR := R.out.blk
    have hBs := B.out.size
    replace R := hidden (R.out.keep hb)
    replace B := hidden (keepB B.out hb)
    clear hb D I ho
    obtain ⟨_, q0, q1, f0, f1⟩ := id R.out
    go_wp2
    exact bodyPost_ret (v := .agg #[.int .i64 0, .slice (some ⟨g, 0, none⟩) m d]) (by simp [results, Try.results16, go_sem, q0, q1]) rfl ⟨Or.inr ⟨HF.out, g, d, by rw [packT_len], by omega, by
        rw [packT_len]; exact ((O.out.other _ _ (by simp; omega)).other _ _ (by simp; omega)).base (by omega)⟩, (B.out.setCell (by simp) _).setCell (by simp) _⟩
  · have HN := hidden hf
    have hf' : (termF n N A m T != 0) = true := by simpa using hf
    generalize hz : termF n N A m T = z at hf' HN ⊢
    have HZ := hidden hz
    clear hz
    clear hf
    obtain ⟨_, q0, q1, f0, f1⟩ := id R.out
    go_wp2
    exact bodyPost_ret (v := .agg #[.int .i64 z, .slice none 0 0]) (by simp [results, Try.results16, go_sem, q0, q1]) rfl ⟨Or.inl ⟨by rw [HZ.out]; exact HN.out, by rw [HZ.out]⟩, (B.out.setCell (by simp) _).setCell (by simp) _⟩

end Go.Proofs.Ytjjpkhlbokfjpaa

/- Small facts for the laws of stage 5: bytes that came in, their copies and marks. -/
namespace Go.Proofs.Ytjjpkhlbokfjpaa
open Go.RowKit

theorem Byt.Src.keep {w w' : World} {p : Option Addr} {n : Nat} {l : List Int} (h : Byt.Src w p n l) (hb : Below w.heap.size w w') : Byt.Src w' p n l := Byt.Src.later h hb
theorem Byt.Row.keep {w w' : World} {b off n : Nat} {l : List Int} (h : Byt.Row w b off n l) (hb : Below w.heap.size w w') : Byt.Row w' b off n l := h.later hb h.blk

theorem mem_getD {l : List Int} (hb : ∀ i, 0 ≤ l.getD i 0 ∧ l.getD i 0 ≤ 255) : ∀ x ∈ l, 0 ≤ x ∧ x ≤ 255 := by
  intro x hx
  obtain ⟨i, hi, rfl⟩ := List.getElem_of_mem hx
  have := hb i
  rw [List.getD_eq_getElem?_getD, List.getElem?_eq_getElem hi] at this
  simpa using this

end Go.Proofs.Ytjjpkhlbokfjpaa

/- Contracts: terms out of bytes: the node of a byte, the model's l5Read. -/
namespace Go.Proofs.Ytjjpkhlbokfjpaa
open Go.RowKit

/-- The node of a byte, and whether there is one. -/
def nodV (x : Int) : Int := if x < 32 then x - 1 else 31 - x
def okN (x : Int) (n : Nat) : Bool := if x < 32 then inB (x - 1) n else varB (31 - x)

theorem okN_node {x : Int} {n : Nat} (h : okN x n = true) : nodeB (nodV x) n = true := by
  unfold okN at h
  unfold nodV nodeB
  by_cases hx : x < 32
  · rw [if_pos hx] at h ⊢; rw [h]; rfl
  · rw [if_neg hx] at h ⊢; rw [h]; simp

/-- Bytes in memory. -/
structure Byts (w : World) (p : Option Addr) (m : Nat) (l : Nat → Int) : Prop where
  row : m = 0 ∨ ∃ b off, p = some ⟨b, off, none⟩ ∧ b < w.heap.size ∧ ∀ i, i < m → w.cell? ⟨b, off + i, none⟩ = some (.int .u8 (l i))
  byt : ∀ i, i < m → 0 ≤ l i ∧ l i ≤ 255

theorem Byts.keep {w w' : World} {p : Option Addr} {m : Nat} {l : Nat → Int} (h : Byts w p m l) (hb : Below w.heap.size w w') : Byts w' p m l :=
  ⟨h.row.imp id fun ⟨b, off, hp, h1, h2⟩ => ⟨b, off, hp, Nat.lt_of_lt_of_le h1 hb.size, fun i hi => by rw [hb.cell (p := ⟨b, off + i, none⟩) h1]; exact h2 i hi⟩, h.byt⟩

theorem Byt.Row.byts {w : World} {b off n : Nat} {l : List Int} (h : Byt.Row w b off n l) : Byts w (some ⟨b, off, none⟩) n (fun i => l.getD i 0) :=
  ⟨Or.inr ⟨b, off, rfl, h.blk, h.cell⟩, fun i _ => h.byt i⟩

set_option maxRecDepth 20000 in
set_option maxHeartbeats 800000 in
theorem l5Node_any (B : Nat) (p : Option Addr) (n c : Nat) (x : Int) (w : World) (h : One w B (.slice p n c)) (hn : n ≤ 1048576) (hx : 0 ≤ x ∧ x ≤ 255) :
    Calls Try.prog 79 #[.pointer (some ⟨B, 0, none⟩), .int .u8 x] w fun e w' => e = .returned (.tuple #[.int .i64 (nodV x), .bool (okN x n)]) ∧ Below w.heap.size w w' := by
  by_cases h1 : x < 32
  · have HV := hidden (show nodV x = x - 1 by rw [nodV, if_pos h1])
    have HO := hidden (show okN x n = inB (x - 1) n by rw [okN, if_pos h1])
    go_enter Try.func79, Try.ntmps79
    go_wp2_with fail
    with_reducible refine (l2Symbol_any _ _ _ _ _ _ h hn).mono ?_
    rintro e w1 ⟨rfl, hb⟩
    go_wp2
    go_ret2
    exact ⟨by rw [HV.out, HO.out]; rfl, hb⟩
  · have HV := hidden (show nodV x = 31 - x by rw [nodV, if_neg h1])
    have HO := hidden (show okN x n = nodeB (31 - x) n by
      rw [okN, if_neg h1, nodeB]
      have : inB (31 - x) n = false := by simp [inB]; omega
      rw [this, Bool.false_or])
    go_enter Try.func79, Try.ntmps79
    go_wp2_with fail
    with_reducible refine (l3Node_any _ _ _ _ _ _ h hn).mono ?_
    rintro e w1 ⟨rfl, hb⟩
    go_wp2
    go_ret2
    exact ⟨by rw [HV.out, HO.out]; rfl, hb⟩

set_option maxRecDepth 20000 in
set_option maxHeartbeats 800000 in
theorem nodeOf_any (p : Option Addr) (n c : Nat) (x : Int) (w : World) (hx : 0 ≤ x ∧ x ≤ 255) :
    Calls Try.prog 91 #[.agg #[.slice p n c], .int .u8 x] w fun e w' => e = .returned (.tuple #[.int .i64 (nodV x), .bool (okN x n)]) ∧ Below w.heap.size w w' := by
  have D := hidden (One.new w (.slice p n c) 26)
  have B := hidden (alloc_below w (.cells #[.slice p n c] 26))
  by_cases h1 : x < 32
  · have HV := hidden (show nodV x = x - 1 by rw [nodV, if_pos h1])
    have HO := hidden (show okN x n = inB (x - 1) n by rw [okN, if_pos h1])
    have h2 : ¬ 32 ≤ x := by omega
    go_enter Try.func91, Try.ntmps91
    go_wp2_with fail
    with_reducible refine (isSymbol_any _ _ _ _ _).mono ?_
    rintro e w1 ⟨rfl, hb⟩
    replace B := hidden (keepB B.out hb)
    clear hb
    go_wp2
    go_ret2
    exact ⟨by rw [HV.out, HO.out]; rfl, B.out⟩
  · have HV := hidden (show nodV x = -1 - (x - 32) by rw [nodV, if_neg h1]; omega)
    have HO := hidden (show okN x n = varB (-1 - (x - 32)) by rw [okN, if_neg h1]; congr 1; omega)
    have h2 : 32 ≤ x := by omega
    go_enter Try.func91, Try.ntmps91
    go_wp2_with fail
    with_reducible refine (variableOfB_any _ _ (by omega)).mono ?_
    rintro e w1 ⟨rfl, hb⟩
    replace B := hidden (keepB B.out hb)
    clear hb
    go_wp2_with fail
    with_reducible refine (isVariable_any _ _).mono ?_
    rintro e w2 ⟨rfl, hb⟩
    replace B := hidden (keepB B.out hb)
    clear hb
    go_wp2
    go_ret2
    exact ⟨by rw [HV.out, HO.out]; rfl, B.out⟩

/-- The nodes of bytes. -/
def nodT (l : Nat → Int) (i : Nat) : Int := nodV (l i)

/-- The first k bytes are those of one term. -/
structure RdP (n : Nat) (A : Nat → Int) (m : Nat) (l : Nat → Int) (k : Nat) : Prop where
  pos : 0 < k
  le : k ≤ m
  most : k ≤ 24
  ok : ∀ i, i < k → okN (l i) n = true
  whole : skip (aOf A (nodT l)) k 0 1 = some k

open Classical in
/-- How many bytes the term has that they begin with; 0: there is none. -/
noncomputable def rdK (n : Nat) (A : Nat → Int) (m : Nat) (l : Nat → Int) : Nat := if h : ∃ k, RdP n A m l k then h.choose else 0

theorem whole_awt {a : Nat → Nat} {k : Nat} (h : skip a k 0 1 = some k) : (∀ i, i < k → 0 < awt a 0 i) ∧ awt a 0 k = 0 := by
  have hm := manyN_some h
  refine ⟨fun i hi => awt_pos (m := k) (Nat.zero_le _) i (Or.inl (by omega)), ?_⟩
  have := awt_end (m := k) (Nat.zero_le _) h
  rwa [hm] at this

theorem rd_one {n : Nat} {A : Nat → Int} {m : Nat} {l : Nat → Int} {k j : Nat} (h : RdP n A m l k) (h' : RdP n A m l j) : k = j := by
  have a1 := whole_awt h.whole
  have a2 := whole_awt h'.whole
  rcases Nat.lt_trichotomy k j with hlt | e | hlt
  · have := a2.1 k hlt; omega
  · exact e
  · have := a1.1 j hlt; omega

theorem rd_at {n : Nat} {A : Nat → Int} {m : Nat} {l : Nat → Int} {k : Nat} (h : RdP n A m l k) : rdK n A m l = k := by
  have hx : ∃ k, RdP n A m l k := ⟨k, h⟩
  rw [rdK, dif_pos hx]
  exact rd_one hx.choose_spec h

theorem rd_none {n : Nat} {A : Nat → Int} {m : Nat} {l : Nat → Int} (h : ∀ k, ¬ RdP n A m l k) : rdK n A m l = 0 := by
  rw [rdK, dif_neg (fun ⟨k, hk⟩ => h k hk)]

theorem rd_spec {n : Nat} {A : Nat → Int} {m : Nat} {l : Nat → Int} (h : rdK n A m l ≠ 0) : RdP n A m l (rdK n A m l) := by
  by_cases hx : ∃ k, RdP n A m l k
  · obtain ⟨k, hk⟩ := hx; rw [rd_at hk]; exact hk
  · rw [rd_none (fun k hk => hx ⟨k, hk⟩)] at h; exact absurd rfl h

theorem rd_le {n : Nat} {A : Nat → Int} {m : Nat} {l : Nat → Int} : rdK n A m l ≤ m ∧ rdK n A m l ≤ 24 := by
  by_cases h : rdK n A m l = 0
  · rw [h]; omega
  · have := rd_spec h; exact ⟨this.le, this.most⟩

/-- What reading answers: nothing, or a list of its own. -/
def RdAns5 (w : World) (K : Nat) (T : Nat → Int) (e : Ending) (w' : World) : Prop :=
  (K = 0 ∧ e = .returned (.slice none 0 0)) ∨ (0 < K ∧ ∃ g d, e = .returned (.slice (some ⟨g, 0, none⟩) K d) ∧ w.heap.size ≤ g ∧ OwnI w' w.heap.size g K d T K)

theorem int_src (W : World) (v : Value) (t : TypeId) : ∀ (j : Nat) (u : Value), [v][j]? = some u → (W.alloc (.cells #[v] t)).cell? ((⟨W.heap.size, 0, none⟩ : Addr).add j) = some u := one_src W v t

theorem own_ints {w w1 : World} {B : Nat} {v' : Value} {xs : List Value} {k : Nat} {L : Nat → Int} (h : w1.ownsRow B 2 1 v' k xs) (hx : ∀ i, i < k → xs[i]? = some (.int .i64 (L i))) (hnil : ¬ v' = .slice none 0 0) (hb : Below B w w1) : ∃ g d, v' = .slice (some ⟨g, 0, none⟩) k d ∧ B ≤ g ∧ OwnI w1 B g k d L k ∧ Below B w w1 := by
  rcases h.2 with ⟨hv, _⟩ | ⟨g, d, cur, hv, hg, _⟩
  · exact absurd hv hnil
  · subst hv; exact ⟨g, d, rfl, hg, ⟨xs, h, hx⟩, hb⟩

theorem push_at {xs : List Value} {k : Nat} {L : Nat → Int} (hl : xs.length = k * 1) (hx : ∀ i, i < k → xs[i]? = some (.int .i64 (L i))) {y : Int} (hy : y = L k) : ∀ i, i < k + 1 → (xs ++ [Value.int .i64 y])[i]? = some (.int .i64 (L i)) := by
  intro i hi
  by_cases e : i = k
  · subst e; rw [List.getElem?_append_right (by omega), hl, hy]; simp
  · rw [List.getElem?_append_left (by omega)]; exact hx i (by omega)

set_option maxRecDepth 20000 in
set_option maxHeartbeats 1600000 in
theorem l5Read_row (B b off n c b' off' m c' : Nat) (N : Nat → ByteArray) (A l : Nat → Int) (w : World) (hd : One w B (.slice (some ⟨b, off, none⟩) n c)) (h : Syms w b off n N A) (hs : Sound n A) (hm : m ≤ 1048576)
    (hb' : b' < w.heap.size) (hc : ∀ i, i < m → w.cell? ⟨b', off' + i, none⟩ = some (.int .u8 (l i))) (hl : ∀ i, i < m → 0 ≤ l i ∧ l i ≤ 255) :
    Calls Try.prog 51 #[.pointer (some ⟨B, 0, none⟩), .slice (some ⟨b', off', none⟩) m c'] w fun e w' => RdAns5 w (rdK n A m l) (nodT l) e w' ∧ Below w.heap.size w w' := by
  have D := hidden hd
  have H := hidden h
  have HS := hidden hs
  have HC := hidden hc
  have HL := hidden hl
  have HO := hidden (World.ownsRow_made (base := w.heap.size) (e := 2) (size := 1) w #[] 0 (Nat.le_refl _) (Nat.zero_le _) rfl)
  clear hd h hs hc hl
  go_enter Try.func51, Try.ntmps51
  go_wp2
  go_loopw [5, 6] (fun o i wr => ∃ k g d, k ≤ m ∧ k ≤ 24 ∧ i = .int .i64 (k : Nat) ∧ o = .slice (some ⟨g, 0, none⟩) k d ∧ Hid (w.heap.size ≤ g ∧ OwnI wr w.heap.size g k d (nodT l) k ∧ Below w.heap.size w wr) ∧ Hid ((∀ i, i < k → okN (l i) n = true) ∧ ∀ j, 0 < j → j ≤ k → skip (aOf A (nodT l)) j 0 1 ≠ some j)) (fun _ i _ => m - (intOf i).toNat)
  case atStart => exact ⟨0, _, _, Nat.zero_le _, Nat.zero_le _, rfl, rfl, hidden ⟨Nat.le_refl _, ⟨_, HO.out, fun i hi => by omega⟩, alloc_below _ _⟩, hidden ⟨fun i hi => by omega, fun j h0 hj => by omega⟩⟩
  case round =>
    obtain ⟨k, g, d, hk, hk24, rfl, rfl, HI, HR⟩ := hrel
    by_cases hlt : k < m
    · by_cases h24 : k < 24
      · have c1 : wr.cell? ⟨b', off' + k, none⟩ = some (.int .u8 (l k)) := by rw [HI.out.2.2.cell (p := ⟨b', off' + k, none⟩) hb']; exact HC.out k hlt
        have hx := HL.out k hlt
        have HT := hidden (show nodV (l k) = nodT l k from rfl)
        have HE := hidden (rfl : l k = l k)
        generalize hy : l k = x at c1 hx HT HE
        have HY := hidden hy
        clear hy HE
        go_wp2_with fail
        with_reducible refine (l5Node_any _ _ _ _ _ _ (D.out.keep HI.out.2.2) (by have := HS.out.most; omega) hx).mono ?_
        rintro e w1 ⟨rfl, hb⟩
        have G1 := HI.out.1
        have O1 := hidden (HI.out.2.1.keep hb)
        have B1 := hidden (keepB HI.out.2.2 hb)
        have W1 := hidden B1.out.size
        clear hb c1 HI
        generalize ho : okN x n = ib
        cases ib
        · have HK := hidden (show rdK n A m l = 0 from rd_none (fun j hj => by
            by_cases hjk : j ≤ k
            · exact HR.out.2 j hj.pos hjk hj.whole
            · have := hj.ok k (by omega); rw [HY.out, ho] at this; cases this))
          clear ho
          go_wp2
          go_ret
          exact ⟨Or.inl ⟨HK.out, rfl⟩, B1.out⟩
        · have HOK := hidden (show ∀ i, i < k + 1 → okN (l i) n = true from fun i hi => by
            by_cases e : i = k
            · rw [e, HY.out]; exact ho
            · exact HR.out.1 i (by omega))
          clear ho
          generalize nodV x = y at HT ⊢
          obtain ⟨xs, hxo, hxa⟩ := O1.out
          have XO := hidden hxo
          have XA := hidden hxa
          clear O1 hxo hxa
          go_wp2_with (first | (at_builtin; refine wpList_append_own _ rfl _ _ 27 rfl w.heap.size 2 _ (.int .i64 0) 1 8 Try.underlying27 rfl rfl rfl rfl rfl (by decide) _ _ _ rfl (World.ownsRow.alloc XO.out _) ⟨w1.heap.size, 0, none⟩ 1 1 [.int .i64 y] rfl rfl (int_src _ _ _) (oneVal _ rfl) (by unfold maxLen; omega) (by omega) (by have := W1.out; simp; omega) ?_) | go_in)
          intro v' w2 hown hgrow hnil
          obtain ⟨g2, d2, rfl, G2, O2, B2⟩ := own_ints hown (push_at XO.out.1 XA.out HT.out) (by simpa using hnil) ((B1.out.alloc W1.out _).grown hgrow (by have := W1.out; simp; omega) (by intro q hq; simp [Value.ownBlock] at hq; omega))
          have HO2 := hidden O2
          have HB2 := hidden B2
          have HN := hidden (Nods.mk (n := n) (A := A) (m := k + 1) (T := nodT l) HS.out.most HS.out.arity (by omega) (fun i hi => okN_node (HOK.out i hi)))
          clear hown hgrow hnil B1 G1 W1 O2 B2 HT XO XA
          go_wp2_with fail
          with_reducible refine (l3Fault_all _ _ _ _ _ _ _ _ _ N A (nodT l) _ (D.out.keep HB2.out) (H.out.keep HB2.out) HO2.out.ints HS.out (by omega)).mono ?_
          rintro e w3 ⟨rfl, hb⟩
          replace HO2 := hidden (HO2.out.keep hb)
          replace HB2 := hidden (keepB HB2.out hb)
          clear hb
          by_cases hw : skip (aOf A (nodT l)) (k + 1) 0 1 = some (k + 1)
          · have HL0 := hidden (lF_ok (n := n) (A := A) (m := k + 1) (T := nodT l) (by omega) HN.out.node hw)
            have HK := hidden (rd_at (RdP.mk (n := n) (A := A) (m := m) (l := l) (k := k + 1) (by omega) (by omega) (by omega) HOK.out hw))
            rw [HL0.out]
            clear hw
            go_wp2
            go_ret
            exact ⟨Or.inr ⟨by rw [HK.out]; omega, g2, d2, by rw [HK.out]; rfl, G2, by rw [HK.out]; exact HO2.out⟩, HB2.out⟩
          · have HL0 := hidden (lF_form (n := n) (A := A) (m := k + 1) (T := nodT l) (by omega) HN.out.node hw)
            rw [HL0.out]
            have HW := hidden hw
            clear hw
            go_wp2
            exact ⟨⟨k + 1, g2, d2, by omega, by omega, by go_num, rfl, hidden ⟨G2, HO2.out, HB2.out⟩, hidden ⟨HOK.out, fun j h0 hj => by
              by_cases e : j = k + 1
              · rw [e]; exact HW.out
              · exact HR.out.2 j h0 (by omega)⟩⟩, by simp [intOf]; omega⟩
      · have HK := hidden (show rdK n A m l = 0 from rd_none (fun j hj => HR.out.2 j hj.pos (by have := hj.most; omega) hj.whole))
        obtain rfl : k = 24 := by omega
        go_wp2
        go_ret
        exact ⟨Or.inl ⟨HK.out, rfl⟩, HI.out.2.2⟩
    · have HK := hidden (show rdK n A m l = 0 from rd_none (fun j hj => HR.out.2 j hj.pos (by have := hj.le; omega) hj.whole))
      obtain rfl : m = k := by omega
      go_wp2
      go_ret
      exact ⟨Or.inl ⟨HK.out, rfl⟩, HI.out.2.2⟩

set_option maxRecDepth 20000 in
set_option maxHeartbeats 400000 in
theorem l5Read_zero (B n : Nat) (p' : Option Addr) (c' : Nat) (A l : Nat → Int) (w : World) :
    Calls Try.prog 51 #[.pointer (some ⟨B, 0, none⟩), .slice p' 0 c'] w fun e w' => RdAns5 w (rdK n A 0 l) (nodT l) e w' ∧ Below w.heap.size w w' := by
  have HK := hidden (show rdK n A 0 l = 0 by have := (rd_le (n := n) (A := A) (m := 0) (l := l)).1; omega)
  go_enter Try.func51, Try.ntmps51
  go_wp2
  refine wp_loop_rounds 1 ?_
  rw [rounds_succ]
  go_wp2
  go_ret
  exact ⟨Or.inl ⟨HK.out, rfl⟩, alloc_below _ _⟩

theorem l5Read_any (B b off n c : Nat) (p' : Option Addr) (m c' : Nat) (N : Nat → ByteArray) (A l : Nat → Int) (w : World) (hd : One w B (.slice (some ⟨b, off, none⟩) n c)) (h : Syms w b off n N A) (hs : Sound n A) (hm : m ≤ 1048576) (hl : Byts w p' m l) :
    Calls Try.prog 51 #[.pointer (some ⟨B, 0, none⟩), .slice p' m c'] w fun e w' => RdAns5 w (rdK n A m l) (nodT l) e w' ∧ Below w.heap.size w w' := by
  rcases hl.row with rfl | ⟨b', off', rfl, h1, h2⟩
  · exact l5Read_zero B n p' c' A l w
  · exact l5Read_row B b off n c b' off' m c' N A l w hd h hs hm h1 h2 hl.byt

end Go.Proofs.Ytjjpkhlbokfjpaa

/- Contracts: terms out of bytes: the program's nodesAhead. -/
namespace Go.Proofs.Ytjjpkhlbokfjpaa
open Go.RowKit

/-- A list of nodes that grows: none, or a row of its own. -/
def Grow (B : Nat) (w : World) (v : Value) (k : Nat) (T : Nat → Int) : Prop :=
  (k = 0 ∧ v = .slice none 0 0) ∨ (0 < k ∧ ∃ g d, v = .slice (some ⟨g, 0, none⟩) k d ∧ B ≤ g ∧ OwnI w B g k d T k)

theorem Grow.row {B : Nat} {w : World} {v : Value} {k : Nat} {T : Nat → Int} (h : Grow B w v k T) : ∃ xs, w.ownsRow B 2 1 v k xs ∧ ∀ i, i < k → xs[i]? = some (.int .i64 (T i)) := by
  rcases h with ⟨rfl, rfl⟩ | ⟨_, g, d, rfl, _, xs, ho, hx⟩
  · exact ⟨[], ⟨rfl, Or.inl ⟨rfl, rfl⟩⟩, fun i hi => by omega⟩
  · exact ⟨xs, ho, hx⟩

theorem Grow.block {B : Nat} {w : World} {v : Value} {k : Nat} {T : Nat → Int} (h : Grow B w v k T) : ∀ q, v.ownBlock = some q → B ≤ q := by
  rcases h with ⟨rfl, rfl⟩ | ⟨_, g, d, rfl, hg, _⟩
  · intro q hq; cases hq
  · intro q hq; simp [Value.ownBlock] at hq; omega

theorem Grow.keep {B : Nat} {w w' : World} {v : Value} {k : Nat} {T : Nat → Int} (h : Grow B w v k T) (hb : Below w.heap.size w w') : Grow B w' v k T :=
  h.imp id fun ⟨h0, g, d, hv, hg, ho⟩ => ⟨h0, g, d, hv, hg, ho.keep hb⟩

theorem Grow.base {B B' : Nat} {w : World} {v : Value} {k : Nat} {T : Nat → Int} (h : Grow B w v k T) (hB : B' ≤ B) : Grow B' w v k T :=
  h.imp id fun ⟨h0, g, d, hv, hg, ho⟩ => ⟨h0, g, d, hv, by omega, ho.base (by omega)⟩

set_option maxRecDepth 20000 in
set_option maxHeartbeats 1600000 in
theorem nodesAhead_any (p : Option Addr) (n c b' off' m c' : Nat) (l : Nat → Int) (w : World) (hm : m ≤ 24)
    (hb' : b' < w.heap.size) (hc : ∀ i, i < m → w.cell? ⟨b', off' + i, none⟩ = some (.int .u8 (l i))) (hl : ∀ i, i < m → 0 ≤ l i ∧ l i ≤ 255) :
    Calls Try.prog 77 #[.agg #[.slice p n c], .slice (some ⟨b', off', none⟩) m c'] w fun e w' => (∃ q v, e = .returned v ∧ q ≤ m ∧ (∀ i, i < q → okN (l i) n = true) ∧ (q = m ∨ okN (l q) n = false) ∧ Grow w.heap.size w' v q (nodT l)) ∧ Below w.heap.size w w' := by
  have D := hidden (One.new w (.slice p n c) 26)
  have B := hidden (alloc_below w (.cells #[.slice p n c] 26))
  have HC := hidden (show ∀ i, i < m → (w.alloc (.cells #[.slice p n c] 26)).cell? ⟨b', off' + i, none⟩ = some (.int .u8 (l i)) from fun i hi => by rw [(bcell B.out).1 _ _ hb']; exact hc i hi)
  have HL := hidden hl
  have W0 := hidden (show (w.alloc (.cells #[.slice p n c] 26)).heap.size = w.heap.size + 1 by simp)
  obtain ⟨w0, hw0⟩ : ∃ w0, w0 = w.alloc (.cells #[.slice p n c] 26) := ⟨_, rfl⟩
  have hbw : b' < w0.heap.size := by rw [hw0, W0.out]; omega
  rw [← hw0] at D B HC W0
  clear hc hl
  go_enter Try.func77, Try.ntmps77
  go_wp2
  rw [← hw0]
  clear hw0
  go_loopw [5, 12] (fun o i wr => ∃ k v, k ≤ m ∧ i = .int .i64 (k : Nat) ∧ o = v ∧ Hid (Grow w0.heap.size wr v k (nodT l) ∧ Below w0.heap.size w0 wr) ∧ Hid (∀ i, i < k → okN (l i) n = true)) (fun _ i _ => m - (intOf i).toNat)
  case atStart => exact ⟨0, _, Nat.zero_le _, rfl, rfl, hidden ⟨Or.inl ⟨rfl, rfl⟩, Below.refl _ _⟩, hidden (fun i hi => by omega)⟩
  case round =>
    obtain ⟨k, v, hk, rfl, rfl, HI, HR⟩ := hrel
    by_cases hlt : k < m
    · have c1 : wr.cell? ⟨b', off' + k, none⟩ = some (.int .u8 (l k)) := by rw [(bcell HI.out.2).1 _ _ hbw]; exact HC.out k hlt
      have d0 := (D.out.keep HI.out.2).c0
      have hx := HL.out k hlt
      have HT := hidden (show nodV (l k) = nodT l k from rfl)
      generalize hy : l k = x at c1 hx HT
      have HY := hidden hy
      clear hy
      go_wp2_with fail
      with_reducible refine (nodeOf_any _ _ _ _ _ hx).mono ?_
      rintro e w1 ⟨rfl, hb⟩
      have G1 := hidden (HI.out.1.keep hb)
      have B1 := hidden (keepB HI.out.2 hb)
      have W1 := hidden B1.out.size
      clear hb c1 HI d0
      generalize ho : okN x n = ib
      cases ib
      · have HF := hidden (show okN (l k) n = false by rw [HY.out]; exact ho)
        clear ho
        go_wp2
        go_ret
        exact ⟨⟨k, _, rfl, hk, HR.out, Or.inr HF.out, G1.out.base (by have := W0.out; omega)⟩, keepB B.out B1.out⟩
      · have HOK := hidden (show ∀ i, i < k + 1 → okN (l i) n = true from fun i hi => by
          by_cases e : i = k
          · rw [e, HY.out]; exact ho
          · exact HR.out i (by omega))
        clear ho
        generalize nodV x = y at HT ⊢
        obtain ⟨xs, hxo, hxa⟩ := G1.out.row
        have XO := hidden hxo
        have XA := hidden hxa
        have GB := hidden G1.out.block
        clear G1 hxo hxa
        go_wp2_with (first | (at_builtin; refine wpList_append_own _ rfl _ _ 27 rfl w0.heap.size 2 _ (.int .i64 0) 1 8 Try.underlying27 rfl rfl rfl rfl rfl (by decide) _ _ _ rfl (World.ownsRow.alloc XO.out _) ⟨w1.heap.size, 0, none⟩ 1 1 [.int .i64 y] rfl rfl (int_src _ _ _) (oneVal _ rfl) (by unfold maxLen; omega) (by omega) (by have := W1.out; simp; omega) ?_) | go_in)
        intro v' w2 hown hgrow hnil
        obtain ⟨g2, d2, rfl, G2, O2, B2⟩ := own_ints hown (push_at XO.out.1 XA.out HT.out) (by simpa using hnil) ((B1.out.alloc W1.out _).grown hgrow (by have := W1.out; simp; omega) GB.out)
        have HG := hidden (show Grow w0.heap.size w2 (.slice (some ⟨g2, 0, none⟩) (k + 1) d2) (k + 1) (nodT l) from Or.inr ⟨by omega, g2, d2, rfl, G2, O2⟩)
        have HB2 := hidden B2
        clear hown hgrow hnil B1 W1 O2 B2 HT XO XA GB G2
        go_wp2
        exact ⟨⟨k + 1, _, by omega, by go_num, rfl, hidden ⟨HG.out, HB2.out⟩, HOK⟩, by simp [intOf]; omega⟩
    · obtain rfl : m = k := by omega
      go_wp2
      go_ret
      exact ⟨⟨m, _, rfl, Nat.le_refl _, HR.out, Or.inl rfl, HI.out.1.base (by have := W0.out; omega)⟩, keepB B.out HI.out.2⟩

end Go.Proofs.Ytjjpkhlbokfjpaa

/- Contracts: the places of nodes, as the program goes through them, each told to be one of the nodes. -/
namespace Go.Proofs.Ytjjpkhlbokfjpaa
open Go.RowKit Go.Shelf

attribute [local go_sem] Oper.semAt_some

/-- A place of some nodes, and what is awaited behind it. -/
abbrev Plc (q : Nat) := { x : Nat × Int // x.1 < q }

set_option maxRecDepth 100000 in
set_option maxHeartbeats 2000000 in
theorem plc1_in (k0 : Nat) (hn : 1 ≤ k0) (l Bs Bt X B b off n c b' len cap : Nat) (N : Nat → ByteArray) (A T : Nat → Int) (hg : Nods n A len T)
    (hb : b < B ∧ b ≠ X) (hb' : b' < B ∧ b' ≠ X) (hBt : Bt < B ∧ Bt ≠ X) (J Jx : List (Plc len) → World → Prop)
    (hJ : ∀ s w w', J s w → Below w.heap.size w w' → J s w')
    (hY : ∀ pre (x : Plc len) W, J pre W → pre.length < len → YieldAt Fence.wide (k0 - 1) Try.prog l #[.int .i64 (x.1.1 : Int), .int .i64 x.1.2] W fun e W' =>
      (e = .returned (.bool true) ∧ J (pre ++ [x]) W' ∧ But X B W W') ∨ (e = .returned (.bool false) ∧ Jx (pre ++ [x]) W'))
    (W : World) (hBW : B ≤ W.heap.size) (hBs : W.cell? ⟨Bs, 0, none⟩ = some (.slice (some ⟨b', 0, none⟩) len cap)) (hct : W.cell? ⟨Bt, 0, none⟩ = some (.slice (some ⟨b, off, none⟩) n c)) (hs : Syms W b off n N A)
    (hc : ∀ j, j < len → W.cell? ⟨b', 0 + j, none⟩ = some (.int .i64 (T j))) (h0 : J [] W) :
    CallsIn Fence.wide k0 Try.prog 85 #[.func (.yield l) #[] #[], .pointer (some ⟨Bs, 0, none⟩), .pointer (some ⟨Bt, 0, none⟩)] W fun e W' => (∃ v, e = .returned v) ∧
      ((∃ xs, (∃ k, k ≤ len ∧ (∀ i, i < k → 0 < awt (aOf A T) 0 i) ∧ (awt (aOf A T) 0 k = 0 ∨ k = len) ∧ xs.map (·.1) = upto (yld (aOf A T) 0) k) ∧ J xs W') ∨ (∃ pre, (∃ k, k < len ∧ (∀ i, i ≤ k → 0 < awt (aOf A T) 0 i) ∧ pre.map (·.1) = upto (yld (aOf A T) 0) (k + 1)) ∧ Jx pre W')) := by
  refine callsIn_of_wp Try.func85 rfl trivial ?_ rfl
  simp only [Try.ntmps85, List.size_toArray, List.length_cons, List.length_nil, Nat.reduceAdd, Nat.reduceSub, Array.replicate_succ, Array.replicate_zero, List.push_toArray, List.append_toArray, List.nil_append, List.cons_append]
  have hl24 := hg.most
  have HG := hidden hg
  have HS := hidden hs
  have HC := hidden hc
  have HY := hidden hY
  have HJ := hidden hJ
  have HT := hidden hct
  have H0 := hidden h0
  clear hg hs hc hY hJ hct h0
  gi_wp2
  gi_loopw [4, 9] (fun z i wr => ∃ (k : Nat) (v : Int) (pre : List (Plc len)), k ≤ len ∧ i = .int .i64 k ∧ z = .int .i64 v ∧ 0 < v ∧ v ≤ 1 + k ∧ pre.length = k ∧ Hid (v = awt (aOf A T) 0 k) ∧ Hid (∀ i, i < k → 0 < awt (aOf A T) 0 i) ∧ Hid (pre.map (·.1) = upto (yld (aOf A T) 0) k) ∧ Hid (J pre wr) ∧ Hid (But X B W wr))
    (fun _ i _ => len - (intOf i).toNat)
  case atStart => exact ⟨0, 1, [], Nat.zero_le _, rfl, rfl, by omega, by omega, rfl, hidden rfl, hidden (fun i hi => by omega), hidden rfl, H0, hidden (But.refl _ _ _)⟩
  case round =>
    obtain ⟨k, v, pre, hk, rfl, rfl, hv0, hv1, hpl, HV, HA, HM, HI, HB⟩ := hrel
    by_cases hlt : k < len
    · have c1 : wr.cell? ⟨b', k, none⟩ = some (.int .i64 (T k)) := by have := (HB.out.cell (o := 0 + k) hb'.1 hb'.2).trans (HC.out k hlt); rwa [Nat.zero_add] at this
      have c2 : wr.cell? ⟨Bt, 0, none⟩ = some (.slice (some ⟨b, off, none⟩) n c) := (HB.out.cell hBt.1 hBt.2).trans HT.out
      have har := HG.out.aOf_le (p := k) (by omega)
      have HSw := hidden (HS.out.but HB.out hb.1 hb.2)
      obtain ⟨ar, hE⟩ : ∃ ar : Nat, ar = aOf A T k := ⟨_, rfl⟩
      have AC := hidden (argumentCount_any b off n c len N A T k wr HSw.out HG.out (by omega))
      rw [← hE] at AC har
      have HE := hidden hE
      clear hE
      generalize T k = x at c1 AC
      gi_wp2_with (refine ⟨trivial, ?_⟩; gi_at_call 86; refine (callsIn_wide.2 AC.out).mono ?_; rintro e w1 ⟨rfl, hb1⟩; clear AC; have HJ1 := hidden (HJ.out _ _ _ HI.out hb1); have HB1 := hidden (HB.out.trans (But.of hb1 (by have := HB.out.size; omega))); clear hb1 HI c1 c2; obtain ⟨fn, tmps, assign, body, hy, hR⟩ := HY.out pre ⟨(k, v + ((ar : Int) - 1)), hlt⟩ w1 HJ1.out (by omega); dsimp only at hy)
      have HN := hidden (show v + ((ar : Int) - 1) = awt (aOf A T) 0 (k + 1) by simp only [awt, Nat.zero_add]; rw [← HV.out, ← HE.out]; omega)
      have HA1 := hidden (show ∀ i, i < k + 1 → 0 < awt (aOf A T) 0 i from fun i hi => by
        by_cases e : i = k
        · rw [e, ← HV.out]; exact hv0
        · exact HA.out i (by omega))
      have HX := hidden (show (pre ++ [(⟨(k, v + ((ar : Int) - 1)), hlt⟩ : Plc len)]).map (·.1) = upto (yld (aOf A T) 0) (k + 1) by rw [List.map_append, HM.out, upto_succ, HN.out]; rfl)
      clear HJ1 HSw HV HA HE HB HM
      refine hR.mono ?_
      rintro e W3 (⟨rfl, hJ3, hk3⟩ | ⟨rfl, hJx3⟩)
      · have HJ3 := hidden hJ3
        have HB3 := hidden (HB1.out.trans hk3)
        clear hJ3 hk3 hR hy HB1
        by_cases hz : v + ((ar : Int) - 1) = 0
        · have hz' : (v + ((ar : Int) - 1) == 0) = true := by simpa using hz
          have HZ := hidden hz
          clear hz
          gi_wp2
          refine bodyPost_ret (results_none rfl _ _ _) rfl ?_
          exact ⟨⟨_, rfl⟩, .inl ⟨_, ⟨k + 1, by omega, HA1.out, .inl (by rw [← HN.out]; exact HZ.out), HX.out⟩, HJ3.out⟩⟩
        · have hz' : (v + ((ar : Int) - 1) == 0) = false := by simpa using hz
          have hz2 : 0 < v + ((ar : Int) - 1) := by omega
          clear hz
          gi_wp2
          go_roundw
          case rel => exact ⟨k + 1, v + ((ar : Int) - 1), _, by omega, by go_num, rfl, hz2, by omega, by simp [hpl], HN, HA1, HX, HJ3, HB3⟩
          case measure => simp [intOf]; omega
      · have HJ3 := hidden hJx3
        clear hJx3 hR hy HB1
        gi_wp2
        refine bodyPost_ret (results_none rfl _ _ _) rfl ?_
        exact ⟨⟨_, rfl⟩, .inr ⟨_, ⟨k, hlt, fun i hi => HA1.out i (by omega), HX.out⟩, HJ3.out⟩⟩
    · obtain rfl : k = len := by omega
      gi_wp2
      go_end0
      exact ⟨⟨_, rfl⟩, .inl ⟨_, ⟨k, Nat.le_refl _, HA.out, .inr rfl, HM.out⟩, HI.out⟩⟩

set_option maxRecDepth 100000 in
set_option maxHeartbeats 800000 in
theorem plc0_in (k0 : Nat) (l Bs Bt : Nat) (J : List (Plc 0) → World → Prop) (W : World) (hBs : W.cell? ⟨Bs, 0, none⟩ = some (.slice none 0 0)) (h0 : J [] W) :
    CallsIn Fence.wide k0 Try.prog 85 #[.func (.yield l) #[] #[], .pointer (some ⟨Bs, 0, none⟩), .pointer (some ⟨Bt, 0, none⟩)] W fun e W' => (∃ v, e = .returned v) ∧ J [] W' := by
  refine callsIn_of_wp Try.func85 rfl trivial ?_ rfl
  simp only [Try.ntmps85, List.size_toArray, List.length_cons, List.length_nil, Nat.reduceAdd, Nat.reduceSub, Array.replicate_succ, Array.replicate_zero, List.push_toArray, List.append_toArray, List.nil_append, List.cons_append]
  have H0 := hidden h0
  clear h0
  gi_wp2
  gi_loopw [9] (fun i wr => i = .int .i64 (0 : Nat) ∧ Hid (J [] wr)) (fun _ _ => 0)
  case atStart => exact ⟨rfl, H0⟩
  case round =>
    obtain ⟨rfl, HI⟩ := hrel
    gi_wp2
    go_end0
    exact ⟨⟨_, rfl⟩, HI.out⟩

/-- The contract of placesOf's answer, over nodes that grew. -/
theorem plc_stops (k0 : Nat) (hn : 1 ≤ k0) (Bs Bt X B b off n c q B0 : Nat) (v : Value) (N : Nat → ByteArray) (A T : Nat → Int) (hg : 0 < q → Nods n A q T)
    (hb : b < B ∧ b ≠ X) (hv : ∀ g, v.ownBlock = some g → g < B ∧ g ≠ X) (hBt : Bt < B ∧ Bt ≠ X) (w : World) (hBs' : Bs < w.heap.size) (hBW : B ≤ w.heap.size) (hBs : w.cell? ⟨Bs, 0, none⟩ = some v) (hct : w.cell? ⟨Bt, 0, none⟩ = some (.slice (some ⟨b, off, none⟩) n c)) (hs : Syms w b off n N A)
    (hgr : Grow B0 w v q T) :
    SeqStopsK Fence.wide k0 Try.prog 85 #[.pointer (some ⟨Bs, 0, none⟩), .pointer (some ⟨Bt, 0, none⟩)] (fun x : Plc q => #[Value.int .i64 (x.1.1 : Int), Value.int .i64 x.1.2]) (But X B)
      (fun xs => ∃ k, k ≤ q ∧ (∀ i, i < k → 0 < awt (aOf A T) 0 i) ∧ (awt (aOf A T) 0 k = 0 ∨ k = q) ∧ xs.map (·.1) = upto (yld (aOf A T) 0) k)
      (fun pre => ∃ k, k < q ∧ (∀ i, i ≤ k → 0 < awt (aOf A T) 0 i) ∧ pre.map (·.1) = upto (yld (aOf A T) 0) (k + 1)) q w := fun l J Jx W hW hJ _ hY h0 => by
  rcases hgr with ⟨rfl, rfl⟩ | ⟨h1, g, d, rfl, hg2, ho⟩
  · refine (plc0_in k0 l Bs Bt J W ((hW.cell (p := ⟨Bs, 0, none⟩) hBs').trans hBs) h0).mono ?_
    rintro e w' ⟨hv, hj⟩
    exact ⟨hv, .inl ⟨[], ⟨0, Nat.le_refl _, fun i hi => by omega, .inr rfl, rfl⟩, hj⟩⟩
  · have hgb := hv g rfl
    have hi := ho.ints
    exact plc1_in k0 hn l Bs Bt X B b off n c g q d N A T (hg h1) hb hgb hBt J Jx (fun s w w' h hb => AbidesFrom.below hJ h hb) hY W (Nat.le_trans hBW hW.size)
      ((hW.cell (p := ⟨Bs, 0, none⟩) hBs').trans hBs) ((hW.cell (p := ⟨Bt, 0, none⟩) (by show Bt < w.heap.size; omega)).trans hct) (hs.keep hW)
      (fun j hj => (hW.cell (p := ⟨g, 0 + j, none⟩) (by show g < w.heap.size; omega)).trans (hi.cell j hj)) h0

end Go.Proofs.Ytjjpkhlbokfjpaa

/- A region that draws its order, in a round of a range over a function: as it goes without a round. -/
namespace Go.Proofs.Ytjjpkhlbokfjpaa
open Go.RowKit Go.Shelf

/-- No operation of a region is put off. -/
def noDefer (ops : Array Oper) : Bool := ops.toList.all fun o => match o.op with | .defer _ => false | _ => true

theorem noDefer_op {ops : Array Oper} (h : noDefer ops = true) {i : Nat} {o : Oper} (ho : ops[i]? = some o) : ∀ c, o.op ≠ .defer c := by
  have h1 := List.all_eq_true.1 h o (by rw [Array.mem_toList_iff]; exact Array.mem_of_getElem? ho)
  intro c e
  rw [e] at h1
  cases h1

theorem operIn_round {n l : Nat} {P : Program} {o : Oper} {Q : Exit → Act → World → Prop} {K K' : Act → World → Prop} {a : Act} {w : World} (hd : ∀ c, o.op ≠ .defer c)
    (hK : ∀ a w, K a w → K' a w) (h : o.wp P a w K Q) : o.wpIn (Fence.wide.inRound l) n P a w K' Q := by
  refine ⟨fun _ _ => trivial, ?_⟩
  rw [Oper.semAt_eq _ _ _ hd]
  unfold Oper.wp at h
  generalize (execOp a.eval o).run P w = r at h
  cases r with
  | ok x w' =>
    cases x with
    | value v => exact hK _ _ h
    | skip => exact hK _ _ h
    | defer d => exact hK _ _ h
    | enter f args =>
      refine ⟨fun h => by simp [Fence.wide, Fence.inRound] at h, ?_⟩
      refine CallsIn.inRound l (CallsIn.mono (callsIn_wide.2 h) ?_)
      intro e w'' he
      cases e with
      | returned v => exact hK _ _ he
      | panicked ch => exact he
      | outgrown => exact he
    | row r args =>
      refine ⟨fun h => by simp [Fence.wide, Fence.inRound] at h, ?_⟩
      intro c cs _
      obtain ⟨v, w2, hv, hs⟩ := h c cs
      exact ⟨v, w2, hK _ _ hv, stepsIn_wide.2 hs⟩
    | round l f t a b => exact h.elim
    | _ => exact h.elim
  | halt x w' =>
    cases x with
    | panic v => exact h
    | _ => exact h.elim

theorem wpAnyIn_round {n l : Nat} {P : Program} {md : Region.Mode} {ops : Array Oper} {Q : Exit → Act → World → Prop} (hd : noDefer ops = true) (hno : ¬ LetsOut Q) : ∀ (fuel : Nat) (listed : Array Bool) (a : Act) (w : World),
    wpAny P md ops Q fuel listed a w → wpAnyIn (Fence.wide.inRound l) n P md ops Q fuel listed a w
  | 0, listed, a, w, h => h
  | fuel + 1, listed, a, w, h => by
    refine ⟨h.1, fun i hi => ?_⟩
    have h1 := h.2 i hi
    unfold wpOp at h1
    unfold wpOpIn
    cases ho : ops[i]? with
    | none => rw [ho] at h1; exact wpAnyIn_round hd hno fuel _ _ _ h1
    | some o =>
      rw [ho] at h1
      dsimp only at h1 ⊢
      split
      · rename_i hw
        rw [if_pos hw] at h1
        exact operIn_round (noDefer_op hd ho) (fun a w h => wpAnyIn_round hd hno fuel _ _ _ h) (h1.resolve_right fun h => hno h.2)
      · rename_i hw
        rw [if_neg hw] at h1
        exact ⟨fun _ _ => trivial, wpAnyIn_round hd hno fuel _ _ _ h1⟩

/-- A statement that ends as it should serves whatever is said of its other ends. -/
theorem wpIn_no {F : Fence} {k : Nat} {P : Program} {s : Code} {K : Act → World → Prop} {Q' : Exit → Act → World → Prop} {a : Act} {w : World} (h : s.wpIn F k P (Exit.then K (fun _ _ _ => False)) a w) : s.wpIn F k P (Exit.then K Q') a w := by
  refine wpIn_mono h ?_
  intro e a' w' hq
  cases e with
  | normal => exact hq
  | exit id => exact hq.elim
  | goto l => exact hq.elim
  | ret => exact hq.elim
  | panic ch => exact hq.elim
  | outgrown => exact hq.elim

theorem wpIn_region_held {n l : Nat} {P : Program} {ops : Array Oper} {K : Act → World → Prop} {Q' : Exit → Act → World → Prop} {S : World → Prop} {id : Nat} {a : Act} {w : World} (hm : P.follows .mixedOrders = true) (hd : noDefer ops = true) (hS : S w.drew)
    (h : S w.drew → wpAnyH P .any ops (Exit.then K (fun _ _ _ => False)) S ops.size (Array.replicate ops.size false) a w.drew) : (Code.region id ops true).wpIn (Fence.wide.inRound l) n P (Exit.then K Q') a w :=
  wpIn_no (wpIn_region_any hm (wpAnyIn_round hd (fun ⟨_, _, h⟩ => h) _ _ _ _ (wpAny_of_held _ _ _ _ (h hS))))

end Go.Proofs.Ytjjpkhlbokfjpaa

/- Contracts: UnpackTerm of the model. -/
namespace Go.Proofs.Ytjjpkhlbokfjpaa
open Go.RowKit

/-- What UnpackTerm answers: its code. -/
noncomputable def upC (n : Nat) (N : Nat → ByteArray) (A : Nat → Int) (m : Nat) (l : Nat → Int) : Int :=
  if faultF n N A = 0 then (if rdK n A m l ≠ 0 ∧ rdK n A m l = m then 0 else 5) else faultF n N A

section
variable {n : Nat} {N : Nat → ByteArray} {A : Nat → Int} {m : Nat} {l : Nat → Int}
theorem up_fault (h : faultF n N A ≠ 0) : upC n N A m l = faultF n N A := by rw [upC, if_neg h]
theorem up_text (h : faultF n N A = 0) (hk : ¬ (rdK n A m l ≠ 0 ∧ rdK n A m l = m)) : upC n N A m l = 5 := by rw [upC, if_pos h, if_neg hk]
theorem up_ok (h : faultF n N A = 0) (hk : rdK n A m l ≠ 0 ∧ rdK n A m l = m) : upC n N A m l = 0 := by rw [upC, if_pos h, if_pos hk]
theorem up_right (h : upC n N A m l = 0) : faultF n N A = 0 ∧ RdP n A m l m := by
  by_cases hf : faultF n N A = 0
  · by_cases hk : rdK n A m l ≠ 0 ∧ rdK n A m l = m
    · have := rd_spec hk.1; rw [hk.2] at this; exact ⟨hf, this⟩
    · rw [up_text hf hk] at h; omega
  · rw [up_fault hf] at h; exact absurd h hf
end

set_option maxRecDepth 20000 in
set_option maxHeartbeats 1600000 in
theorem specUnpack_any (b off n c : Nat) (p' : Option Addr) (m c' : Nat) (N : Nat → ByteArray) (A l : Nat → Int) (w : World) (h : Syms w b off n N A) (h' : Byts w p' m l) (hk : Kept n N A) (hm : m ≤ 1048576) :
    Calls Try.prog 20 #[.agg #[.slice (some ⟨b, off, none⟩) n c], .slice p' m c'] w fun e w' => ListAns w (upC n N A m l) m (nodT l) e w' ∧ Below w.heap.size w w' := by
  have D := hidden ((One.new w (.slice (some ⟨b, off, none⟩) n c) 26).keep (alloc_below _ (.cells #[.int .i64 0, .slice none 0 0] 31)))
  have R := hidden (Res.new (w.alloc (.cells #[.slice (some ⟨b, off, none⟩) n c] 26)) (.int .i64 0) (.slice none 0 0) 31)
  have B := hidden (keepB (alloc_below w (.cells #[.slice (some ⟨b, off, none⟩) n c] 26)) (alloc_below _ (.cells #[.int .i64 0, .slice none 0 0] 31)))
  have Q := hidden (h.keep B.out)
  have I := hidden (h'.keep B.out)
  have HK := hidden hk
  rw [World.size_alloc] at R
  clear h h' hk
  go_enter Try.func20, Try.ntmps20
  go_wp2_with fail
  with_reducible refine (specFault_all _ _ _ _ N A _ Q.out HK.out).mono ?_
  rintro e w1 ⟨rfl, hb⟩
  replace D := hidden (D.out.keep hb)
  replace R := hidden (R.out.keep hb)
  replace B := hidden (keepB B.out hb)
  replace I := hidden (I.out.keep hb)
  replace Q := hidden (Q.out.keep hb)
  clear hb
  by_cases hf : faultF n N A = 0
  · have HF := hidden hf
    have HS := hidden (fault_sound hf)
    rw [hf]
    clear hf
    go_wp2_with fail
    with_reducible refine (l5Read_any _ _ _ _ _ p' m c' N A l _ D.out Q.out HS.out hm I.out).mono ?_
    rintro r w3 ⟨ha, hb⟩
    have hR := R.out.blk
    have hBs := B.out.size
    replace R := hidden (R.out.keep hb)
    replace B := hidden (keepB B.out hb)
    clear hb D I Q
    rcases ha with ⟨h0, rfl⟩ | ⟨h0, g, d, rfl, hgg, ho⟩
    · have HC := hidden (up_text (m := m) (l := l) HF.out (by rw [h0]; simp))
      clear h0
      obtain ⟨_, q0, q1, f0, f1⟩ := id R.out
      go_wp2
      exact bodyPost_ret (v := .agg #[.int .i64 5, .slice none 0 0]) (by simp [results, Try.results20, go_sem, q0, q1]) rfl ⟨Or.inl ⟨by rw [HC.out]; decide, by rw [HC.out]⟩, (B.out.setCell (by simp) _).setCell (by simp) _⟩
    · have hle := (rd_le (n := n) (A := A) (m := m) (l := l)).1
      by_cases hk : rdK n A m l = m
      · have HC := hidden (up_ok (m := m) (l := l) HF.out ⟨by omega, hk⟩)
        rw [hk] at ho ⊢
        have O := hidden ho
        have hm0 : 0 < m := by omega
        have e1 : ((m : Int) == 0) = false := by simp; omega
        have e2 : ((m : Int) != (m : Int)) = false := by simp
        clear hk ho hle h0
        obtain ⟨_, q0, q1, f0, f1⟩ := id R.out
        go_wp2
        exact bodyPost_ret (v := .agg #[.int .i64 0, .slice (some ⟨g, 0, none⟩) m d]) (by simp [results, Try.results20, go_sem, q0, q1]) rfl ⟨Or.inr ⟨HC.out, g, d, rfl, by omega, ((O.out.other _ _ (by simp; omega)).other _ _ (by simp; omega)).base (by omega)⟩, (B.out.setCell (by simp) _).setCell (by simp) _⟩
      · have HC := hidden (up_text (m := m) (l := l) HF.out (fun h => hk h.2))
        generalize rdK n A m l = K at h0 hle hk ⊢
        have e1 : ((K : Int) == 0) = false := by simp; omega
        have e2 : ((K : Int) != (m : Int)) = true := by simp; omega
        clear hk ho hle h0
        obtain ⟨_, q0, q1, f0, f1⟩ := id R.out
        go_wp2
        exact bodyPost_ret (v := .agg #[.int .i64 5, .slice none 0 0]) (by simp [results, Try.results20, go_sem, q0, q1]) rfl ⟨Or.inl ⟨by rw [HC.out]; decide, by rw [HC.out]⟩, (B.out.setCell (by simp) _).setCell (by simp) _⟩
  · have HN := hidden hf
    have HC := hidden (up_fault (m := m) (l := l) hf)
    have hf' : (faultF n N A != 0) = true := by simpa using hf
    generalize faultF n N A = z at hf' HN HC ⊢
    clear hf
    obtain ⟨_, q0, q1, f0, f1⟩ := id R.out
    go_wp2
    exact bodyPost_ret (v := .agg #[.int .i64 z, .slice none 0 0]) (by simp [results, Try.results20, go_sem, q0, q1]) rfl ⟨Or.inl ⟨by rw [HC.out]; exact HN.out, by rw [HC.out]⟩, (B.out.setCell (by simp) _).setCell (by simp) _⟩

end Go.Proofs.Ytjjpkhlbokfjpaa

/- Contracts: pieces of bytes put one behind the other: the program's joinBytes. -/
namespace Go.Proofs.Ytjjpkhlbokfjpaa
open Go.RowKit

/-- The first k pieces, one behind the other. -/
def joinTo (X : Nat → List Int) : Nat → List Int
  | 0 => []
  | k + 1 => joinTo X k ++ X k

theorem joinTo_le (X : Nat → List Int) {k : Nat} : ∀ n, k ≤ n → (joinTo X k).length ≤ (joinTo X n).length
  | 0, h => by obtain rfl : k = 0 := by omega
               exact Nat.le_refl _
  | n + 1, h => by
    by_cases e : k = n + 1
    · rw [e]; exact Nat.le_refl _
    · have := joinTo_le X n (show k ≤ n by omega)
      simp only [joinTo, List.length_append]; omega

/-- Pieces of bytes in memory. -/
structure Pieces (w : World) (b off n : Nat) (G D : Nat → Nat) (X : Nat → List Int) : Prop where
  blk : 0 < n → b < w.heap.size
  cell : ∀ i, i < n → w.cell? ⟨b, off + i, none⟩ = some (.slice (some ⟨G i, 0, none⟩) (X i).length (D i))
  lt : ∀ i, i < n → G i < w.heap.size
  has : ∀ i, i < n → ∀ j, j < (X i).length → w.cell? ⟨G i, j, none⟩ = some (.int .u8 ((X i).getD j 0))
  pos : ∀ i, i < n → 0 < (X i).length

theorem Pieces.keep {w w' : World} {b off n : Nat} {G D : Nat → Nat} {X : Nat → List Int} (h : Pieces w b off n G D X) (hb : Below w.heap.size w w') : Pieces w' b off n G D X :=
  ⟨fun h0 => Nat.lt_of_lt_of_le (h.blk h0) hb.size, fun i hi => by rw [hb.cell (p := ⟨b, off + i, none⟩) (h.blk (by omega))]; exact h.cell i hi,
   fun i hi => Nat.lt_of_lt_of_le (h.lt i hi) hb.size, fun i hi j hj => by rw [hb.cell (p := ⟨G i, j, none⟩) (h.lt i hi)]; exact h.has i hi j hj, h.pos⟩

/-- What lies there when k pieces are copied. -/
def laidV (X : Nat → List Int) (L k : Nat) : List Value := (joinTo X k).map (Value.int .u8) ++ List.replicate (L - (joinTo X k).length) (Value.int .u8 0)

theorem laidV_len (X : Nat → List Int) (L k : Nat) (h : (joinTo X k).length ≤ L) : (laidV X L k).length = L := by simp [laidV]; omega

theorem laidV_step (X : Nat → List Int) (L k : Nat) (h : (joinTo X (k + 1)).length ≤ L) : splice (laidV X L k) (joinTo X k).length ((X k).map (Value.int .u8)) = laidV X L (k + 1) := by
  have h1 : (joinTo X (k + 1)).length = (joinTo X k).length + (X k).length := by simp [joinTo]
  unfold splice laidV
  rw [List.take_left' (by simp), List.drop_append, List.drop_eq_nil_of_le (by simp)]
  simp only [List.length_map, List.nil_append, List.drop_replicate, joinTo, List.map_append, List.append_assoc, List.length_append]
  congr 3
  omega

theorem piece_src {w : World} {g : Nat} {l : List Int} (h : ∀ j, j < l.length → w.cell? ⟨g, j, none⟩ = some (.int .u8 (l.getD j 0))) : ∀ j v, (l.map (Value.int .u8))[j]? = some v → w.cell? ((⟨g, 0, none⟩ : Addr).add j) = some v := by
  intro j v hj
  have hl : j < l.length := by
    by_cases hl : j < l.length
    · exact hl
    · rw [List.getElem?_eq_none (by simp; omega)] at hj; cases hj
  have ha : (⟨g, 0, none⟩ : Addr).add j = ⟨g, j, none⟩ := by
    by_cases h0 : j = 0 <;> simp [Addr.add, h0]
  rw [ha, h j hl, ← hj, List.getElem?_map, List.getElem?_eq_getElem hl]
  simp [List.getD_eq_getElem?_getD, List.getElem?_eq_getElem hl]

set_option maxRecDepth 20000 in
set_option maxHeartbeats 1600000 in
theorem joinBytes_any (b off n c : Nat) (G D : Nat → Nat) (X : Nat → List Int) (w : World) (h : Pieces w b off n G D X) (hn : n ≤ 100) (ht : (joinTo X n).length ≤ 1048576) :
    Calls Try.prog 57 #[.slice (some ⟨b, off, none⟩) n c] w fun e w' => ∃ g, e = .returned (.slice (some ⟨g, 0, none⟩) (joinTo X n).length (joinTo X n).length) ∧ w.heap.size ≤ g ∧ OwnR w' w.heap.size g (joinTo X n).length (joinTo X n).length ((joinTo X n).map (Value.int .u8)) ∧ Below w.heap.size w w' := by
  have H := hidden h
  clear h
  go_enter Try.func57, Try.ntmps57
  go_wp2
  go_loopw [3, 12] (fun l i wr => ∃ k a : Nat, k ≤ n ∧ i = .int .i64 (k : Nat) ∧ l = .int .i64 (a : Nat) ∧ a ≤ 1048576 ∧ Hid (a = (joinTo X k).length) ∧ Hid (Below w.heap.size w wr)) (fun _ i _ => n - (intOf i).toNat)
  case atStart => exact ⟨0, 0, Nat.zero_le _, rfl, rfl, by omega, hidden rfl, hidden (Below.refl _ _)⟩
  case round =>
    obtain ⟨k, a, hk, rfl, rfl, ha, HA, HB⟩ := hrel
    by_cases hlt : k < n
    · have c1 := (H.out.keep HB.out).cell k hlt
      have h1 := joinTo_le X n (show k + 1 ≤ n by omega)
      have h2 : (joinTo X (k + 1)).length = (joinTo X k).length + (X k).length := by simp [joinTo]
      rw [← HA.out] at h2
      have HA1 := hidden h2.symm
      have hx : a + (X k).length ≤ 1048576 := by omega
      generalize (X k).length = x at *
      clear h1 h2 HA
      go_wp2
      go_roundw
      case rel => exact ⟨k + 1, a + x, by omega, by go_num, by go_num, hx, HA1, HB⟩
      case measure => simp [intOf]; omega
    · obtain rfl : n = k := by omega
      obtain ⟨w1, hmk, how, hgr⟩ := run_make_full (P := Try.prog) wr wr.heap.size 22 5 _ (.int .u8 0) 1 Try.underlying22 rfl rfl rfl .i64 .i64 a (by show 1 * a ≤ _; omega) (by unfold maxLen; omega) (Nat.le_refl _)
      have e : (madeCells (Value.int IntKind.u8 0).cells (a * 1)).toList = List.replicate a (Value.int .u8 0) := by
        rw [Nat.mul_one]; exact toList_madeCells_one _ _
      rw [e] at how
      have hW := HB.out.size
      obtain ⟨g0, hg0⟩ : ∃ g0, g0 = wr.heap.size := ⟨_, rfl⟩
      rw [← hg0] at hmk how
      have hg1 : w.heap.size ≤ g0 := by omega
      have hcur : w1.heap[g0]? = some (.cells (laidV X a 0).toArray 5 (0, 0)) := by
        rcases how.2 with ⟨hv, _⟩ | ⟨g', cap, cur, hv, _, h3, _, _, h6, h7⟩
        · cases hv
        · simp at hv
          obtain ⟨rfl, rfl⟩ := hv
          rw [h3]
          congr 2
          have : cur.toList = laidV X a 0 := by
            rw [List.take_of_length_le (by simp; omega)] at h7
            simpa [laidV, joinTo] using h7
          rw [← this]
      have HC := hidden hcur
      have HB1 := hidden (HB.out.grown hgr hW (fun k hk => by cases hk))
      have HG0 := hidden hg0
      clear how hgr e hcur hg0 HB hlt hW
      go_wp2
      go_loopw [7, 25] (fun l i wq => ∃ k y : Nat, k ≤ n ∧ i = .int .i64 (k : Nat) ∧ l = .int .i64 (y : Nat) ∧ Hid (y = (joinTo X k).length) ∧ Hid (wq.heap[g0]? = some (.cells (laidV X a k).toArray 5 (0, 0))) ∧ Hid (Below w.heap.size w wq)) (fun _ i _ => n - (intOf i).toNat)
      case atStart => exact ⟨0, 0, Nat.zero_le _, rfl, rfl, hidden rfl, HC, HB1⟩
      case round =>
        obtain ⟨k, y, hk2, rfl, rfl, HY, HC2, HB2⟩ := hrel
        by_cases hlt : k < n
        · have c1 := (H.out.keep HB2.out).cell k hlt
          have h1 := joinTo_le X n (show k + 1 ≤ n by omega)
          have h2 : (joinTo X (k + 1)).length = (joinTo X k).length + (X k).length := by simp [joinTo]
          have h0 := H.out.pos k hlt
          rw [← HA.out] at h1
          have HL := hidden (laidV_len X a k (by omega))
          have HST := hidden (laidV_step X a k h1)
          rw [← HY.out] at h2 HST
          have HY1 := hidden h2.symm
          have hx : y + (X k).length ≤ a := by omega
          have HP := hidden (piece_src ((H.out.keep HB2.out).has k hlt))
          obtain ⟨cs, hcs⟩ : ∃ cs, cs = (X k).map (Value.int .u8) := ⟨_, rfl⟩
          have hl : cs.length = (X k).length := by rw [hcs]; simp
          rw [← hcs] at HST HP
          have H1C := hidden (show ∀ v ∈ cs, v.oneCell' = true by rw [hcs]; exact Byt.byteNews _)
          generalize (X k).length = x at *
          have HLC := hidden hl
          have hya : ¬ a = y := by omega
          have hyl : y ≤ a := by omega
          clear h1 h2 hmk hcs hl
          have hcp := run_copy_row (P := Try.prog) wr 22 22 3 5 g0 y (a - y) (a - y) ⟨G k, 0, none⟩ x (D k) (laidV X a k).toArray 5 cs Try.underlying22 rfl HC2.out (by rw [HLC.out]; exact (Nat.min_eq_left (by omega)).symm) HP.out (by rw [HLC.out, List.size_toArray, HL.out]; exact hx) H1C.out
          obtain ⟨w3, hw3⟩ : ∃ w3, w3 = wr.setRow g0 ((laidV X a k).toArray.toList.take y ++ cs ++ (laidV X a k).toArray.toList.drop (y + cs.length)).toArray := ⟨_, rfl⟩
          rw [← hw3, HLC.out] at hcp
          have hg3 := hidden (show w3.heap[g0]? = some (.cells (laidV X a (k + 1)).toArray 5 (0, 0)) by
            rw [hw3, setRow_heap wr g0 _ _ 5 _ HC2.out, ← HST.out]; simp [splice, HLC.out])
          have HB3 := hidden (show Below w.heap.size w w3 by rw [hw3]; exact below_setRow HB2.out hg1 _)
          clear hw3
          clear HST HP H1C HLC HC2 HB2
          go_wp2
          go_roundw
          case rel => exact ⟨k + 1, y + x, by omega, by go_num, by go_num, HY1, hg3, HB3⟩
          case measure => simp [intOf]; omega
        · obtain rfl : n = k := by omega
          go_wp2
          go_ret
          refine ⟨g0, by rw [HA.out]; rfl, hg1, ?_, HB2.out⟩
          have hC := HC2.out
          rw [HA.out] at hC
          have hl0 : laidV X (joinTo X n).length n = (joinTo X n).map (Value.int .u8) := by simp [laidV]
          rw [hl0] at hC
          exact ⟨by simp, Or.inr ⟨g0, _, _, rfl, hg1, hC, Nat.le_refl _, by unfold maxLen; omega, by simp, by simp; exact List.take_of_length_le (by simp)⟩⟩

end Go.Proofs.Ytjjpkhlbokfjpaa

/- Contracts: whether a term has no variable, as the model and as the program asks it. -/
namespace Go.Proofs.Ytjjpkhlbokfjpaa
open Go.RowKit

open Classical in
noncomputable def gndB (m : Nat) (T : Nat → Int) : Bool := decide (∀ i, i < m → 0 ≤ T i)
open Classical in
noncomputable def hasVar (m : Nat) (T : Nat → Int) : Bool := decide (∃ i, i < m ∧ varB (T i) = true)

open Classical in
/-- What IsGround answers. -/
noncomputable def grB (n : Nat) (N : Nat → ByteArray) (A : Nat → Int) (m : Nat) (T : Nat → Int) : Bool := decide (termF n N A m T = 0 ∧ ∀ i, i < m → 0 ≤ T i)

set_option maxRecDepth 20000 in
set_option maxHeartbeats 400000 in
theorem l3Ground_any (b off m c : Nat) (T : Nat → Int) (w : World) (h : Ints w b off m T) (hm : m ≤ 1048576) :
    Calls Try.prog 83 #[.slice (some ⟨b, off, none⟩) m c] w fun e w' => e = .returned (.bool (gndB m T)) ∧ Below w.heap.size w w' := by
  go_enter Try.func83, Try.ntmps83
  go_wp2
  go_loopw [3] (fun i wr => ∃ k : Nat, k ≤ m ∧ i = .int .i64 k ∧ Hid (∀ j, j < k → 0 ≤ T j) ∧ ∃ q, wr = w.drewN q) (fun i _ => m - (intOf i).toNat)
  case atStart => exact ⟨0, Nat.zero_le _, rfl, hidden (fun i hi => by omega), 0, rfl⟩
  case round =>
    obtain ⟨k, hk, rfl, HE, q, rfl⟩ := hrel
    by_cases hlt : k < m
    · have c1 := h.cell k hlt
      by_cases he : T k < 0
      · have HR := hidden (show gndB m T = false by simp only [gndB, decide_eq_false_iff_not]; intro h; have := h k hlt; omega)
        generalize T k = x at *
        go_wp2
        go_ret
        exact ⟨by rw [HR.out]; rfl, below_drewN (Below.refl _ _) _⟩
      · have HR := hidden (show 0 ≤ T k by omega)
        have he' : decide (T k < 0) = false := by simp; omega
        clear he
        generalize hx : T k = x at *
        have HX := hidden hx
        clear hx
        go_wp2
        go_roundw
        case rel => exact ⟨k + 1, by omega, by go_num, hidden (fun j hj => by
          by_cases e : j = k
          · rw [e, HX.out]; exact HR.out
          · exact HE.out j (by omega)), _, rfl⟩
        case measure => simp [intOf]; omega
    · have HR := hidden (show gndB m T = true by simp only [gndB, decide_eq_true_eq]; exact fun j hj => HE.out j (by omega))
      go_wp2
      go_ret
      exact ⟨by rw [HR.out]; rfl, below_drewN (Below.refl _ _) _⟩

set_option maxRecDepth 20000 in
set_option maxHeartbeats 400000 in
theorem indexVar_any (b off m c : Nat) (T : Nat → Int) (w : World) (h : Ints w b off m T) (hm : m ≤ 1048576) :
    Calls Try.prog 93 #[.slice (some ⟨b, off, none⟩) m c, .func (Fn.func 75) #[] #[]] w fun e w' => (∃ r : Int, e = .returned (.int .i64 r) ∧ (decide (0 ≤ r) = hasVar m T)) ∧ Below w.heap.size w w' := by
  go_enter Try.func93, Try.ntmps93
  go_wp2_with fail
  go_loopw [8] (fun i wr => ∃ k : Nat, k ≤ m ∧ i = .int .i64 k ∧ Hid (∀ i, i < k → varB (T i) = false) ∧ Hid (Below w.heap.size w wr)) (fun i _ => m - (intOf i).toNat)
  case atStart => exact ⟨0, Nat.zero_le _, rfl, hidden (fun i hi => by omega), hidden (Below.refl _ _)⟩
  case round =>
    obtain ⟨k, hk, rfl, HE, HB⟩ := hrel
    by_cases hlt : k < m
    · have c1 := (h.keep HB.out).cell k hlt
      go_wp2_with fail
      with_reducible refine (isVariable_any _ _).mono ?_
      rintro e w1 ⟨rfl, hb⟩
      have B1 := hidden (keepB HB.out hb)
      clear hb c1 HB
      generalize hz : varB (T k) = ib
      cases ib
      · have HR := hidden hz
        clear hz
        go_wp2
        go_roundw
        case rel => exact ⟨k + 1, by omega, by go_num, hidden (fun j hj => by
          by_cases e : j = k
          · rw [e]; exact HR.out
          · exact HE.out j (by omega)), B1⟩
        case measure => simp [intOf]; omega
      · have HR := hidden (show hasVar m T = true by simp only [hasVar, decide_eq_true_eq]; exact ⟨k, hlt, hz⟩)
        clear hz
        go_wp2
        go_ret
        exact ⟨⟨_, rfl, by rw [HR.out]; simp⟩, B1.out⟩
    · have HR := hidden (show hasVar m T = false by
        simp only [hasVar, decide_eq_false_iff_not]
        rintro ⟨i, hi, e⟩
        rw [HE.out i (by omega)] at e; cases e)
      go_wp2
      go_ret
      exact ⟨⟨_, rfl, by rw [HR.out]; rfl⟩, HB.out⟩

set_option maxRecDepth 20000 in
set_option maxHeartbeats 400000 in
theorem containsVar_any (b off m c : Nat) (T : Nat → Int) (w : World) (h : Ints w b off m T) (hm : m ≤ 1048576) :
    Calls Try.prog 92 #[.slice (some ⟨b, off, none⟩) m c, .func (Fn.func 75) #[] #[]] w fun e w' => e = .returned (.bool (hasVar m T)) ∧ Below w.heap.size w w' := by
  go_enter Try.func92, Try.ntmps92
  go_wp2_with fail
  refine (indexVar_any b off m c T w h hm).mono ?_
  rintro e w1 ⟨⟨r, rfl, hr⟩, hb⟩
  have HR := hidden hr
  clear hr
  go_wp2
  go_ret
  exact ⟨by rw [← HR.out]; rfl, hb⟩

theorem gr_fault {n : Nat} {N : Nat → ByteArray} {A : Nat → Int} {m : Nat} {T : Nat → Int} (h : termF n N A m T ≠ 0) : grB n N A m T = false := by simp [grB, h]
theorem gr_gnd {n : Nat} {N : Nat → ByteArray} {A : Nat → Int} {m : Nat} {T : Nat → Int} (h : termF n N A m T = 0) : grB n N A m T = gndB m T := by simp [grB, gndB, h]
theorem gr_var {n : Nat} {N : Nat → ByteArray} {A : Nat → Int} {m : Nat} {T : Nat → Int} (h : termF n N A m T = 0) : grB n N A m T = !hasVar m T := by
  have hN := (term_right h).nods
  rw [gr_gnd h]
  cases e : hasVar m T with
  | true =>
    simp only [hasVar, decide_eq_true_eq] at e
    obtain ⟨i, hi, hv⟩ := e
    simp only [varB, decide_eq_true_eq] at hv
    simp only [gndB, Bool.not_true, decide_eq_false_iff_not]
    intro h; have := h i hi; omega
  | false =>
    simp only [hasVar, decide_eq_false_iff_not] at e
    simp only [gndB, Bool.not_false, decide_eq_true_eq]
    intro i hi
    rcases nodeB_cases (hN.node i hi) with ⟨j, ej, _⟩ | hv
    · omega
    · exact absurd ⟨i, hi, by simp only [varB, decide_eq_true_eq]; exact hv⟩ e

set_option maxRecDepth 20000 in
set_option maxHeartbeats 800000 in
theorem implGround_any (b off n c b' off' m c' : Nat) (N : Nat → ByteArray) (A T : Nat → Int) (w : World) (h : Syms w b off n N A) (h' : Ints w b' off' m T) (hk : Kept n N A) (hm : m ≤ 1048576) :
    Calls Try.prog 82 #[.agg #[.slice (some ⟨b, off, none⟩) n c], .slice (some ⟨b', off', none⟩) m c'] w fun e w' => e = .returned (.bool (grB n N A m T)) ∧ Below w.heap.size w w' := by
  have B := hidden (alloc_below w (.cells #[.slice (some ⟨b, off, none⟩) n c] 26))
  have Q := hidden (h.keep B.out)
  have I := hidden (h'.keep B.out)
  have HK := hidden hk
  clear h h' hk
  go_enter Try.func82, Try.ntmps82
  go_wp2_with fail
  with_reducible refine (implTerm_any _ _ _ _ _ _ _ _ N A T _ Q.out I.out HK.out hm).mono ?_
  rintro e w1 ⟨rfl, hb⟩
  replace B := hidden (keepB B.out hb)
  replace I := hidden (I.out.keep hb)
  clear hb Q
  by_cases hf : termF n N A m T = 0
  · have HR := hidden (gr_var hf)
    rw [hf]
    clear hf
    go_wp2_with fail
    with_reducible refine (containsVar_any _ _ _ _ T _ I.out hm).mono ?_
    rintro e w2 ⟨rfl, hb⟩
    replace B := hidden (keepB B.out hb)
    clear hb
    generalize hasVar m T = hv at *
    cases hv
    · go_wp2
      go_ret
      exact ⟨by rw [HR.out]; rfl, B.out⟩
    · go_wp2
      go_ret
      exact ⟨by rw [HR.out]; rfl, B.out⟩
  · have HR := hidden (gr_fault hf)
    have hf' : (termF n N A m T == 0) = false := by simpa using hf
    generalize termF n N A m T = z at *
    clear hf
    go_wp2
    go_ret
    exact ⟨by rw [HR.out]; rfl, B.out⟩

end Go.Proofs.Ytjjpkhlbokfjpaa

/- Contracts: the key of two terms: KeyOf of the model and of the program. -/
namespace Go.Proofs.Ytjjpkhlbokfjpaa
open Go.RowKit

open Classical in
/-- What keeps two right terms from a key. -/
noncomputable def shortC (m1 : Nat) (T1 : Nat → Int) (m2 : Nat) (T2 : Nat → Int) : Int :=
  if gndB m1 T1 = true ∧ gndB m2 T2 = true then (if 8 < m1 ∨ 8 < m2 then 2 else 0) else 1

/-- The fault of two terms that are to be a key. -/
noncomputable def keyC (n : Nat) (N : Nat → ByteArray) (A : Nat → Int) (m1 : Nat) (T1 : Nat → Int) (m2 : Nat) (T2 : Nat → Int) : Int :=
  if termF n N A m1 T1 = 0 then (if termF n N A m2 T2 = 0 then shortC m1 T1 m2 T2 else termF n N A m2 T2) else termF n N A m1 T1

section
variable {n : Nat} {N : Nat → ByteArray} {A : Nat → Int} {m1 m2 : Nat} {T1 T2 : Nat → Int}
theorem key_sig (h : termF n N A m1 T1 = 0) : faultF n N A = 0 := by
  by_cases hf : faultF n N A = 0
  · exact hf
  · rw [term_fault hf] at h; exact h
theorem key_one (h : termF n N A m1 T1 ≠ 0) : keyC n N A m1 T1 m2 T2 = termF n N A m1 T1 := by rw [keyC, if_neg h]
theorem key_two (h : termF n N A m1 T1 = 0) (h2 : termF n N A m2 T2 ≠ 0) : keyC n N A m1 T1 m2 T2 = termF n N A m2 T2 := by rw [keyC, if_pos h, if_neg h2]
theorem key_short (h : termF n N A m1 T1 = 0) (h2 : termF n N A m2 T2 = 0) : keyC n N A m1 T1 m2 T2 = shortC m1 T1 m2 T2 := by rw [keyC, if_pos h, if_pos h2]
theorem key_right (h : keyC n N A m1 T1 m2 T2 = 0) : termF n N A m1 T1 = 0 ∧ termF n N A m2 T2 = 0 ∧ shortC m1 T1 m2 T2 = 0 := by
  by_cases h1 : termF n N A m1 T1 = 0
  · by_cases h2 : termF n N A m2 T2 = 0
    · rw [key_short h1 h2] at h; exact ⟨h1, h2, h⟩
    · rw [key_two h1 h2] at h; exact absurd h h2
  · rw [key_one h1] at h; exact absurd h h1
theorem short_form (h : ¬ (gndB m1 T1 = true ∧ gndB m2 T2 = true)) : shortC m1 T1 m2 T2 = 1 := by rw [shortC, if_neg h]
theorem short_many (h : gndB m1 T1 = true ∧ gndB m2 T2 = true) (h8 : 8 < m1 ∨ 8 < m2) : shortC m1 T1 m2 T2 = 2 := by rw [shortC, if_pos h, if_pos h8]
theorem short_ok (h : gndB m1 T1 = true ∧ gndB m2 T2 = true) (h8 : ¬ (8 < m1 ∨ 8 < m2)) : shortC m1 T1 m2 T2 = 0 := by rw [shortC, if_pos h, if_neg h8]
end

set_option maxRecDepth 20000 in
set_option maxHeartbeats 800000 in
theorem l5Short_any (b1 o1 m1 c1 b2 o2 m2 c2 : Nat) (T1 T2 : Nat → Int) (w : World) (h1 : Ints w b1 o1 m1 T1) (h2 : Ints w b2 o2 m2 T2) (hm1 : m1 ≤ 1048576) (hm2 : m2 ≤ 1048576) :
    Calls Try.prog 58 #[.slice (some ⟨b1, o1, none⟩) m1 c1, .slice (some ⟨b2, o2, none⟩) m2 c2] w fun e w' => e = .returned (.int .i64 (shortC m1 T1 m2 T2)) ∧ Below w.heap.size w w' := by
  have H2 := hidden h2
  go_enter Try.func58, Try.ntmps58
  go_wp2_with fail
  with_reducible refine (l3Ground_any _ _ _ _ T1 _ h1 hm1).mono ?_
  rintro e w1 ⟨rfl, hb⟩
  have B := hidden hb
  replace H2 := hidden (H2.out.keep hb)
  clear hb h1 h2
  generalize hg : gndB m1 T1 = ib
  cases ib
  · have HR := hidden (short_form (m1 := m1) (T1 := T1) (m2 := m2) (T2 := T2) (by rw [hg]; simp))
    clear hg
    go_wp2
    go_ret
    exact ⟨by rw [HR.out]; rfl, B.out⟩
  · have HG := hidden hg
    clear hg
    go_wp2_with fail
    with_reducible refine (l3Ground_any _ _ _ _ T2 _ H2.out hm2).mono ?_
    rintro e w2 ⟨rfl, hb⟩
    replace B := hidden (keepB B.out hb)
    clear hb
    generalize hg2 : gndB m2 T2 = ib2
    cases ib2
    · have HR := hidden (short_form (m1 := m1) (T1 := T1) (m2 := m2) (T2 := T2) (by rw [hg2]; simp))
      clear hg2
      go_wp2
      go_ret
      exact ⟨by rw [HR.out]; rfl, B.out⟩
    · have HG2 := hidden hg2
      clear hg2
      by_cases e1 : 8 < m1
      · have HR := hidden (short_many ⟨HG.out, HG2.out⟩ (Or.inl e1))
        have g1 : (8 : Int) < m1 := by omega
        go_wp2
        go_ret
        exact ⟨by rw [HR.out]; rfl, B.out⟩
      · have g1 : decide ((8 : Int) < m1) = false := by simp; omega
        by_cases e2 : 8 < m2
        · have HR := hidden (short_many ⟨HG.out, HG2.out⟩ (Or.inr e2))
          have g2 : (8 : Int) < m2 := by omega
          clear e1
          go_wp2
          go_ret
          exact ⟨by rw [HR.out]; rfl, B.out⟩
        · have HR := hidden (short_ok ⟨HG.out, HG2.out⟩ (by omega : ¬ (8 < m1 ∨ 8 < m2)))
          have g2 : decide ((8 : Int) < m2) = false := by simp; omega
          clear e1 e2
          go_wp2
          go_ret
          exact ⟨by rw [HR.out]; rfl, B.out⟩

theorem OwnR.src {w : World} {B g n d : Nat} {xs : List Value} (h : OwnR w B g n d xs) : ∀ j v, xs[j]? = some v → w.cell? ((⟨g, 0, none⟩ : Addr).add j) = some v := by
  intro j v hj
  have hl : xs.length = n * 1 := h.1
  have hlt : j < xs.length := by
    by_cases hlt : j < xs.length
    · exact hlt
    · rw [List.getElem?_eq_none (by omega)] at hj; cases hj
  have ha : (⟨g, 0, none⟩ : Addr).add j = ⟨g, j, none⟩ := by
    by_cases h0 : j = 0 <;> simp [Addr.add, h0]
  rw [ha, World.ownsRow.cellAt h j (by omega)]
  exact hj

theorem packV_one (T : Nat → Int) (m : Nat) : ∀ u ∈ packV T m, u.oneCell' = true := Byt.byteNews _

set_option maxRecDepth 20000 in
set_option maxHeartbeats 800000 in
theorem l5Key_any (b1 o1 m1 c1 b2 o2 m2 c2 : Nat) (T1 T2 : Nat → Int) (w : World) (h1 : Ints w b1 o1 m1 T1) (h2 : Ints w b2 o2 m2 T2) (hm1 : m1 ≤ 24) (hm2 : m2 ≤ 24) (hT1 : ∀ i, i < m1 → -12 ≤ T1 i ∧ T1 i ≤ 5) (hT2 : ∀ i, i < m2 → -12 ≤ T2 i ∧ T2 i ≤ 5) :
    Calls Try.prog 59 #[.slice (some ⟨b1, o1, none⟩) m1 c1, .slice (some ⟨b2, o2, none⟩) m2 c2] w fun e w' => ∃ g d, e = .returned (.slice (some ⟨g, 0, none⟩) (m1 + m2) d) ∧ w.heap.size ≤ g ∧ OwnR w' w.heap.size g (m1 + m2) d (packV T1 m1 ++ packV T2 m2) ∧ Below w.heap.size w w' := by
  have H2 := hidden h2
  have HT2 := hidden hT2
  go_enter Try.func59, Try.ntmps59
  go_wp2_with fail
  with_reducible refine (l5Pack_any _ _ _ _ T1 _ h1 hm1 hT1).mono ?_
  rintro e w1 ⟨g1, d1, rfl, hg1, ho1, hb⟩
  have O1 := hidden ho1
  have B := hidden hb
  replace H2 := hidden (H2.out.keep hb)
  clear hb h1 h2 ho1 hT1 hT2
  go_wp2_with fail
  with_reducible refine (l5Pack_any _ _ _ _ T2 _ H2.out hm2 HT2.out).mono ?_
  rintro e w2 ⟨g2, d2, rfl, hg2, ho2, hb⟩
  replace O1 := hidden (O1.out.keep hb)
  have O2 := hidden ho2
  have hW := B.out.size
  replace B := hidden (keepB B.out hb)
  have hW2 := B.out.size
  clear hb ho2
  go_wp2_with (first | (at_builtin; refine wpList_append_own _ rfl _ _ 22 rfl w.heap.size 5 _ (.int .u8 0) 1 1 Try.underlying22 rfl rfl rfl rfl rfl (by decide) _ _ _ rfl O1.out ⟨g2, 0, none⟩ m2 d2 (packV T2 m2) rfl (by rw [packV_len]; simp) O2.out.src (packV_one _ _) (by unfold maxLen; omega) (by omega) hW2 ?_) | go_in)
  intro v' w3 hown hgrow hnil
  obtain ⟨g3, d3, rfl, G3, O3, B3⟩ := own_row hown (by simpa using hnil) (B.out.grown hgrow hW2 (by intro q hq; simp [Value.ownBlock] at hq; omega))
  clear hown hgrow hnil
  go_wp2
  go_ret
  exact ⟨g3, d3, rfl, G3, O3, B3⟩

set_option maxRecDepth 20000 in
set_option maxHeartbeats 1600000 in
theorem keyFault_any (b off n c b1 o1 m1 c1 b2 o2 m2 c2 : Nat) (N : Nat → ByteArray) (A T1 T2 : Nat → Int) (w : World) (h : Syms w b off n N A) (h1 : Ints w b1 o1 m1 T1) (h2 : Ints w b2 o2 m2 T2) (hk : Kept n N A) (hm1 : m1 ≤ 1048576) (hm2 : m2 ≤ 1048576) :
    Calls Try.prog 56 #[.agg #[.slice (some ⟨b, off, none⟩) n c], .slice (some ⟨b1, o1, none⟩) m1 c1, .slice (some ⟨b2, o2, none⟩) m2 c2] w fun e w' => e = .returned (.int .i64 (keyC n N A m1 T1 m2 T2)) ∧ Below w.heap.size w w' := by
  have D := hidden (One.new w (.slice (some ⟨b, off, none⟩) n c) 26)
  have B := hidden (alloc_below w (.cells #[.slice (some ⟨b, off, none⟩) n c] 26))
  have Q := hidden (h.keep B.out)
  have I1 := hidden (h1.keep B.out)
  have I2 := hidden (h2.keep B.out)
  have HK := hidden hk
  clear h h1 h2 hk
  go_enter Try.func56, Try.ntmps56
  go_wp2_with fail
  with_reducible refine (implTerm_any _ _ _ _ _ _ _ _ N A T1 _ Q.out I1.out HK.out hm1).mono ?_
  rintro e w1 ⟨rfl, hb⟩
  replace D := hidden (D.out.keep hb)
  replace B := hidden (keepB B.out hb)
  replace Q := hidden (Q.out.keep hb)
  replace I1 := hidden (I1.out.keep hb)
  replace I2 := hidden (I2.out.keep hb)
  clear hb
  by_cases hf : termF n N A m1 T1 = 0
  · have HF := hidden hf
    rw [hf]
    clear hf
    have d0 := D.out.c0
    go_wp2_with fail
    with_reducible refine (implTerm_any _ _ _ _ _ _ _ _ N A T2 _ Q.out I2.out HK.out hm2).mono ?_
    rintro e w2 ⟨rfl, hb⟩
    replace D := hidden (D.out.keep hb)
    replace B := hidden (keepB B.out hb)
    replace Q := hidden (Q.out.keep hb)
    replace I1 := hidden (I1.out.keep hb)
    replace I2 := hidden (I2.out.keep hb)
    clear hb d0
    by_cases hf : termF n N A m2 T2 = 0
    · have HF2 := hidden hf
      have HS := hidden (key_short HF.out hf)
      rw [hf]
      clear hf
      have d0 := D.out.c0
      go_wp2_with fail
      with_reducible refine (implGround_any _ _ _ _ _ _ _ _ N A T1 _ Q.out I1.out HK.out hm1).mono ?_
      rintro e w3 ⟨rfl, hb⟩
      rw [gr_gnd HF.out]
      replace D := hidden (D.out.keep hb)
      replace B := hidden (keepB B.out hb)
      replace Q := hidden (Q.out.keep hb)
      replace I2 := hidden (I2.out.keep hb)
      clear hb d0 I1
      generalize hg : gndB m1 T1 = ib
      cases ib
      · have HR := hidden (short_form (m1 := m1) (T1 := T1) (m2 := m2) (T2 := T2) (by rw [hg]; simp))
        clear hg
        go_wp2
        go_ret
        exact ⟨by rw [HS.out, HR.out]; rfl, B.out⟩
      · have HG := hidden hg
        clear hg
        have d0 := D.out.c0
        go_wp2_with fail
        with_reducible refine (implGround_any _ _ _ _ _ _ _ _ N A T2 _ Q.out I2.out HK.out hm2).mono ?_
        rintro e w4 ⟨rfl, hb⟩
        rw [gr_gnd HF2.out]
        replace B := hidden (keepB B.out hb)
        clear hb d0 D Q I2
        generalize hg2 : gndB m2 T2 = ib2
        cases ib2
        · have HR := hidden (short_form (m1 := m1) (T1 := T1) (m2 := m2) (T2 := T2) (by rw [hg2]; simp))
          clear hg2
          go_wp2
          go_ret
          exact ⟨by rw [HS.out, HR.out]; rfl, B.out⟩
        · have HG2 := hidden hg2
          clear hg2
          by_cases e1 : 8 < m1
          · have HR := hidden (short_many ⟨HG.out, HG2.out⟩ (Or.inl e1))
            have g1 : (8 : Int) < m1 := by omega
            go_wp2
            go_ret
            exact ⟨by rw [HS.out, HR.out]; rfl, B.out⟩
          · have g1 : decide ((8 : Int) < m1) = false := by simp; omega
            by_cases e2 : 8 < m2
            · have HR := hidden (short_many ⟨HG.out, HG2.out⟩ (Or.inr e2))
              have g2 : (8 : Int) < m2 := by omega
              clear e1
              go_wp2
              go_ret
              exact ⟨by rw [HS.out, HR.out]; rfl, B.out⟩
            · have HR := hidden (short_ok ⟨HG.out, HG2.out⟩ (by omega : ¬ (8 < m1 ∨ 8 < m2)))
              have g2 : decide ((8 : Int) < m2) = false := by simp; omega
              clear e1 e2
              go_wp2
              go_ret
              exact ⟨by rw [HS.out, HR.out]; rfl, B.out⟩
    · have HR := hidden (key_two HF.out hf)
      have hf' : (termF n N A m2 T2 != 0) = true := by simpa using hf
      generalize termF n N A m2 T2 = z at *
      clear hf
      go_wp2
      go_ret
      exact ⟨by rw [HR.out]; rfl, B.out⟩
  · have HR := hidden (key_one (m2 := m2) (T2 := T2) hf)
    have hf' : (termF n N A m1 T1 != 0) = true := by simpa using hf
    generalize termF n N A m1 T1 = z at *
    clear hf
    go_wp2
    go_ret
    exact ⟨by rw [HR.out]; rfl, B.out⟩

end Go.Proofs.Ytjjpkhlbokfjpaa

/- Contracts: answers that hold two terms: compared, marked, looked at again. -/
namespace Go.Proofs.Ytjjpkhlbokfjpaa
open Go.RowKit

/-- A block of three cells in memory. -/
structure ThreeK (w : World) (b : Nat) (x y z : Value) : Prop where
  blk : b < w.heap.size
  c0 : w.cell? ⟨b, 0, none⟩ = some x
  c1 : w.cell? ⟨b, 1, none⟩ = some y
  c2 : w.cell? ⟨b, 2, none⟩ = some z

theorem ThreeK.new (w : World) (x y z : Value) (t : TypeId) : ThreeK (w.alloc (.cells #[x, y, z] t)) w.heap.size x y z := by
  refine ⟨by simp, ?_, ?_, ?_⟩ <;> simp [go_sem]

theorem ThreeK.keep {w w' : World} {b : Nat} {x y z : Value} (h : ThreeK w b x y z) (hb : Below w.heap.size w w') : ThreeK w' b x y z :=
  ⟨Nat.lt_of_lt_of_le h.blk hb.size, by rw [(bcell hb).1 _ _ h.blk]; exact h.c0, by rw [(bcell hb).1 _ _ h.blk]; exact h.c1, by rw [(bcell hb).1 _ _ h.blk]; exact h.c2⟩

theorem ThreeK.grown {w w' : World} {b g : Nat} {x y z : Value} (h : ThreeK w b x y z) (hg : w.grownBy w' (some g)) (hne : b ≠ g) : ThreeK w' b x y z :=
  ⟨Nat.lt_of_lt_of_le h.blk hg.size, hg.cell h.c0 (by simpa using hne), hg.cell h.c1 (by simpa using hne), hg.cell h.c2 (by simpa using hne)⟩

/-- An answer that holds two lists: a code and nothing, or 0 and two lists of its own. -/
def KeyAns (w : World) (C : Int) (K1 : Nat) (U1 : Nat → Int) (K2 : Nat) (U2 : Nat → Int) (e : Ending) (w' : World) : Prop :=
  (C ≠ 0 ∧ e = .returned (.agg #[.int .i64 C, .slice none 0 0, .slice none 0 0])) ∨
  (C = 0 ∧ ∃ g1 d1 g2 d2, e = .returned (.agg #[.int .i64 0, .slice (some ⟨g1, 0, none⟩) K1 d1, .slice (some ⟨g2, 0, none⟩) K2 d2]) ∧ w.heap.size ≤ g1 ∧ g1 < g2 ∧ OwnI w' w.heap.size g1 K1 d1 U1 K1 ∧ OwnI w' w.heap.size g2 K2 d2 U2 K2)

end Go.Proofs.Ytjjpkhlbokfjpaa

/- Contracts: the two terms of a key: the model's l5Cut and CutKey. -/
namespace Go.Proofs.Ytjjpkhlbokfjpaa
open Go.RowKit

/-- Bytes from a place on. -/
def behind (l : Nat → Int) (k : Nat) : Nat → Int := fun i => l (k + i)

theorem Byts.behind {w : World} {b off m : Nat} {l : Nat → Int} (h : Byts w (some ⟨b, off, none⟩) m l) {k : Nat} (hk : k ≤ m) : Byts w (some ⟨b, off + k, none⟩) (m - k) (behind l k) := by
  refine ⟨?_, fun i hi => h.byt (k + i) (by omega)⟩
  rcases h.row with e | ⟨b', off', e, h1, h2⟩
  · exact Or.inl (by omega)
  · cases e
    exact Or.inr ⟨b, off + k, rfl, h1, fun i hi => by rw [Nat.add_assoc]; exact h2 (k + i) (by omega)⟩

/-- How many bytes the second term has. -/
noncomputable def rd2 (n : Nat) (A : Nat → Int) (m : Nat) (l : Nat → Int) : Nat := rdK n A (m - rdK n A m l) (behind l (rdK n A m l))

/-- Bytes are those of two terms that may be a key. -/
structure CutP (n : Nat) (A : Nat → Int) (m : Nat) (l : Nat → Int) : Prop where
  k1 : rdK n A m l ≠ 0
  k2 : rd2 n A m l ≠ 0
  all : rdK n A m l + rd2 n A m l = m
  short : shortC (rdK n A m l) (nodT l) (rd2 n A m l) (nodT (behind l (rdK n A m l))) = 0

/-- What cutting answers: nothing, or two lists of its own. -/
def CutAns5 (w : World) (P : Prop) (K1 : Nat) (T1 : Nat → Int) (K2 : Nat) (T2 : Nat → Int) (e : Ending) (w' : World) : Prop :=
  (¬ P ∧ e = .returned (.tuple #[.slice none 0 0, .slice none 0 0, .bool false])) ∨
  (P ∧ ∃ g1 d1 g2 d2, e = .returned (.tuple #[.slice (some ⟨g1, 0, none⟩) K1 d1, .slice (some ⟨g2, 0, none⟩) K2 d2, .bool true]) ∧ w.heap.size ≤ g1 ∧ g1 < g2 ∧ OwnI w' w.heap.size g1 K1 d1 T1 K1 ∧ OwnI w' w.heap.size g2 K2 d2 T2 K2)

end Go.Proofs.Ytjjpkhlbokfjpaa

/- Contracts: the term that bytes begin with, as the program cuts it off. -/
namespace Go.Proofs.Ytjjpkhlbokfjpaa
open Go.RowKit Go.Shelf

attribute [local go_sem] Oper.semAt_some

/-- A variable in a box of its own. -/
structure Box1 (w : World) (b : Nat) (v : Value) : Prop where
  blk : b < w.heap.size
  c0 : w.cell? ⟨b, 0, none⟩ = some v
  f0 : w.frozen? ⟨b, 0, none⟩ = false

theorem Box1.new (w : World) (v : Value) (t : TypeId) : Box1 (w.alloc (.cells #[v] t)) w.heap.size v := by
  have h := Boxed.new w t v
  exact ⟨by simp, h.cell, h.frozen⟩
theorem Box1.keep {w w' : World} {b : Nat} {v : Value} (h : Box1 w b v) (hb : Below w.heap.size w w') : Box1 w' b v :=
  ⟨Nat.lt_of_lt_of_le h.blk hb.size, (hb.cell (p := ⟨b, 0, none⟩) h.blk).trans h.c0, (hb.frozen (p := ⟨b, 0, none⟩) h.blk).trans h.f0⟩

theorem wrapC {z : Int} (h0 : 0 ≤ z) (h1 : z ≤ 1048576) : IntKind.i64.wrap z = z := by
  have e : z % 18446744073709551616 = z := Int.emod_eq_of_lt h0 (by omega)
  have h2 : ¬ (9223372036854775808 : Int) ≤ z := by omega
  simp [IntKind.wrap, IntKind.bits, IntKind.signed, e, h2]
theorem Box1.same {w : World} {b : Nat} {v : Value} (h : Box1 w b v) (u : Value) : Box1 (w.setCell ⟨b, 0, none⟩ u) b u :=
  ⟨by rw [World.size_setCell]; exact h.blk, World.cell?_setCell_same' _ _ _ (by rw [h.c0]; rfl), by rw [World.frozen?_setCell]; exact h.f0⟩
theorem Box1.far {w : World} {b : Nat} {v : Value} (h : Box1 w b v) {b' : Nat} (hne : b ≠ b') (u : Value) : Box1 (w.setCell ⟨b', 0, none⟩ u) b v :=
  ⟨by rw [World.size_setCell]; exact h.blk, by rw [World.cell?_setCell_other _ _ _ _ (fun e => hne (congrArg Addr.block e).symm)]; exact h.c0, by rw [World.frozen?_setCell]; exact h.f0⟩

/-- The boxes of the cut while its results are stored. -/
structure StC (w V : World) (X : Nat) (vx vd v2 v3 v4 : Value) : Prop where
  cx : V.cell? ⟨X, 0, none⟩ = some vx
  cd : V.cell? ⟨w.heap.size + 1, 0, none⟩ = some vd
  b2 : Box1 V (w.heap.size + 1 + 1) v2
  b3 : Box1 V (w.heap.size + 1 + 1 + 1) v3
  b4 : Box1 V (w.heap.size + 1 + 1 + 1 + 1) v4
  xn : w.heap.size + 5 ≤ X
  bw : Below w.heap.size w V

section
variable {w V V' : World} {X : Nat} {vx vd v2 v3 v4 : Value}
theorem StC.call (h : StC w V X vx vd v2 v3 v4) (hb : Below V.heap.size V V') : StC w V' X vx vd v2 v3 v4 :=
  ⟨(hb.cell (p := ⟨X, 0, none⟩) (World.block_lt_of_cell? V _ h.cx)).trans h.cx, (hb.cell (p := ⟨w.heap.size + 1, 0, none⟩) (World.block_lt_of_cell? V _ h.cd)).trans h.cd, h.b2.keep hb, h.b3.keep hb, h.b4.keep hb, h.xn, keepB h.bw hb⟩
theorem StC.set2 (h : StC w V X vx vd v2 v3 v4) (u : Value) : StC w (V.setCell ⟨w.heap.size + 1 + 1, 0, none⟩ u) X vx vd u v3 v4 := by
  have hx := h.xn
  exact ⟨by rw [World.cell?_setCell_other _ _ _ _ (by simp <;> omega)]; exact h.cx, by rw [World.cell?_setCell_other _ _ _ _ (by simp)]; exact h.cd, h.b2.same u, h.b3.far (by omega) u, h.b4.far (by omega) u, h.xn, h.bw.setCell (by simp <;> omega) u⟩
theorem StC.set3 (h : StC w V X vx vd v2 v3 v4) (u : Value) : StC w (V.setCell ⟨w.heap.size + 1 + 1 + 1, 0, none⟩ u) X vx vd v2 u v4 := by
  have hx := h.xn
  exact ⟨by rw [World.cell?_setCell_other _ _ _ _ (by simp <;> omega)]; exact h.cx, by rw [World.cell?_setCell_other _ _ _ _ (by simp)]; exact h.cd, h.b2.far (by omega) u, h.b3.same u, h.b4.far (by omega) u, h.xn, h.bw.setCell (by simp <;> omega) u⟩
theorem StC.set4 (h : StC w V X vx vd v2 v3 v4) (u : Value) : StC w (V.setCell ⟨w.heap.size + 1 + 1 + 1 + 1, 0, none⟩ u) X vx vd v2 v3 u := by
  have hx := h.xn
  exact ⟨by rw [World.cell?_setCell_other _ _ _ _ (by simp <;> omega)]; exact h.cx, by rw [World.cell?_setCell_other _ _ _ _ (by simp)]; exact h.cd, h.b2.far (by omega) u, h.b3.far (by omega) u, h.b4.same u, h.xn, h.bw.setCell (by simp <;> omega) u⟩
end

theorem Grow.lt {B : Nat} {w : World} {v : Value} {k : Nat} {T : Nat → Int} (h : Grow B w v k T) : ∀ q, v.ownBlock = some q → q < w.heap.size := by
  rcases h with ⟨rfl, rfl⟩ | ⟨_, g, d, rfl, hg, ho⟩
  · intro q hq; cases hq
  · intro q hq; simp [Value.ownBlock] at hq; have := ho.lt; omega

theorem Grow.val {B : Nat} {w : World} {v : Value} {k : Nat} {T : Nat → Int} (h : Grow B w v k T) : ∃ p d, v = .slice p k d := by
  rcases h with ⟨rfl, rfl⟩ | ⟨_, g, d, rfl, _⟩
  · exact ⟨none, 0, rfl⟩
  · exact ⟨_, d, rfl⟩

theorem Grow.set {B X : Nat} {w : World} {v : Value} {k : Nat} {T : Nat → Int} (h : Grow B w v k T) (hne : ∀ q, v.ownBlock = some q → q ≠ X) (u : Value) : Grow B (w.setCell ⟨X, 0, none⟩ u) v k T := by
  refine h.imp id fun ⟨h0, g, d, hv, hg, ho⟩ => ⟨h0, g, d, hv, hg, ho.other _ _ ?_⟩
  have := hne g (by rw [hv]; rfl)
  exact this

theorem ownI_kept {A A' : World} {row : Option Nat} {B g k d : Nat} {T : Nat → Int} (h : OwnI A B g k d T k) (hg : A.grownBy A' row) (hr : ∀ r, row = some r → ∃ o : Obj, A.heap[r]? = some o ∧ o.isCells = false) : OwnI A' B g k d T k := by
  obtain ⟨xs, ho, hx⟩ := h
  refine ⟨xs, ho.kept hg ?_, hx⟩
  rcases ho.2 with ⟨hv, _⟩ | ⟨g', cap, cur, hv, _, hgg, _⟩
  · exact .inl (by rw [hv]; rfl)
  · refine .inr fun e => ?_
    rw [hv] at e
    obtain ⟨o, ho', hc⟩ := hr g' e.symm
    rw [hgg] at ho'
    cases ho'
    cases hc

theorem ownI_cap {A : World} {B g k d : Nat} {T : Nat → Int} (h : OwnI A B g k d T k) : k ≤ d := by
  obtain ⟨xs, ho, hx⟩ := h
  rcases ho.2 with ⟨hv, h0⟩ | ⟨g', cap, cur, hv, _, hgg, hc, _⟩
  · omega
  · injection hv with h1 h2 h3; omega

theorem nods_ok {n : Nat} {A : Nat → Int} {q : Nat} {l : Nat → Int} (hs : Sound n A) (hq : q ≤ 24) (h : ∀ i, i < q → okN (l i) n = true) : Nods n A q (nodT l) := ⟨hs.most, hs.arity, hq, fun i hi => okN_node (h i hi)⟩

/-- What cutting answers: nothing, or a list of its own and the bytes behind it. -/
def CutT (w : World) (K : Nat) (T : Nat → Int) (b' off' m : Nat) (e : Ending) (w' : World) : Prop :=
  (K = 0 ∧ e = .returned (.tuple #[.slice none 0 0, .slice none 0 0, .bool false])) ∨
  (0 < K ∧ ∃ g d o2 c2, e = .returned (.tuple #[.slice (some ⟨g, 0, none⟩) K d, .slice (some ⟨b', o2, none⟩) (m - K) c2, .bool true]) ∧ w.heap.size ≤ g ∧ OwnI w' w.heap.size g K d T K ∧ m - K ≤ c2 ∧ (m = K ∨ o2 = off' + K))

set_option maxRecDepth 100000 in
set_option maxHeartbeats 8000000 in
theorem cutTerm_reg (b off n c b' off' m c' : Nat) (N : Nat → ByteArray) (A l : Nat → Int) (w : World) (h : Syms w b off n N A) (hs : Sound n A) (hm : m ≤ 1048576) (hmc : m ≤ c') (hb' : b' < w.heap.size) (hl : Byts w (some ⟨b', off', none⟩) m l) :
    Calls Try.prog 48 #[.agg #[.slice (some ⟨b, off, none⟩) n c], .slice (some ⟨b', off', none⟩) m c'] w fun e w' => CutT w (rdK n A m l) (nodT l) b' off' m e w' ∧ Below w.heap.size w w' := by
  refine (callsIn_wide (n := 3)).1 ?_
  refine callsIn_of_wp_marks Try.func48 rfl trivial ?_ rfl
  simp only [Try.ntmps48, List.size_toArray, List.length_cons, List.length_nil, Nat.reduceAdd, Nat.reduceSub, Array.replicate_succ, Array.replicate_zero, List.push_toArray, List.append_toArray, List.nil_append, List.cons_append]
  obtain ⟨w0, hw0⟩ : ∃ w0, w0 = ((((w.alloc (.cells #[.slice (some ⟨b, off, none⟩) n c] 26)).alloc (.cells #[.slice (some ⟨b', off', none⟩) m c'] 22)).alloc (.cells #[.slice none 0 0] 27)).alloc (.cells #[.slice none 0 0] 22)).alloc (.cells #[.bool false] 4) := ⟨_, rfl⟩
  have hB0 : Below w.heap.size w w0 := by rw [hw0]; exact (((((Below.refl _ w).alloc (Nat.le_refl _) _).alloc (by simp) _).alloc (by simp; omega) _).alloc (by simp; omega) _).alloc (by simp; omega) _
  have hS0 : w0.heap.size = w.heap.size + 5 := by rw [hw0]; simp
  have r0 : Box1 w0 w.heap.size (.slice (some ⟨b, off, none⟩) n c) := by rw [hw0]; exact ((((Box1.new w _ _).keep (alloc_below _ _)).keep (alloc_below _ _)).keep (alloc_below _ _)).keep (alloc_below _ _)
  have r1 : Box1 w0 (w.heap.size + 1) (.slice (some ⟨b', off', none⟩) m c') := by
    rw [hw0]
    have := Box1.new (w.alloc (.cells #[.slice (some ⟨b, off, none⟩) n c] 26)) (.slice (some ⟨b', off', none⟩) m c') 22
    rw [World.size_alloc] at this
    exact ((this.keep (alloc_below _ _)).keep (alloc_below _ _)).keep (alloc_below _ _)
  have r2 : Box1 w0 (w.heap.size + 2) (.slice none 0 0) := by
    rw [hw0]
    have := Box1.new ((w.alloc (.cells #[.slice (some ⟨b, off, none⟩) n c] 26)).alloc (.cells #[.slice (some ⟨b', off', none⟩) m c'] 22)) (.slice none 0 0) 27
    simp only [World.size_alloc] at this
    exact (this.keep (alloc_below _ _)).keep (alloc_below _ _)
  have r3 : Box1 w0 (w.heap.size + 3) (.slice none 0 0) := by
    rw [hw0]
    have := Box1.new (((w.alloc (.cells #[.slice (some ⟨b, off, none⟩) n c] 26)).alloc (.cells #[.slice (some ⟨b', off', none⟩) m c'] 22)).alloc (.cells #[.slice none 0 0] 27)) (.slice none 0 0) 22
    simp only [World.size_alloc] at this
    exact this.keep (alloc_below _ _)
  have r4 : Box1 w0 (w.heap.size + 4) (.bool false) := by
    rw [hw0]
    have := Box1.new ((((w.alloc (.cells #[.slice (some ⟨b, off, none⟩) n c] 26)).alloc (.cells #[.slice (some ⟨b', off', none⟩) m c'] 22)).alloc (.cells #[.slice none 0 0] 27)).alloc (.cells #[.slice none 0 0] 22)) (.bool false) 4
    simp only [World.size_alloc] at this
    exact this
  have CK := hidden (show ∀ w', Below w0.heap.size w0 w' → (w'.cell? ⟨w.heap.size, 0, none⟩ = some (.slice (some ⟨b, off, none⟩) n c) ∧ w'.cell? ⟨w.heap.size + 1, 0, none⟩ = some (.slice (some ⟨b', off', none⟩) m c')) from fun w' hb => ⟨(r0.keep hb).c0, (r1.keep hb).c0⟩)
  obtain ⟨mm, hmm⟩ : ∃ mm, mm = min m 24 := ⟨_, rfl⟩
  have hm24 : mm ≤ 24 := by omega
  have hmm' : mm ≤ m := by omega
  have SC := hidden (show ∀ wc, Below w0.heap.size w0 wc → Calls Try.prog 77 #[.agg #[.slice (some ⟨b, off, none⟩) n c], .slice (some ⟨b', off', none⟩) mm c'] wc fun e w' => ∃ q pv dv, e = .returned (.slice pv q dv) ∧ q ≤ mm ∧ (∀ i, i < q → okN (l i) n = true) ∧ (q = mm ∨ okN (l q) n = false) ∧ Grow wc.heap.size w' (.slice pv q dv) q (nodT l) ∧ Below w0.heap.size w0 w' ∧ Below wc.heap.size wc w' from fun wc hc => by
    have hbw := keepB hB0 hc
    refine (nodesAhead_any (some ⟨b, off, none⟩) n c b' off' mm c' l wc hm24 (Nat.lt_of_lt_of_le hb' hbw.size) (fun i hi => ?_) (fun i hi => hl.byt i (by omega))).mono ?_
    · rcases hl.row with e | ⟨b2, o2, e, h1, h2⟩
      · omega
      · cases e
        rw [hbw.cell (p := ⟨b', off' + i, none⟩) h1]; exact h2 i (by omega)
    · rintro e w' ⟨⟨q, v, rfl, h1, h2, h3, h4⟩, hb⟩
      obtain ⟨pv, dv, rfl⟩ := h4.val
      exact ⟨q, pv, dv, rfl, h1, h2, h3, h4, keepB hc hb, hb⟩)
  have d0 := r0.c0
  have d1 := r1.c0
  have R0 := hidden r0
  have R1 := hidden r1
  have R2 := hidden r2
  have R3 := hidden r3
  have R4 := hidden r4
  have HB0 := hidden hB0
  have HS0 := hidden hS0
  have HH := hidden h
  have HSD := hidden hs
  have HL := hidden hl
  have HMM := hidden hmm
  have hmc2 : mm ≤ c' := by omega
  have hmin : (if (24 : Int) < (m : Int) then (24 : Int) else (m : Int)) = (mm : Int) := by rw [hmm]; split <;> omega
  clear r0 r1 r2 r3 r4 hB0 hS0 h hs hl hmm
  gi_wp2
  rw [← hw0]
  clear hw0
  gi_cut [7] from 33 (fun t wc => ∃ (X : Nat) (v : Value) (q : Nat), t = .pointer (some ⟨X, 0, none⟩) ∧ Hid (w0.heap.size ≤ X ∧ wc.cell? ⟨X, 0, none⟩ = some v ∧ Grow w0.heap.size wc v q (nodT l) ∧ q ≤ mm ∧ (∀ i, i < q → okN (l i) n = true) ∧ (q = mm ∨ okN (l q) n = false) ∧ Below w0.heap.size w0 wc))
  case first =>
    refine wpIn_no ?_
    refine wpIn_wide.2 ?_
    refine wp_region_held_drew (S := fun wz => wz.cell? ⟨w.heap.size, 0, none⟩ = some (.slice (some ⟨b, off, none⟩) n c) ∧ wz.cell? ⟨w.heap.size + 1, 0, none⟩ = some (.slice (some ⟨b', off', none⟩) m c')) (by kernel_rfl) ⟨d0, d1⟩ (fun hHeld => ?_)
    have bb := (Below.refl w0.heap.size w0).drew
    refine wpAnyH_take (i := 0) (oi := { dst := some 10, op := Op.load 26 (Operand.tmp 2), type := 26, pos := "l05_pack.go:55", after := #[], guard := none }) (v := ?_) rfl (by kernel_rfl) (by kernel_rfl) (by kernel_rfl) (fun _ _ _ h => h) (Or.inl ⟨by rfl, ?_⟩) (by assumption) ?_
    rotate_left
    · (intro wv hSw; (try dsimp only at hSw); go_simp; try with_reducible rfl)
    try simp only [Act.put, List.setIfInBounds_toArray, List.set_cons_zero, List.set_cons_succ]
    refine wpAnyH_take (i := 1) (oi := { dst := some 11, op := Op.load 22 (Operand.tmp 3), type := 22, pos := "l05_pack.go:55", after := #[], guard := none }) (v := ?_) rfl (by kernel_rfl) (by kernel_rfl) (by kernel_rfl) (fun _ _ _ h => h) (Or.inl ⟨by rfl, ?_⟩) (by assumption) ?_
    rotate_left
    · (intro wv hSw; (try dsimp only at hSw); go_simp; try with_reducible rfl)
    try simp only [Act.put, List.setIfInBounds_toArray, List.set_cons_zero, List.set_cons_succ]
    refine wpAnyH_take (i := 2) (oi := { dst := some 12, op := Op.load 22 (Operand.tmp 3), type := 22, pos := "l05_pack.go:55", after := #[], guard := none }) (v := ?_) rfl (by kernel_rfl) (by kernel_rfl) (by kernel_rfl) (fun _ _ _ h => h) (Or.inl ⟨by rfl, ?_⟩) (by assumption) ?_
    rotate_left
    · (intro wv hSw; (try dsimp only at hSw); go_simp; try with_reducible rfl)
    try simp only [Act.put, List.setIfInBounds_toArray, List.set_cons_zero, List.set_cons_succ]
    refine wpAnyH_take (i := 3) (oi := { dst := some 13, op := Op.call { callee := Callee.builtin Builtin.len, args := #[Operand.tmp 12], argTypes := #[22] }, type := 3, pos := "l05_pack.go:55", after := #[{ on := 2, ground := Ground.data }], guard := none }) (v := ?_) rfl (by kernel_rfl) (by kernel_rfl) (by kernel_rfl) (fun _ _ _ h => h) (Or.inl ⟨by rfl, ?_⟩) (by assumption) ?_
    rotate_left
    · (intro wv hSw; (try dsimp only at hSw); go_simp; try with_reducible rfl)
    try simp only [Act.put, List.setIfInBounds_toArray, List.set_cons_zero, List.set_cons_succ]
    refine wpAnyH_take (i := 4) (oi := { dst := some 14, op := Op.call { callee := Callee.builtin Builtin.min, args := #[Operand.tmp 13, Operand.const (Value.int IntKind.i64 24)], argTypes := #[3, 3] }, type := 3, pos := "l05_pack.go:55", after := #[{ on := 3, ground := Ground.data }], guard := none }) (v := ?_) rfl (by kernel_rfl) (by kernel_rfl) (by kernel_rfl) (fun _ _ _ h => h) (Or.inl ⟨by rfl, ?_⟩) (by assumption) ?_
    rotate_left
    · (intro wv hSw; (try dsimp only at hSw); go_simp; try with_reducible rfl)
    try simp only [Act.put, List.setIfInBounds_toArray, List.set_cons_zero, List.set_cons_succ]
    refine wpAnyH_take (i := 5) (oi := { dst := some 15, op := Op.slice 22 (Operand.tmp 11) none (some (Operand.tmp 14)) none, type := 22, pos := "l05_pack.go:55", after := #[{ on := 1, ground := Ground.data }, { on := 4, ground := Ground.data }], guard := none }) (v := ?_) rfl (by kernel_rfl) (by kernel_rfl) (by kernel_rfl) (fun _ _ _ h => h) (Or.inl ⟨by rfl, ?_⟩) (by assumption) ?_
    rotate_left
    · (intro wv hSw; (try dsimp only at hSw); go_simp; try with_reducible rfl)
    try simp only [Act.put, List.setIfInBounds_toArray, List.set_cons_zero, List.set_cons_succ]
    refine wpAnyH_ready (rs := [6, 7]) (by kernel_rfl) (by simp) ?_
    refine AllReadyH.cons (o := { dst := some 16, op := Op.call { callee := Callee.value (Operand.func 77), args := #[Operand.tmp 10, Operand.tmp 15], argTypes := #[26, 22] }, type := 27, pos := "l05_pack.go:55", after := #[{ on := 0, ground := Ground.data }, { on := 5, ground := Ground.data }], guard := none }) rfl (fun K hK => ?_) (AllReadyH.cons (o := { dst := some 7, op := Op.alloc 27, type := 0, pos := "l05_pack.go:55", after := #[], guard := none }) rfl (fun K hK => ?_) AllReadyH.nil)
    · go_simp
      go_at_call 77; with_reducible refine (SC.out _ bb).mono ?_; rintro e v1 ⟨q, pv, dv, rfl, hq1, hq2, hq3, hgr, bb', hb5⟩
      try go_wp2_with fail
      refine hK.out _ _ ?_ (fun hHeld => ?_)
      · exact CK.out _ bb'
      clear hK K
      have hw0s := bb.size
      clear bb hb5
      have bb := bb'
      clear bb'
      try simp only [Act.put, List.setIfInBounds_toArray, List.set_cons_zero, List.set_cons_succ]
      refine wpAnyH_ready (rs := [7]) (by kernel_rfl) (by simp) ?_
      refine AllReadyH.cons (o := { dst := some 7, op := Op.alloc 27, type := 0, pos := "l05_pack.go:55", after := #[], guard := none }) rfl (fun K hK => ?_) AllReadyH.nil
      go_simp
      have hX0 := bb.size
      refine hK.out _ _ ?_ (fun hHeld => ?_)
      · exact CK.out _ (keepB bb (alloc_below _ _))
      clear hK K
      try simp only [Act.put, List.setIfInBounds_toArray, List.set_cons_zero, List.set_cons_succ]
      refine wpAnyH_ready (rs := [8]) (by kernel_rfl) (by simp) ?_
      refine AllReadyH.cons (o := { dst := none, op := Op.store 27 (Operand.tmp 7) (Operand.tmp 16), type := 0, pos := "l05_pack.go:55", after := #[{ on := 7, ground := Ground.data }, { on := 6, ground := Ground.data }, { on := 6, ground := Ground.chain }, { on := 0, ground := Ground.phase }, { on := 1, ground := Ground.phase }, { on := 2, ground := Ground.phase }, { on := 3, ground := Ground.phase }, { on := 4, ground := Ground.phase }, { on := 5, ground := Ground.phase }, { on := 6, ground := Ground.phase }, { on := 7, ground := Ground.phase }], guard := none }) rfl (fun K hK => ?_) AllReadyH.nil
      go_simp
      refine hK.out _ _ ?_ (fun hHeld => ?_)
      · exact CK.out _ (keepB bb (alloc_below _ _))
      clear hK K
      refine wpAnyH_done (by kernel_rfl) ?_ _
      try go_wp2_with fail
      first | go_meet | gi_meet
      exact ⟨_, _, q, rfl, hidden ⟨hX0, (Box1.new v1 (.slice pv q dv) 27).c0, (hgr.base hw0s).keep (alloc_below _ _), hq1, hq2, hq3, keepB bb (alloc_below _ _)⟩⟩
    · go_simp
      have RR := (Box1.new w0 (.slice none 0 0) 27).keep (Below.refl _ _).drew
      have hX0 := bb.size
      refine hK.out _ _ ?_ (fun hHeld => ?_)
      · exact CK.out _ (alloc_below _ _).drew
      clear hK K
      replace bb := (alloc_below w0 (.cells #[.slice none 0 0] 27)).drew
      try simp only [Act.put, List.setIfInBounds_toArray, List.set_cons_zero, List.set_cons_succ]
      refine wpAnyH_ready (rs := [6]) (by kernel_rfl) (by simp) ?_
      refine AllReadyH.cons (o := { dst := some 16, op := Op.call { callee := Callee.value (Operand.func 77), args := #[Operand.tmp 10, Operand.tmp 15], argTypes := #[26, 22] }, type := 27, pos := "l05_pack.go:55", after := #[{ on := 0, ground := Ground.data }, { on := 5, ground := Ground.data }], guard := none }) rfl (fun K hK => ?_) AllReadyH.nil
      go_simp
      go_at_call 77; with_reducible refine (SC.out _ bb).mono ?_; rintro e v1 ⟨q, pv, dv, rfl, hq1, hq2, hq3, hgr, bb', hb5⟩
      try go_wp2_with fail
      refine hK.out _ _ ?_ (fun hHeld => ?_)
      · exact CK.out _ bb'
      clear hK K
      have hXg := RR.blk
      replace RR := RR.keep hb5
      have hgb := fun q0 e0 => Nat.ne_of_gt (Nat.lt_of_lt_of_le hXg (hgr.block q0 e0))
      have hw0s := bb.size
      clear bb hb5
      have bb := bb'
      clear bb'
      try simp only [Act.put, List.setIfInBounds_toArray, List.set_cons_zero, List.set_cons_succ]
      refine wpAnyH_ready (rs := [8]) (by kernel_rfl) (by simp) ?_
      refine AllReadyH.cons (o := { dst := none, op := Op.store 27 (Operand.tmp 7) (Operand.tmp 16), type := 0, pos := "l05_pack.go:55", after := #[{ on := 7, ground := Ground.data }, { on := 6, ground := Ground.data }, { on := 6, ground := Ground.chain }, { on := 0, ground := Ground.phase }, { on := 1, ground := Ground.phase }, { on := 2, ground := Ground.phase }, { on := 3, ground := Ground.phase }, { on := 4, ground := Ground.phase }, { on := 5, ground := Ground.phase }, { on := 6, ground := Ground.phase }, { on := 7, ground := Ground.phase }], guard := none }) rfl (fun K hK => ?_) AllReadyH.nil
      have x0 := RR.c0
      have x1 := RR.f0
      go_simp
      refine hK.out _ _ ?_ (fun hHeld => ?_)
      · exact CK.out _ (bb.setCell (Nat.le_refl _) _)
      clear hK K
      refine wpAnyH_done (by kernel_rfl) ?_ _
      try go_wp2_with fail
      first | go_meet | gi_meet
      exact ⟨_, _, q, rfl, hidden ⟨Nat.le_refl _, World.cell?_setCell_same' _ _ _ (by rw [x0]; rfl), (hgr.base hw0s).set hgb _, hq1, hq2, hq3, bb.setCell (Nat.le_refl _) _⟩⟩
  case rest =>
    obtain ⟨X, v, q, rfl, HC⟩ := hcut
    have BC := hidden HC.out.2.2.2.2.2.2
    have GR := hidden HC.out.2.2.1
    have HQ := hidden (And.intro HC.out.2.2.2.1 HC.out.2.2.2.2.1)
    have HQ2 := hidden HC.out.2.2.2.2.2.1
    have XL := hidden HC.out.1
    have x0 := HC.out.2.1
    have c0 := (R0.out.keep BC.out).c0
    clear HC CK SC d0 d1
    obtain ⟨pv, dv, rfl⟩ := GR.out.val
    gi_wp2_with (refine ⟨trivial, ?_⟩; gi_at_call 64; refine (callsIn_wide.2 (placesOf_any _ _ _ _ _ _ _)).mono ?_; rintro e w' ⟨rfl, rfl⟩)
    obtain ⟨W1, hW1⟩ : ∃ W1, W1 = (wc.alloc (.cells #[.slice (some ⟨b, off, none⟩) n c] 26)).alloc (.cells #[.slice pv q dv] 27) := ⟨_, rfl⟩
    have b1 : Below wc.heap.size wc W1 := by rw [hW1]; exact ((Below.refl _ wc).alloc (Nat.le_refl _) _).alloc (by simp) _
    have s1 : W1.heap.size = wc.heap.size + 2 := by rw [hW1]; simp
    have y0 : Box1 W1 wc.heap.size (.slice (some ⟨b, off, none⟩) n c) := by rw [hW1]; exact (Box1.new wc _ _).keep (alloc_below _ _)
    have y1 : Box1 W1 (wc.heap.size + 1) (.slice pv q dv) := by
      rw [hW1]
      have := Box1.new (wc.alloc (.cells #[.slice (some ⟨b, off, none⟩) n c] 26)) (.slice pv q dv) 27
      rw [World.size_alloc] at this
      exact this
    have bw : Below w.heap.size w W1 := keepB (keepB HB0.out BC.out) b1
    have hw5 : w.heap.size + 5 ≤ wc.heap.size := by have := HS0.out; have := BC.out.size; omega
    have hbs : 0 < q → Nods n A q (nodT l) := fun h0 => nods_ok HSD.out (by have := HQ.out.1; omega) (fun i hi => HQ.out.2 i hi)
    have hbb : b < w.heap.size := HH.out.blk HSD.out.least
    have hvo : ∀ g, (Value.slice pv q dv).ownBlock = some g → g < W1.heap.size ∧ g ≠ W1.heap.size := fun g hg => by have := GR.out.lt g hg; omega
    have K2 := hidden ((R2.out.keep BC.out).keep b1)
    have K3 := hidden ((R3.out.keep BC.out).keep b1)
    have K4 := hidden ((R4.out.keep BC.out).keep b1)
    have K1 := hidden ((R1.out.keep BC.out).keep b1)
    have G1 := hidden (GR.out.keep b1)
    have XW : W1.cell? ⟨X, 0, none⟩ = some (.slice pv q dv) := (b1.cell (p := ⟨X, 0, none⟩) (World.block_lt_of_cell? wc _ x0)).trans x0
    have XB : X < W1.heap.size := by have := World.block_lt_of_cell? wc _ x0; show X < _; simp at this; omega
    have HXW := hidden XW
    have S1 := hidden s1
    have BW := hidden bw
    clear XW
    rw [← hW1]
    clear hW1
    refine wpIn_rangeFunc_ownG rfl (by omega) (gf := 85) (lb := #[.pointer (some ⟨wc.heap.size + 1, 0, none⟩), .pointer (some ⟨wc.heap.size, 0, none⟩)]) rfl trivial (enters_of Try.func85 (by kernel_rfl) rfl)
      (plc_stops _ (by omega) (wc.heap.size + 1) wc.heap.size W1.heap.size W1.heap.size b off n c q w0.heap.size (.slice pv q dv) N A (nodT l) hbs ⟨by omega, by omega⟩ hvo ⟨by omega, by omega⟩ W1 y1.blk (Nat.le_refl _) y1.c0 y0.c0 (HH.out.keep bw) G1.out)
      butK_t (butK_b (Nat.le_refl _)) (Below.refl _ _) (fun _ => rfl)
      (fun pre W => (∀ p ∈ pre, p.1.2 ≠ 0) ∧ Below W1.heap.size W1 W)
      (fun cc pre W => (cc = .ret ∧ ∃ ini last gg dd o2 c2, pre = ini ++ [last] ∧ last.1.2 = 0 ∧ W.cell? ⟨w.heap.size + 2, 0, none⟩ = some (.slice (some ⟨gg, 0, none⟩) (last.1.1 + 1) dd) ∧ W.cell? ⟨w.heap.size + 3, 0, none⟩ = some (.slice (some ⟨b', o2, none⟩) (m - (last.1.1 + 1)) c2) ∧ W.cell? ⟨w.heap.size + 4, 0, none⟩ = some (.bool true) ∧ w.heap.size ≤ gg ∧ OwnI W w.heap.size gg (last.1.1 + 1) dd (nodT l) (last.1.1 + 1) ∧ m - (last.1.1 + 1) ≤ c2 ∧ (m = last.1.1 + 1 ∨ o2 = off' + (last.1.1 + 1))) ∧ Below w.heap.size w W)
      (OwnFrom.and (Own.from (fun s A B row hs hg hr => hs) _) (ownFrom_below (Nat.le_refl _) (Nat.le_refl _)))
      (fun cc => OwnFrom.and (Own.from (fun s A B row hs hg hr => by
        obtain ⟨hc, ini, last, gg, dd, o2, c2, e1, e2, e3, e4, e5, e6, e7, e8, e9⟩ := hs
        exact ⟨hc, ini, last, gg, dd, o2, c2, e1, e2, cell_kept e3 hg hr, cell_kept e4 hg hr, cell_kept e5 hg hr, e6, ownI_kept e7 hg hr, e8, e9⟩) _) (ownFrom_below (Nat.le_refl _) (by omega)))
      ⟨by simp, Below.refl _ _⟩
      (fun x => { tmps := #[.agg #[.slice (some ⟨b, off, none⟩) n c], .slice (some ⟨b', off', none⟩) m c', .pointer (some ⟨w.heap.size, 0, none⟩), .pointer (some ⟨w.heap.size + 1, 0, none⟩), .pointer (some ⟨w.heap.size + 1 + 1, 0, none⟩), .pointer (some ⟨w.heap.size + 1 + 1 + 1, 0, none⟩), .pointer (some ⟨w.heap.size + 1 + 1 + 1 + 1, 0, none⟩), .pointer (some ⟨X, 0, none⟩), .int .i64 (x.1.1 : Int), .int .i64 x.1.2, u10, u11, u12, u13, u14, u15, u16, .agg #[.slice (some ⟨b, off, none⟩) n c], .slice pv q dv, .func (.func 85) #[] #[.pointer (some ⟨wc.heap.size + 1, 0, none⟩), .pointer (some ⟨wc.heap.size, 0, none⟩)], .int .i64 (x.1.1 : Int), .int .i64 x.1.2, undef, undef, undef, undef, undef, undef, undef, undef, undef, undef, undef], defers := [] }) ?assign ?body ?done ?stop
    case assign =>
      intro l x W K hK
      gi_wp2
      exact hK
    case body =>
      rintro l2 pre x W ⟨hp, hB⟩ _
      by_cases hz : x.1.2 = 0
      · have hz' : (x.1.2 == 0) = true := by simpa using hz
        rcases G1.out with ⟨e0, _⟩ | ⟨_, g, d, ev, hgB, ho⟩
        · have := x.2; omega
        obtain ⟨rfl, _, rfl⟩ : pv = some ⟨g, 0, none⟩ ∧ q = q ∧ dv = d := by injection ev with h1 h2 h3; exact ⟨h1, rfl, h3⟩
        have hqd : q ≤ dv := ownI_cap ho
        obtain ⟨⟨i, aw⟩, hi⟩ := x
        have hi' : i < q := hi
        have him : i + 1 ≤ m := by have := HQ.out.1; omega
        have hid : i + 1 ≤ dv := by omega
        have HZ := hidden (show aw = 0 from hz)
        have hic : i + 1 ≤ c' := by omega
        have hmx : Try.prog.follows .mixedOrders = true := by kernel_rfl
        have z1 : (0 : Int) ≤ (i : Int) + 1 := by omega
        have z2 : (i : Int) + 1 ≤ (dv : Int) := by omega
        have z3 : ((i : Int) + 1).toNat = i + 1 := by omega
        have z4 : (i : Int) + 1 ≤ (m : Int) := by omega
        have hi24 : i < 24 := by have := HQ.out.1; omega
        have zw : IntKind.i64.wrap ((i : Int) + 1) = (i : Int) + 1 := wrapC (by omega) (by omega)
        have HI := hidden (ho.keep hB)
        have SC2 := hidden (show ∀ wd, OwnI wd (w.heap.size + 5) g q dv (nodT l) q → Calls Try.prog 35 #[.slice (some ⟨g, 0, none⟩) (i + 1) dv] wd fun e w' => ∃ gg dd, e = .returned (.slice (some ⟨gg, 0, none⟩) (i + 1) dd) ∧ Hid (wd.heap.size ≤ gg) ∧ Hid (OwnI w' wd.heap.size gg (i + 1) dd (nodT l) (i + 1)) ∧ Hid (Below wd.heap.size wd w') from fun wd hd => by
          have hii := hd.ints
          refine (clone_any g 0 (i + 1) dv (nodT l) wd ⟨fun _ => hii.blk (by omega), fun j hj => hii.cell j (by omega)⟩ (by omega)).mono ?_
          rintro e w' ⟨gg, dd, rfl, h1, h2, h3⟩
          exact ⟨gg, dd, rfl, hidden h1, hidden h2, hidden h3⟩)
        have HG5 := hidden (show w.heap.size + 5 ≤ g from HS0.out ▸ hgB)
        have OI := hidden (show OwnI W.drew (w.heap.size + 5) g q dv (nodT l) q from ((HS0.out ▸ ho).keep hB).keep (Below.refl _ _).drew)
        have SS := hidden (StC.call (w := w) (V := W) (V' := W.drew) (X := X) (vx := .slice (some ⟨g, 0, none⟩) q dv) (vd := (.slice (some ⟨b', off', none⟩) m c')) (v2 := .slice none 0 0) (v3 := .slice none 0 0) (v4 := .bool false)
          ⟨(hB.cell (p := ⟨X, 0, none⟩) XB).trans HXW.out, (K1.out.keep hB).c0, K2.out.keep hB, K3.out.keep hB, K4.out.keep hB, HS0.out ▸ XL.out, BW.out.trans (hB.mono BW.out.size)⟩ (Below.refl _ _).drew)
        have HB := hidden hB
        clear hp hz hB ev ho hgB
        gi_wp2
        by_cases hce : c' = i + 1
        · have hce' : ((c' : Nat) = i + 1) := hce
          refine wpIn_region_held (S := fun wz => wz.cell? ⟨X, 0, none⟩ = some (.slice (some ⟨g, 0, none⟩) q dv) ∧ wz.cell? ⟨w.heap.size + 1, 0, none⟩ = some (.slice (some ⟨b', off', none⟩) m c')) hmx (by kernel_rfl) ⟨SS.out.cx, SS.out.cd⟩ (fun hHeld => ?_)
          have KF := hidden (show KeepsFrom W1.heap.size W W.drew from keepsFrom_below (Below.refl _ _).drew)
          generalize W.drew = Wd at hHeld SS OI KF ⊢
          refine wpAnyH_take (i := 0) (oi := { dst := some 24, op := Op.load 27 (Operand.tmp 7), type := 27, pos := "l05_pack.go:58", after := #[], guard := none }) (v := ?_) rfl (by kernel_rfl) (by kernel_rfl) (by kernel_rfl) (fun _ _ _ h => h) (Or.inl ⟨by rfl, ?_⟩) (by assumption) ?_
          rotate_left
          · (intro wv hSw; (try dsimp only at hSw); go_simp; try with_reducible rfl)
          try simp only [Act.put, List.setIfInBounds_toArray, List.set_cons_zero, List.set_cons_succ]
          refine wpAnyH_take (i := 1) (oi := { dst := some 25, op := Op.move (Operand.tmp 8), type := 3, pos := "l05_pack.go:58", after := #[], guard := none }) (v := ?_) rfl (by kernel_rfl) (by kernel_rfl) (by kernel_rfl) (fun _ _ _ h => h) (Or.inl ⟨by rfl, ?_⟩) (by assumption) ?_
          rotate_left
          · (intro wv hSw; (try dsimp only at hSw); go_simp; try with_reducible rfl)
          try simp only [Act.put, List.setIfInBounds_toArray, List.set_cons_zero, List.set_cons_succ]
          refine wpAnyH_take (i := 2) (oi := { dst := some 26, op := Op.binOp BinOp.add 3 (Operand.tmp 25) (Operand.const (Value.int IntKind.i64 1)) 3, type := 3, pos := "l05_pack.go:58", after := #[{ on := 1, ground := Ground.data }], guard := none }) (v := ?_) rfl (by kernel_rfl) (by kernel_rfl) (by kernel_rfl) (fun _ _ _ h => h) (Or.inl ⟨by rfl, ?_⟩) (by assumption) ?_
          rotate_left
          · (intro wv hSw; (try dsimp only at hSw); go_simp; try with_reducible rfl)
          try simp only [Act.put, List.setIfInBounds_toArray, List.set_cons_zero, List.set_cons_succ]
          refine wpAnyH_take (i := 3) (oi := { dst := some 27, op := Op.slice 27 (Operand.tmp 24) none (some (Operand.tmp 26)) none, type := 27, pos := "l05_pack.go:58", after := #[{ on := 0, ground := Ground.data }, { on := 2, ground := Ground.data }], guard := none }) (v := ?_) rfl (by kernel_rfl) (by kernel_rfl) (by kernel_rfl) (fun _ _ _ h => h) (Or.inl ⟨by rfl, ?_⟩) (by assumption) ?_
          rotate_left
          · (intro wv hSw; (try dsimp only at hSw); go_simp; try with_reducible rfl)
          try simp only [Act.put, List.setIfInBounds_toArray, List.set_cons_zero, List.set_cons_succ]
          refine wpAnyH_take (i := 5) (oi := { dst := some 29, op := Op.load 22 (Operand.tmp 3), type := 22, pos := "l05_pack.go:58", after := #[], guard := none }) (v := ?_) rfl (by kernel_rfl) (by kernel_rfl) (by kernel_rfl) (fun _ _ _ h => h) (Or.inl ⟨by rfl, ?_⟩) (by assumption) ?_
          rotate_left
          · (intro wv hSw; (try dsimp only at hSw); go_simp; try with_reducible rfl)
          try simp only [Act.put, List.setIfInBounds_toArray, List.set_cons_zero, List.set_cons_succ]
          refine wpAnyH_take (i := 6) (oi := { dst := some 30, op := Op.move (Operand.tmp 8), type := 3, pos := "l05_pack.go:58", after := #[], guard := none }) (v := ?_) rfl (by kernel_rfl) (by kernel_rfl) (by kernel_rfl) (fun _ _ _ h => h) (Or.inl ⟨by rfl, ?_⟩) (by assumption) ?_
          rotate_left
          · (intro wv hSw; (try dsimp only at hSw); go_simp; try with_reducible rfl)
          try simp only [Act.put, List.setIfInBounds_toArray, List.set_cons_zero, List.set_cons_succ]
          refine wpAnyH_take (i := 7) (oi := { dst := some 31, op := Op.binOp BinOp.add 3 (Operand.tmp 30) (Operand.const (Value.int IntKind.i64 1)) 3, type := 3, pos := "l05_pack.go:58", after := #[{ on := 6, ground := Ground.data }], guard := none }) (v := ?_) rfl (by kernel_rfl) (by kernel_rfl) (by kernel_rfl) (fun _ _ _ h => h) (Or.inl ⟨by rfl, ?_⟩) (by assumption) ?_
          rotate_left
          · (intro wv hSw; (try dsimp only at hSw); go_simp; try with_reducible rfl)
          try simp only [Act.put, List.setIfInBounds_toArray, List.set_cons_zero, List.set_cons_succ]
          refine wpAnyH_take (i := 8) (oi := { dst := some 32, op := Op.slice 22 (Operand.tmp 29) (some (Operand.tmp 31)) none none, type := 22, pos := "l05_pack.go:58", after := #[{ on := 5, ground := Ground.data }, { on := 7, ground := Ground.data }], guard := none }) (v := ?_) rfl (by kernel_rfl) (by kernel_rfl) (by kernel_rfl) (fun _ _ _ h => h) (Or.inl ⟨by rfl, ?_⟩) (by assumption) ?_
          rotate_left
          · (intro wv hSw; (try dsimp only at hSw); go_simp; try with_reducible rfl)
          try simp only [Act.put, List.setIfInBounds_toArray, List.set_cons_zero, List.set_cons_succ]
          refine wpAnyH_ready (rs := [4]) (by kernel_rfl) (by simp) ?_
          refine AllReadyH.cons (o := { dst := some 28, op := Op.call { callee := Callee.value (Operand.func 35), args := #[Operand.tmp 27], argTypes := #[27] }, type := 27, pos := "l05_pack.go:58", after := #[{ on := 3, ground := Ground.data }], guard := none }) rfl (fun K hK => ?_) AllReadyH.nil
          go_simp
          go_at_call 35; with_reducible refine (SC2.out _ OI.out).mono ?_; rintro e v1 ⟨gg, dd, rfl, GG, OO, hb1⟩
          try go_wp2_with fail
          have GN := hidden (show w.heap.size + 5 ≤ gg by have h1 : X < _ := World.block_lt_of_cell? _ _ SS.out.cx; have h2 := SS.out.xn; have h3 := GG.out; omega)
          replace KF := hidden (KF.out.trans (keepsFrom_below hb1.out))
          replace OI := hidden (OI.out.keep hb1.out)
          replace SS := hidden (SS.out.call hb1.out)
          refine hK.out _ _ ⟨SS.out.cx, SS.out.cd⟩ (fun hHeld => ?_)
          clear hK K hb1
          replace OO := hidden (OO.out.base (B' := w.heap.size) (by have := GN.out; omega))
          try simp only [Act.put, List.setIfInBounds_toArray, List.set_cons_zero, List.set_cons_succ]
          refine wpAnyH_ready (rs := [9]) (by kernel_rfl) (by simp) ?_
          refine AllReadyH.cons (o := { dst := none, op := Op.store 27 (Operand.tmp 4) (Operand.tmp 28), type := 0, pos := "l05_pack.go:58", after := #[{ on := 4, ground := Ground.data }, { on := 4, ground := Ground.chain }, { on := 0, ground := Ground.phase }, { on := 1, ground := Ground.phase }, { on := 2, ground := Ground.phase }, { on := 3, ground := Ground.phase }, { on := 4, ground := Ground.phase }, { on := 5, ground := Ground.textOnly Departure.lateStores }, { on := 6, ground := Ground.textOnly Departure.lateStores }, { on := 7, ground := Ground.textOnly Departure.lateStores }, { on := 8, ground := Ground.textOnly Departure.lateStoresUnsure }], guard := none }) rfl (fun K hK => ?_) AllReadyH.nil
          have kS := SS.out.b2.c0
          have jS := SS.out.b2.f0
          go_simp
          replace SS := hidden (SS.out.set2 (.slice (some ⟨gg, 0, none⟩) (i + 1) dd))
          refine hK.out _ _ ⟨SS.out.cx, SS.out.cd⟩ (fun hHeld => ?_)
          clear hK K kS jS
          replace KF := hidden (KF.out.trans ((KeepsOthers.setCell _ ⟨w.heap.size + 1 + 1, 0, none⟩ (.slice (some ⟨gg, 0, none⟩) (i + 1) dd)).from _))
          replace OO := hidden (OO.out.other ⟨w.heap.size + 1 + 1, 0, none⟩ (.slice (some ⟨gg, 0, none⟩) (i + 1) dd) (by have := GN.out; simp; omega))
          try simp only [Act.put, List.setIfInBounds_toArray, List.set_cons_zero, List.set_cons_succ]
          refine wpAnyH_ready (rs := [10]) (by kernel_rfl) (by simp) ?_
          refine AllReadyH.cons (o := { dst := none, op := Op.store 22 (Operand.tmp 5) (Operand.tmp 32), type := 0, pos := "l05_pack.go:58", after := #[{ on := 8, ground := Ground.data }, { on := 9, ground := Ground.chain }, { on := 0, ground := Ground.phase }, { on := 1, ground := Ground.phase }, { on := 2, ground := Ground.phase }, { on := 3, ground := Ground.phase }, { on := 4, ground := Ground.phase }, { on := 5, ground := Ground.phase }, { on := 6, ground := Ground.phase }, { on := 7, ground := Ground.phase }, { on := 8, ground := Ground.phase }, { on := 9, ground := Ground.phase }], guard := none }) rfl (fun K hK => ?_) AllReadyH.nil
          have kS := SS.out.b3.c0
          have jS := SS.out.b3.f0
          go_simp
          replace SS := hidden (SS.out.set3 (.slice (some ⟨b', off', none⟩) (m - (i + 1)) 0))
          refine hK.out _ _ ⟨SS.out.cx, SS.out.cd⟩ (fun hHeld => ?_)
          clear hK K kS jS
          replace KF := hidden (KF.out.trans ((KeepsOthers.setCell _ ⟨w.heap.size + 1 + 1 + 1, 0, none⟩ (.slice (some ⟨b', off', none⟩) (m - (i + 1)) 0)).from _))
          replace OO := hidden (OO.out.other ⟨w.heap.size + 1 + 1 + 1, 0, none⟩ (.slice (some ⟨b', off', none⟩) (m - (i + 1)) 0) (by have := GN.out; simp; omega))
          try simp only [Act.put, List.setIfInBounds_toArray, List.set_cons_zero, List.set_cons_succ]
          refine wpAnyH_ready (rs := [11]) (by kernel_rfl) (by simp) ?_
          refine AllReadyH.cons (o := { dst := none, op := Op.store 4 (Operand.tmp 6) (Operand.const (Value.bool true)), type := 0, pos := "l05_pack.go:58", after := #[{ on := 10, ground := Ground.chain }, { on := 0, ground := Ground.phase }, { on := 1, ground := Ground.phase }, { on := 2, ground := Ground.phase }, { on := 3, ground := Ground.phase }, { on := 4, ground := Ground.phase }, { on := 5, ground := Ground.phase }, { on := 6, ground := Ground.phase }, { on := 7, ground := Ground.phase }, { on := 8, ground := Ground.phase }, { on := 9, ground := Ground.phase }, { on := 10, ground := Ground.phase }], guard := none }) rfl (fun K hK => ?_) AllReadyH.nil
          have kS := SS.out.b4.c0
          have jS := SS.out.b4.f0
          go_simp
          replace SS := hidden (SS.out.set4 (.bool true))
          refine hK.out _ _ ⟨SS.out.cx, SS.out.cd⟩ (fun hHeld => ?_)
          clear hK K kS jS
          replace KF := hidden (KF.out.trans ((KeepsOthers.setCell _ ⟨w.heap.size + 1 + 1 + 1 + 1, 0, none⟩ (.bool true)).from _))
          replace OO := hidden (OO.out.other ⟨w.heap.size + 1 + 1 + 1 + 1, 0, none⟩ (.bool true) (by have := GN.out; simp; omega))
          try simp only [Act.put, List.setIfInBounds_toArray, List.set_cons_zero, List.set_cons_succ]
          refine wpAnyH_done (by kernel_rfl) ?_ _
          have E2 := hidden SS.out.b2.c0
          have E3 := hidden SS.out.b3.c0
          have E4 := hidden SS.out.b4.c0
          have EB := hidden SS.out.bw
          clear SS OI GG hHeld
          gi_wp2
          exact ⟨KF.out, ⟨rfl, pre, ⟨(i, aw), hi⟩, gg, dd, _, _, rfl, HZ.out, E2.out, E3.out, E4.out, by have := GN.out; omega, OO.out, by dsimp only; omega, by dsimp only; omega⟩, EB.out⟩
        · have hce' : ¬ ((c' : Nat) = i + 1) := hce
          refine wpIn_region_held (S := fun wz => wz.cell? ⟨X, 0, none⟩ = some (.slice (some ⟨g, 0, none⟩) q dv) ∧ wz.cell? ⟨w.heap.size + 1, 0, none⟩ = some (.slice (some ⟨b', off', none⟩) m c')) hmx (by kernel_rfl) ⟨SS.out.cx, SS.out.cd⟩ (fun hHeld => ?_)
          have KF := hidden (show KeepsFrom W1.heap.size W W.drew from keepsFrom_below (Below.refl _ _).drew)
          generalize W.drew = Wd at hHeld SS OI KF ⊢
          refine wpAnyH_take (i := 0) (oi := { dst := some 24, op := Op.load 27 (Operand.tmp 7), type := 27, pos := "l05_pack.go:58", after := #[], guard := none }) (v := ?_) rfl (by kernel_rfl) (by kernel_rfl) (by kernel_rfl) (fun _ _ _ h => h) (Or.inl ⟨by rfl, ?_⟩) (by assumption) ?_
          rotate_left
          · (intro wv hSw; (try dsimp only at hSw); go_simp; try with_reducible rfl)
          try simp only [Act.put, List.setIfInBounds_toArray, List.set_cons_zero, List.set_cons_succ]
          refine wpAnyH_take (i := 1) (oi := { dst := some 25, op := Op.move (Operand.tmp 8), type := 3, pos := "l05_pack.go:58", after := #[], guard := none }) (v := ?_) rfl (by kernel_rfl) (by kernel_rfl) (by kernel_rfl) (fun _ _ _ h => h) (Or.inl ⟨by rfl, ?_⟩) (by assumption) ?_
          rotate_left
          · (intro wv hSw; (try dsimp only at hSw); go_simp; try with_reducible rfl)
          try simp only [Act.put, List.setIfInBounds_toArray, List.set_cons_zero, List.set_cons_succ]
          refine wpAnyH_take (i := 2) (oi := { dst := some 26, op := Op.binOp BinOp.add 3 (Operand.tmp 25) (Operand.const (Value.int IntKind.i64 1)) 3, type := 3, pos := "l05_pack.go:58", after := #[{ on := 1, ground := Ground.data }], guard := none }) (v := ?_) rfl (by kernel_rfl) (by kernel_rfl) (by kernel_rfl) (fun _ _ _ h => h) (Or.inl ⟨by rfl, ?_⟩) (by assumption) ?_
          rotate_left
          · (intro wv hSw; (try dsimp only at hSw); go_simp; try with_reducible rfl)
          try simp only [Act.put, List.setIfInBounds_toArray, List.set_cons_zero, List.set_cons_succ]
          refine wpAnyH_take (i := 3) (oi := { dst := some 27, op := Op.slice 27 (Operand.tmp 24) none (some (Operand.tmp 26)) none, type := 27, pos := "l05_pack.go:58", after := #[{ on := 0, ground := Ground.data }, { on := 2, ground := Ground.data }], guard := none }) (v := ?_) rfl (by kernel_rfl) (by kernel_rfl) (by kernel_rfl) (fun _ _ _ h => h) (Or.inl ⟨by rfl, ?_⟩) (by assumption) ?_
          rotate_left
          · (intro wv hSw; (try dsimp only at hSw); go_simp; try with_reducible rfl)
          try simp only [Act.put, List.setIfInBounds_toArray, List.set_cons_zero, List.set_cons_succ]
          refine wpAnyH_take (i := 5) (oi := { dst := some 29, op := Op.load 22 (Operand.tmp 3), type := 22, pos := "l05_pack.go:58", after := #[], guard := none }) (v := ?_) rfl (by kernel_rfl) (by kernel_rfl) (by kernel_rfl) (fun _ _ _ h => h) (Or.inl ⟨by rfl, ?_⟩) (by assumption) ?_
          rotate_left
          · (intro wv hSw; (try dsimp only at hSw); go_simp; try with_reducible rfl)
          try simp only [Act.put, List.setIfInBounds_toArray, List.set_cons_zero, List.set_cons_succ]
          refine wpAnyH_take (i := 6) (oi := { dst := some 30, op := Op.move (Operand.tmp 8), type := 3, pos := "l05_pack.go:58", after := #[], guard := none }) (v := ?_) rfl (by kernel_rfl) (by kernel_rfl) (by kernel_rfl) (fun _ _ _ h => h) (Or.inl ⟨by rfl, ?_⟩) (by assumption) ?_
          rotate_left
          · (intro wv hSw; (try dsimp only at hSw); go_simp; try with_reducible rfl)
          try simp only [Act.put, List.setIfInBounds_toArray, List.set_cons_zero, List.set_cons_succ]
          refine wpAnyH_take (i := 7) (oi := { dst := some 31, op := Op.binOp BinOp.add 3 (Operand.tmp 30) (Operand.const (Value.int IntKind.i64 1)) 3, type := 3, pos := "l05_pack.go:58", after := #[{ on := 6, ground := Ground.data }], guard := none }) (v := ?_) rfl (by kernel_rfl) (by kernel_rfl) (by kernel_rfl) (fun _ _ _ h => h) (Or.inl ⟨by rfl, ?_⟩) (by assumption) ?_
          rotate_left
          · (intro wv hSw; (try dsimp only at hSw); go_simp; try with_reducible rfl)
          try simp only [Act.put, List.setIfInBounds_toArray, List.set_cons_zero, List.set_cons_succ]
          refine wpAnyH_take (i := 8) (oi := { dst := some 32, op := Op.slice 22 (Operand.tmp 29) (some (Operand.tmp 31)) none none, type := 22, pos := "l05_pack.go:58", after := #[{ on := 5, ground := Ground.data }, { on := 7, ground := Ground.data }], guard := none }) (v := ?_) rfl (by kernel_rfl) (by kernel_rfl) (by kernel_rfl) (fun _ _ _ h => h) (Or.inl ⟨by rfl, ?_⟩) (by assumption) ?_
          rotate_left
          · (intro wv hSw; (try dsimp only at hSw); go_simp; try with_reducible rfl)
          try simp only [Act.put, List.setIfInBounds_toArray, List.set_cons_zero, List.set_cons_succ]
          refine wpAnyH_ready (rs := [4]) (by kernel_rfl) (by simp) ?_
          refine AllReadyH.cons (o := { dst := some 28, op := Op.call { callee := Callee.value (Operand.func 35), args := #[Operand.tmp 27], argTypes := #[27] }, type := 27, pos := "l05_pack.go:58", after := #[{ on := 3, ground := Ground.data }], guard := none }) rfl (fun K hK => ?_) AllReadyH.nil
          go_simp
          go_at_call 35; with_reducible refine (SC2.out _ OI.out).mono ?_; rintro e v1 ⟨gg, dd, rfl, GG, OO, hb1⟩
          try go_wp2_with fail
          have GN := hidden (show w.heap.size + 5 ≤ gg by have h1 : X < _ := World.block_lt_of_cell? _ _ SS.out.cx; have h2 := SS.out.xn; have h3 := GG.out; omega)
          replace KF := hidden (KF.out.trans (keepsFrom_below hb1.out))
          replace OI := hidden (OI.out.keep hb1.out)
          replace SS := hidden (SS.out.call hb1.out)
          refine hK.out _ _ ⟨SS.out.cx, SS.out.cd⟩ (fun hHeld => ?_)
          clear hK K hb1
          replace OO := hidden (OO.out.base (B' := w.heap.size) (by have := GN.out; omega))
          try simp only [Act.put, List.setIfInBounds_toArray, List.set_cons_zero, List.set_cons_succ]
          refine wpAnyH_ready (rs := [9]) (by kernel_rfl) (by simp) ?_
          refine AllReadyH.cons (o := { dst := none, op := Op.store 27 (Operand.tmp 4) (Operand.tmp 28), type := 0, pos := "l05_pack.go:58", after := #[{ on := 4, ground := Ground.data }, { on := 4, ground := Ground.chain }, { on := 0, ground := Ground.phase }, { on := 1, ground := Ground.phase }, { on := 2, ground := Ground.phase }, { on := 3, ground := Ground.phase }, { on := 4, ground := Ground.phase }, { on := 5, ground := Ground.textOnly Departure.lateStores }, { on := 6, ground := Ground.textOnly Departure.lateStores }, { on := 7, ground := Ground.textOnly Departure.lateStores }, { on := 8, ground := Ground.textOnly Departure.lateStoresUnsure }], guard := none }) rfl (fun K hK => ?_) AllReadyH.nil
          have kS := SS.out.b2.c0
          have jS := SS.out.b2.f0
          go_simp
          replace SS := hidden (SS.out.set2 (.slice (some ⟨gg, 0, none⟩) (i + 1) dd))
          refine hK.out _ _ ⟨SS.out.cx, SS.out.cd⟩ (fun hHeld => ?_)
          clear hK K kS jS
          replace KF := hidden (KF.out.trans ((KeepsOthers.setCell _ ⟨w.heap.size + 1 + 1, 0, none⟩ (.slice (some ⟨gg, 0, none⟩) (i + 1) dd)).from _))
          replace OO := hidden (OO.out.other ⟨w.heap.size + 1 + 1, 0, none⟩ (.slice (some ⟨gg, 0, none⟩) (i + 1) dd) (by have := GN.out; simp; omega))
          try simp only [Act.put, List.setIfInBounds_toArray, List.set_cons_zero, List.set_cons_succ]
          refine wpAnyH_ready (rs := [10]) (by kernel_rfl) (by simp) ?_
          refine AllReadyH.cons (o := { dst := none, op := Op.store 22 (Operand.tmp 5) (Operand.tmp 32), type := 0, pos := "l05_pack.go:58", after := #[{ on := 8, ground := Ground.data }, { on := 9, ground := Ground.chain }, { on := 0, ground := Ground.phase }, { on := 1, ground := Ground.phase }, { on := 2, ground := Ground.phase }, { on := 3, ground := Ground.phase }, { on := 4, ground := Ground.phase }, { on := 5, ground := Ground.phase }, { on := 6, ground := Ground.phase }, { on := 7, ground := Ground.phase }, { on := 8, ground := Ground.phase }, { on := 9, ground := Ground.phase }], guard := none }) rfl (fun K hK => ?_) AllReadyH.nil
          have kS := SS.out.b3.c0
          have jS := SS.out.b3.f0
          go_simp
          replace SS := hidden (SS.out.set3 (.slice (some ⟨b', off' + (i + 1), none⟩) (m - (i + 1)) (c' - (i + 1))))
          refine hK.out _ _ ⟨SS.out.cx, SS.out.cd⟩ (fun hHeld => ?_)
          clear hK K kS jS
          replace KF := hidden (KF.out.trans ((KeepsOthers.setCell _ ⟨w.heap.size + 1 + 1 + 1, 0, none⟩ (.slice (some ⟨b', off' + (i + 1), none⟩) (m - (i + 1)) (c' - (i + 1)))).from _))
          replace OO := hidden (OO.out.other ⟨w.heap.size + 1 + 1 + 1, 0, none⟩ (.slice (some ⟨b', off' + (i + 1), none⟩) (m - (i + 1)) (c' - (i + 1))) (by have := GN.out; simp; omega))
          try simp only [Act.put, List.setIfInBounds_toArray, List.set_cons_zero, List.set_cons_succ]
          refine wpAnyH_ready (rs := [11]) (by kernel_rfl) (by simp) ?_
          refine AllReadyH.cons (o := { dst := none, op := Op.store 4 (Operand.tmp 6) (Operand.const (Value.bool true)), type := 0, pos := "l05_pack.go:58", after := #[{ on := 10, ground := Ground.chain }, { on := 0, ground := Ground.phase }, { on := 1, ground := Ground.phase }, { on := 2, ground := Ground.phase }, { on := 3, ground := Ground.phase }, { on := 4, ground := Ground.phase }, { on := 5, ground := Ground.phase }, { on := 6, ground := Ground.phase }, { on := 7, ground := Ground.phase }, { on := 8, ground := Ground.phase }, { on := 9, ground := Ground.phase }, { on := 10, ground := Ground.phase }], guard := none }) rfl (fun K hK => ?_) AllReadyH.nil
          have kS := SS.out.b4.c0
          have jS := SS.out.b4.f0
          go_simp
          replace SS := hidden (SS.out.set4 (.bool true))
          refine hK.out _ _ ⟨SS.out.cx, SS.out.cd⟩ (fun hHeld => ?_)
          clear hK K kS jS
          replace KF := hidden (KF.out.trans ((KeepsOthers.setCell _ ⟨w.heap.size + 1 + 1 + 1 + 1, 0, none⟩ (.bool true)).from _))
          replace OO := hidden (OO.out.other ⟨w.heap.size + 1 + 1 + 1 + 1, 0, none⟩ (.bool true) (by have := GN.out; simp; omega))
          try simp only [Act.put, List.setIfInBounds_toArray, List.set_cons_zero, List.set_cons_succ]
          refine wpAnyH_done (by kernel_rfl) ?_ _
          have E2 := hidden SS.out.b2.c0
          have E3 := hidden SS.out.b3.c0
          have E4 := hidden SS.out.b4.c0
          have EB := hidden SS.out.bw
          clear SS OI GG hHeld
          gi_wp2
          exact ⟨KF.out, ⟨rfl, pre, ⟨(i, aw), hi⟩, gg, dd, _, _, rfl, HZ.out, E2.out, E3.out, E4.out, by have := GN.out; omega, OO.out, by dsimp only; omega, by dsimp only; omega⟩, EB.out⟩
      · have hz' : (x.1.2 == 0) = false := by simpa using hz
        have HZ := hidden hz
        have HP := hidden hp
        clear hz hp
        gi_wp2
        exact ⟨KeepsFrom.refl _ _, But.refl _ _ _, fun p hp' => (List.mem_append.1 hp').elim (HP.out p) (fun e => by simp at e; subst e; exact HZ.out), hB⟩
    case done =>
      rintro D ys W hD ⟨k, hk, hpos, hend, hys⟩ ⟨hne, hB⟩ hK
      have h1 : 0 < awt (aOf A (nodT l)) 0 k := by
        cases k with
        | zero => simp [awt]
        | succ k =>
          have h2 := (awt_skip (aOf A (nodT l)) (m := q) (p := 0) (k + 1) (by omega) hpos).1
          have h3 : yld (aOf A (nodT l)) 0 k ∈ ys.map (·.1) := by rw [hys, upto_succ]; simp
          obtain ⟨p, hp, e⟩ := List.mem_map.1 h3
          have h4 := hne p hp
          rw [e] at h4
          have h5 : awt (aOf A (nodT l)) 0 (k + 1) ≠ 0 := h4
          omega
      have hkq : k = q := by rcases hend with e | e <;> omega
      have HR := hidden (show rdK n A m l = 0 from rd_none (fun k0 hP => by
        have hk0 : k0 ≤ q := by
          rcases HQ2.out with e | e
          · have := HMM.out; have := hP.le; have := hP.most; omega
          · by_cases hlt : q < k0
            · have := hP.ok q hlt; rw [e] at this; cases this
            · omega
        have h0 := (whole_awt hP.whole).2
        by_cases e : k0 = k
        · rw [e] at h0; omega
        · have := hpos k0 (by omega); omega))
      have k2 : W.cell? ⟨w.heap.size + 1 + 1, 0, none⟩ = some (.slice none 0 0) := (K2.out.keep hB).c0
      have k3 : W.cell? ⟨w.heap.size + 1 + 1 + 1, 0, none⟩ = some (.slice none 0 0) := (K3.out.keep hB).c0
      have k4 : W.cell? ⟨w.heap.size + 1 + 1 + 1 + 1, 0, none⟩ = some (.bool false) := (K4.out.keep hB).c0
      have j2 : W.frozen? ⟨w.heap.size + 1 + 1, 0, none⟩ = false := (K2.out.keep hB).f0
      have j3 : W.frozen? ⟨w.heap.size + 1 + 1 + 1, 0, none⟩ = false := (K3.out.keep hB).f0
      have j4 : W.frozen? ⟨w.heap.size + 1 + 1 + 1 + 1, 0, none⟩ = false := (K4.out.keep hB).f0
      have HB := hidden (BW.out.trans (hB.mono BW.out.size))
      clear hpos hend hys hne h1 hB
      gi_wp2
      have hK' := (((KeepsOthers.setCell W ⟨w.heap.size + 1 + 1, 0, none⟩ (.slice none 0 0)).trans (KeepsOthers.setCell _ ⟨w.heap.size + 1 + 1 + 1, 0, none⟩ (.slice none 0 0))).trans (KeepsOthers.setCell _ ⟨w.heap.size + 1 + 1 + 1 + 1, 0, none⟩ (.bool false))).same D _ hK rfl
      have m4 := World.cell?_setCell_same' ((W.setCell ⟨w.heap.size + 1 + 1, 0, none⟩ (.slice none 0 0)).setCell ⟨w.heap.size + 1 + 1 + 1, 0, none⟩ (.slice none 0 0)) ⟨w.heap.size + 1 + 1 + 1 + 1, 0, none⟩ (.bool false) (by rw [World.cell?_setCell_other _ _ _ _ (by simp), World.cell?_setCell_other _ _ _ _ (by simp), k4]; rfl)
      have m3 : (((W.setCell ⟨w.heap.size + 1 + 1, 0, none⟩ (.slice none 0 0)).setCell ⟨w.heap.size + 1 + 1 + 1, 0, none⟩ (.slice none 0 0)).setCell ⟨w.heap.size + 1 + 1 + 1 + 1, 0, none⟩ (.bool false)).cell? ⟨w.heap.size + 1 + 1 + 1, 0, none⟩ = some (.slice none 0 0) := by
        rw [World.cell?_setCell_other _ _ _ _ (by simp)]; exact World.cell?_setCell_same' _ _ _ (by rw [World.cell?_setCell_other _ _ _ _ (by simp), k3]; rfl)
      have m2 : (((W.setCell ⟨w.heap.size + 1 + 1, 0, none⟩ (.slice none 0 0)).setCell ⟨w.heap.size + 1 + 1 + 1, 0, none⟩ (.slice none 0 0)).setCell ⟨w.heap.size + 1 + 1 + 1 + 1, 0, none⟩ (.bool false)).cell? ⟨w.heap.size + 1 + 1, 0, none⟩ = some (.slice none 0 0) := by
        rw [World.cell?_setCell_other _ _ _ _ (by simp), World.cell?_setCell_other _ _ _ _ (by simp)]; exact World.cell?_setCell_same' _ _ _ (by rw [k2]; rfl)
      have HB4 := hidden (((HB.out.setCell (p := ⟨w.heap.size + 1 + 1, 0, none⟩) (by simp; omega) (.slice none 0 0)).setCell (p := ⟨w.heap.size + 1 + 1 + 1, 0, none⟩) (by simp; omega) (.slice none 0 0)).setCell (p := ⟨w.heap.size + 1 + 1 + 1 + 1, 0, none⟩) (by simp; omega) (.bool false))
      generalize (((W.setCell ⟨w.heap.size + 1 + 1, 0, none⟩ (.slice none 0 0)).setCell ⟨w.heap.size + 1 + 1 + 1, 0, none⟩ (.slice none 0 0)).setCell ⟨w.heap.size + 1 + 1 + 1 + 1, 0, none⟩ (.bool false)) = W4 at *
      refine ⟨by simp, .inl ⟨_, _, rfl, run_takeDeferred hK', ?_⟩⟩
      have n2 := cell_kept m2 (grownBy_putObj' _ D (.deferred none)) (fun r e => by cases e; exact ⟨_, hK', rfl⟩)
      have n3 := cell_kept m3 (grownBy_putObj' _ D (.deferred none)) (fun r e => by cases e; exact ⟨_, hK', rfl⟩)
      have n4 := cell_kept m4 (grownBy_putObj' _ D (.deferred none)) (fun r e => by cases e; exact ⟨_, hK', rfl⟩)
      refine ⟨.tuple #[.slice none 0 0, .slice none 0 0, .bool false], ?_, .inl ⟨HR.out, rfl⟩, HB4.out.trans (belowK_b (w := w) (Nat.le_refl _) _ D _ _ (by omega) hK' rfl rfl)⟩
      simp [results, Try.f48, go_sem, n2, n3, n4]
    case stop =>
      rintro D cc pre W hD ⟨k, hk, hpos, hys⟩ ⟨⟨rfl, ini, last, gg, dd, o2, c2, e1, e2, e3, e4, e5, e6, e7, e8, e9⟩, hB⟩ hK
      rw [e1, List.map_append, upto_succ] at hys
      obtain ⟨_, e10⟩ := List.append_inj' hys rfl
      have e11 : last.1 = yld (aOf A (nodT l)) 0 k := by simpa using e10
      rw [e11] at e2 e3 e4 e7 e8 e9
      have hz : awt (aOf A (nodT l)) 0 (k + 1) = 0 := e2
      have HR := hidden (show rdK n A m l = k + 1 from rd_at ⟨by omega, by have := HQ.out.1; omega, by have := HQ.out.1; omega, fun i hi => HQ.out.2 i (by omega), by
        have := (manyN_at (m := k + 1) (p := 0) (j := k + 1) (by omega) (fun i hi => hpos i (by omega)) hz).1
        rwa [Nat.zero_add] at this⟩)
      have e3' : W.cell? ⟨w.heap.size + 1 + 1, 0, none⟩ = some (.slice (some ⟨gg, 0, none⟩) (k + 1) dd) := e3
      have e4' : W.cell? ⟨w.heap.size + 1 + 1 + 1, 0, none⟩ = some (.slice (some ⟨b', o2, none⟩) (m - (k + 1)) c2) := e4
      have e5' : W.cell? ⟨w.heap.size + 1 + 1 + 1 + 1, 0, none⟩ = some (.bool true) := e5
      have O7 := hidden (show OwnI W w.heap.size gg (k + 1) dd (nodT l) (k + 1) from e7)
      have E8 := hidden (show m - (k + 1) ≤ c2 from e8)
      have E9 := hidden (show m = k + 1 ∨ o2 = off' + (k + 1) from e9)
      clear e1 e2 e3 e4 e5 e7 e8 e9 e10 e11 hz hpos hys
      gi_wp2
      refine ⟨by simp, .inl ⟨_, _, rfl, run_takeDeferred hK, ?_⟩⟩
      have n2 := cell_kept e3' (grownBy_putObj' _ D (.deferred none)) (fun r e => by cases e; exact ⟨_, hK, rfl⟩)
      have n3 := cell_kept e4' (grownBy_putObj' _ D (.deferred none)) (fun r e => by cases e; exact ⟨_, hK, rfl⟩)
      have n4 := cell_kept e5' (grownBy_putObj' _ D (.deferred none)) (fun r e => by cases e; exact ⟨_, hK, rfl⟩)
      refine ⟨.tuple #[.slice (some ⟨gg, 0, none⟩) (k + 1) dd, .slice (some ⟨b', o2, none⟩) (m - (k + 1)) c2, .bool true], ?_, .inr ⟨by rw [HR.out]; omega, gg, dd, o2, c2, by rw [HR.out], e6, by rw [HR.out]; exact ownI_kept O7.out (grownBy_putObj' _ D (.deferred none)) (fun r e => by cases e; exact ⟨_, hK, rfl⟩), by rw [HR.out]; exact E8.out, by rw [HR.out]; exact E9.out⟩, hB.trans (belowK_b (w := w) (Nat.le_refl _) W D _ _ (by omega) hK rfl rfl)⟩
      simp [results, Try.f48, go_sem, n2, n3, n4]

end Go.Proofs.Ytjjpkhlbokfjpaa

/- Contracts: the program's cutTerm where there are no bytes at all. -/
namespace Go.Proofs.Ytjjpkhlbokfjpaa
open Go.RowKit Go.Shelf

attribute [local go_sem] Oper.semAt_some

set_option maxRecDepth 20000 in
set_option maxHeartbeats 400000 in
theorem nodesAhead_nil (p : Option Addr) (n c : Nat) (w : World) :
    Calls Try.prog 77 #[.agg #[.slice p n c], .slice none 0 0] w fun e w' => e = .returned (.slice none 0 0) ∧ Below w.heap.size w w' := by
  go_enter Try.func77, Try.ntmps77
  go_wp2
  refine wp_loop_rounds 1 ?_
  rw [rounds_succ]
  go_wp2
  go_ret
  exact ⟨rfl, alloc_below _ _⟩

set_option maxRecDepth 100000 in
set_option maxHeartbeats 8000000 in
theorem cutTerm_nil (b off n c : Nat) (N : Nat → ByteArray) (A : Nat → Int) (w : World) (h : Syms w b off n N A) (hs : Sound n A) :
    Calls Try.prog 48 #[.agg #[.slice (some ⟨b, off, none⟩) n c], .slice none 0 0] w fun e w' => e = .returned (.tuple #[.slice none 0 0, .slice none 0 0, .bool false]) ∧ Below w.heap.size w w' := by
  obtain ⟨l, -⟩ : ∃ l : Nat → Int, l = fun _ => 0 := ⟨_, rfl⟩
  refine (callsIn_wide (n := 3)).1 ?_
  refine callsIn_of_wp_marks Try.func48 rfl trivial ?_ rfl
  simp only [Try.ntmps48, List.size_toArray, List.length_cons, List.length_nil, Nat.reduceAdd, Nat.reduceSub, Array.replicate_succ, Array.replicate_zero, List.push_toArray, List.append_toArray, List.nil_append, List.cons_append]
  obtain ⟨w0, hw0⟩ : ∃ w0, w0 = ((((w.alloc (.cells #[.slice (some ⟨b, off, none⟩) n c] 26)).alloc (.cells #[.slice none 0 0] 22)).alloc (.cells #[.slice none 0 0] 27)).alloc (.cells #[.slice none 0 0] 22)).alloc (.cells #[.bool false] 4) := ⟨_, rfl⟩
  have hB0 : Below w.heap.size w w0 := by rw [hw0]; exact (((((Below.refl _ w).alloc (Nat.le_refl _) _).alloc (by simp) _).alloc (by simp; omega) _).alloc (by simp; omega) _).alloc (by simp; omega) _
  have hS0 : w0.heap.size = w.heap.size + 5 := by rw [hw0]; simp
  have r0 : Box1 w0 w.heap.size (.slice (some ⟨b, off, none⟩) n c) := by rw [hw0]; exact ((((Box1.new w _ _).keep (alloc_below _ _)).keep (alloc_below _ _)).keep (alloc_below _ _)).keep (alloc_below _ _)
  have r1 : Box1 w0 (w.heap.size + 1) (.slice none 0 0) := by
    rw [hw0]
    have := Box1.new (w.alloc (.cells #[.slice (some ⟨b, off, none⟩) n c] 26)) (.slice none 0 0) 22
    rw [World.size_alloc] at this
    exact ((this.keep (alloc_below _ _)).keep (alloc_below _ _)).keep (alloc_below _ _)
  have r2 : Box1 w0 (w.heap.size + 2) (.slice none 0 0) := by
    rw [hw0]
    have := Box1.new ((w.alloc (.cells #[.slice (some ⟨b, off, none⟩) n c] 26)).alloc (.cells #[.slice none 0 0] 22)) (.slice none 0 0) 27
    simp only [World.size_alloc] at this
    exact (this.keep (alloc_below _ _)).keep (alloc_below _ _)
  have r3 : Box1 w0 (w.heap.size + 3) (.slice none 0 0) := by
    rw [hw0]
    have := Box1.new (((w.alloc (.cells #[.slice (some ⟨b, off, none⟩) n c] 26)).alloc (.cells #[.slice none 0 0] 22)).alloc (.cells #[.slice none 0 0] 27)) (.slice none 0 0) 22
    simp only [World.size_alloc] at this
    exact this.keep (alloc_below _ _)
  have r4 : Box1 w0 (w.heap.size + 4) (.bool false) := by
    rw [hw0]
    have := Box1.new ((((w.alloc (.cells #[.slice (some ⟨b, off, none⟩) n c] 26)).alloc (.cells #[.slice none 0 0] 22)).alloc (.cells #[.slice none 0 0] 27)).alloc (.cells #[.slice none 0 0] 22)) (.bool false) 4
    simp only [World.size_alloc] at this
    exact this
  have CK := hidden (show ∀ w', Below w0.heap.size w0 w' → (w'.cell? ⟨w.heap.size, 0, none⟩ = some (.slice (some ⟨b, off, none⟩) n c) ∧ w'.cell? ⟨w.heap.size + 1, 0, none⟩ = some (.slice none 0 0)) from fun w' hb => ⟨(r0.keep hb).c0, (r1.keep hb).c0⟩)
  obtain ⟨mm, hmm⟩ : ∃ mm : Nat, mm = 0 := ⟨_, rfl⟩
  have SC := hidden (show ∀ wc, Below w0.heap.size w0 wc → Calls Try.prog 77 #[.agg #[.slice (some ⟨b, off, none⟩) n c], .slice none 0 0] wc fun e w' => ∃ q pv dv, e = .returned (.slice pv q dv) ∧ q ≤ mm ∧ (∀ i, i < q → okN (l i) n = true) ∧ (q = mm ∨ okN (l q) n = false) ∧ Grow wc.heap.size w' (.slice pv q dv) q (nodT l) ∧ Below w0.heap.size w0 w' ∧ Below wc.heap.size wc w' from fun wc hc => by
    refine (nodesAhead_nil (some ⟨b, off, none⟩) n c wc).mono ?_
    rintro e w' ⟨rfl, hb⟩
    exact ⟨0, none, 0, rfl, by omega, fun i hi => by omega, Or.inl (by omega), Or.inl ⟨rfl, rfl⟩, keepB hc hb, hb⟩)
  have d0 := r0.c0
  have d1 := r1.c0
  have R0 := hidden r0
  have R1 := hidden r1
  have R2 := hidden r2
  have R3 := hidden r3
  have R4 := hidden r4
  have HB0 := hidden hB0
  have HS0 := hidden hS0
  have HH := hidden h
  have HSD := hidden hs
  have HMM := hidden hmm
  clear r0 r1 r2 r3 r4 hB0 hS0 h hs hmm
  gi_wp2
  rw [← hw0]
  clear hw0
  gi_cut [7] from 33 (fun t wc => ∃ (X : Nat) (v : Value) (q : Nat), t = .pointer (some ⟨X, 0, none⟩) ∧ Hid (w0.heap.size ≤ X ∧ wc.cell? ⟨X, 0, none⟩ = some v ∧ Grow w0.heap.size wc v q (nodT l) ∧ q ≤ mm ∧ (∀ i, i < q → okN (l i) n = true) ∧ (q = mm ∨ okN (l q) n = false) ∧ Below w0.heap.size w0 wc))
  case first =>
    refine wpIn_no ?_
    refine wpIn_wide.2 ?_
    refine wp_region_held_drew (S := fun wz => wz.cell? ⟨w.heap.size, 0, none⟩ = some (.slice (some ⟨b, off, none⟩) n c) ∧ wz.cell? ⟨w.heap.size + 1, 0, none⟩ = some (.slice none 0 0)) (by kernel_rfl) ⟨d0, d1⟩ (fun hHeld => ?_)
    have bb := (Below.refl w0.heap.size w0).drew
    refine wpAnyH_take (i := 0) (oi := { dst := some 10, op := Op.load 26 (Operand.tmp 2), type := 26, pos := "l05_pack.go:55", after := #[], guard := none }) (v := ?_) rfl (by kernel_rfl) (by kernel_rfl) (by kernel_rfl) (fun _ _ _ h => h) (Or.inl ⟨by rfl, ?_⟩) (by assumption) ?_
    rotate_left
    · (intro wv hSw; (try dsimp only at hSw); go_simp; try with_reducible rfl)
    try simp only [Act.put, List.setIfInBounds_toArray, List.set_cons_zero, List.set_cons_succ]
    refine wpAnyH_take (i := 1) (oi := { dst := some 11, op := Op.load 22 (Operand.tmp 3), type := 22, pos := "l05_pack.go:55", after := #[], guard := none }) (v := ?_) rfl (by kernel_rfl) (by kernel_rfl) (by kernel_rfl) (fun _ _ _ h => h) (Or.inl ⟨by rfl, ?_⟩) (by assumption) ?_
    rotate_left
    · (intro wv hSw; (try dsimp only at hSw); go_simp; try with_reducible rfl)
    try simp only [Act.put, List.setIfInBounds_toArray, List.set_cons_zero, List.set_cons_succ]
    refine wpAnyH_take (i := 2) (oi := { dst := some 12, op := Op.load 22 (Operand.tmp 3), type := 22, pos := "l05_pack.go:55", after := #[], guard := none }) (v := ?_) rfl (by kernel_rfl) (by kernel_rfl) (by kernel_rfl) (fun _ _ _ h => h) (Or.inl ⟨by rfl, ?_⟩) (by assumption) ?_
    rotate_left
    · (intro wv hSw; (try dsimp only at hSw); go_simp; try with_reducible rfl)
    try simp only [Act.put, List.setIfInBounds_toArray, List.set_cons_zero, List.set_cons_succ]
    refine wpAnyH_take (i := 3) (oi := { dst := some 13, op := Op.call { callee := Callee.builtin Builtin.len, args := #[Operand.tmp 12], argTypes := #[22] }, type := 3, pos := "l05_pack.go:55", after := #[{ on := 2, ground := Ground.data }], guard := none }) (v := ?_) rfl (by kernel_rfl) (by kernel_rfl) (by kernel_rfl) (fun _ _ _ h => h) (Or.inl ⟨by rfl, ?_⟩) (by assumption) ?_
    rotate_left
    · (intro wv hSw; (try dsimp only at hSw); go_simp; try with_reducible rfl)
    try simp only [Act.put, List.setIfInBounds_toArray, List.set_cons_zero, List.set_cons_succ]
    refine wpAnyH_take (i := 4) (oi := { dst := some 14, op := Op.call { callee := Callee.builtin Builtin.min, args := #[Operand.tmp 13, Operand.const (Value.int IntKind.i64 24)], argTypes := #[3, 3] }, type := 3, pos := "l05_pack.go:55", after := #[{ on := 3, ground := Ground.data }], guard := none }) (v := ?_) rfl (by kernel_rfl) (by kernel_rfl) (by kernel_rfl) (fun _ _ _ h => h) (Or.inl ⟨by rfl, ?_⟩) (by assumption) ?_
    rotate_left
    · (intro wv hSw; (try dsimp only at hSw); go_simp; try with_reducible rfl)
    try simp only [Act.put, List.setIfInBounds_toArray, List.set_cons_zero, List.set_cons_succ]
    refine wpAnyH_take (i := 5) (oi := { dst := some 15, op := Op.slice 22 (Operand.tmp 11) none (some (Operand.tmp 14)) none, type := 22, pos := "l05_pack.go:55", after := #[{ on := 1, ground := Ground.data }, { on := 4, ground := Ground.data }], guard := none }) (v := ?_) rfl (by kernel_rfl) (by kernel_rfl) (by kernel_rfl) (fun _ _ _ h => h) (Or.inl ⟨by rfl, ?_⟩) (by assumption) ?_
    rotate_left
    · (intro wv hSw; (try dsimp only at hSw); go_simp; try with_reducible rfl)
    try simp only [Act.put, List.setIfInBounds_toArray, List.set_cons_zero, List.set_cons_succ]
    refine wpAnyH_ready (rs := [6, 7]) (by kernel_rfl) (by simp) ?_
    refine AllReadyH.cons (o := { dst := some 16, op := Op.call { callee := Callee.value (Operand.func 77), args := #[Operand.tmp 10, Operand.tmp 15], argTypes := #[26, 22] }, type := 27, pos := "l05_pack.go:55", after := #[{ on := 0, ground := Ground.data }, { on := 5, ground := Ground.data }], guard := none }) rfl (fun K hK => ?_) (AllReadyH.cons (o := { dst := some 7, op := Op.alloc 27, type := 0, pos := "l05_pack.go:55", after := #[], guard := none }) rfl (fun K hK => ?_) AllReadyH.nil)
    · go_simp
      go_at_call 77; with_reducible refine (SC.out _ bb).mono ?_; rintro e v1 ⟨q, pv, dv, rfl, hq1, hq2, hq3, hgr, bb', hb5⟩
      try go_wp2_with fail
      refine hK.out _ _ ?_ (fun hHeld => ?_)
      · exact CK.out _ bb'
      clear hK K
      have hw0s := bb.size
      clear bb hb5
      have bb := bb'
      clear bb'
      try simp only [Act.put, List.setIfInBounds_toArray, List.set_cons_zero, List.set_cons_succ]
      refine wpAnyH_ready (rs := [7]) (by kernel_rfl) (by simp) ?_
      refine AllReadyH.cons (o := { dst := some 7, op := Op.alloc 27, type := 0, pos := "l05_pack.go:55", after := #[], guard := none }) rfl (fun K hK => ?_) AllReadyH.nil
      go_simp
      have hX0 := bb.size
      refine hK.out _ _ ?_ (fun hHeld => ?_)
      · exact CK.out _ (keepB bb (alloc_below _ _))
      clear hK K
      try simp only [Act.put, List.setIfInBounds_toArray, List.set_cons_zero, List.set_cons_succ]
      refine wpAnyH_ready (rs := [8]) (by kernel_rfl) (by simp) ?_
      refine AllReadyH.cons (o := { dst := none, op := Op.store 27 (Operand.tmp 7) (Operand.tmp 16), type := 0, pos := "l05_pack.go:55", after := #[{ on := 7, ground := Ground.data }, { on := 6, ground := Ground.data }, { on := 6, ground := Ground.chain }, { on := 0, ground := Ground.phase }, { on := 1, ground := Ground.phase }, { on := 2, ground := Ground.phase }, { on := 3, ground := Ground.phase }, { on := 4, ground := Ground.phase }, { on := 5, ground := Ground.phase }, { on := 6, ground := Ground.phase }, { on := 7, ground := Ground.phase }], guard := none }) rfl (fun K hK => ?_) AllReadyH.nil
      go_simp
      refine hK.out _ _ ?_ (fun hHeld => ?_)
      · exact CK.out _ (keepB bb (alloc_below _ _))
      clear hK K
      refine wpAnyH_done (by kernel_rfl) ?_ _
      try go_wp2_with fail
      first | go_meet | gi_meet
      exact ⟨_, _, q, rfl, hidden ⟨hX0, (Box1.new v1 (.slice pv q dv) 27).c0, (hgr.base hw0s).keep (alloc_below _ _), hq1, hq2, hq3, keepB bb (alloc_below _ _)⟩⟩
    · go_simp
      have RR := (Box1.new w0 (.slice none 0 0) 27).keep (Below.refl _ _).drew
      have hX0 := bb.size
      refine hK.out _ _ ?_ (fun hHeld => ?_)
      · exact CK.out _ (alloc_below _ _).drew
      clear hK K
      replace bb := (alloc_below w0 (.cells #[.slice none 0 0] 27)).drew
      try simp only [Act.put, List.setIfInBounds_toArray, List.set_cons_zero, List.set_cons_succ]
      refine wpAnyH_ready (rs := [6]) (by kernel_rfl) (by simp) ?_
      refine AllReadyH.cons (o := { dst := some 16, op := Op.call { callee := Callee.value (Operand.func 77), args := #[Operand.tmp 10, Operand.tmp 15], argTypes := #[26, 22] }, type := 27, pos := "l05_pack.go:55", after := #[{ on := 0, ground := Ground.data }, { on := 5, ground := Ground.data }], guard := none }) rfl (fun K hK => ?_) AllReadyH.nil
      go_simp
      go_at_call 77; with_reducible refine (SC.out _ bb).mono ?_; rintro e v1 ⟨q, pv, dv, rfl, hq1, hq2, hq3, hgr, bb', hb5⟩
      try go_wp2_with fail
      refine hK.out _ _ ?_ (fun hHeld => ?_)
      · exact CK.out _ bb'
      clear hK K
      have hXg := RR.blk
      replace RR := RR.keep hb5
      have hgb := fun q0 e0 => Nat.ne_of_gt (Nat.lt_of_lt_of_le hXg (hgr.block q0 e0))
      have hw0s := bb.size
      clear bb hb5
      have bb := bb'
      clear bb'
      try simp only [Act.put, List.setIfInBounds_toArray, List.set_cons_zero, List.set_cons_succ]
      refine wpAnyH_ready (rs := [8]) (by kernel_rfl) (by simp) ?_
      refine AllReadyH.cons (o := { dst := none, op := Op.store 27 (Operand.tmp 7) (Operand.tmp 16), type := 0, pos := "l05_pack.go:55", after := #[{ on := 7, ground := Ground.data }, { on := 6, ground := Ground.data }, { on := 6, ground := Ground.chain }, { on := 0, ground := Ground.phase }, { on := 1, ground := Ground.phase }, { on := 2, ground := Ground.phase }, { on := 3, ground := Ground.phase }, { on := 4, ground := Ground.phase }, { on := 5, ground := Ground.phase }, { on := 6, ground := Ground.phase }, { on := 7, ground := Ground.phase }], guard := none }) rfl (fun K hK => ?_) AllReadyH.nil
      have x0 := RR.c0
      have x1 := RR.f0
      go_simp
      refine hK.out _ _ ?_ (fun hHeld => ?_)
      · exact CK.out _ (bb.setCell (Nat.le_refl _) _)
      clear hK K
      refine wpAnyH_done (by kernel_rfl) ?_ _
      try go_wp2_with fail
      first | go_meet | gi_meet
      exact ⟨_, _, q, rfl, hidden ⟨Nat.le_refl _, World.cell?_setCell_same' _ _ _ (by rw [x0]; rfl), (hgr.base hw0s).set hgb _, hq1, hq2, hq3, bb.setCell (Nat.le_refl _) _⟩⟩
  case rest =>
    obtain ⟨X, v, q, rfl, HC⟩ := hcut
    have BC := hidden HC.out.2.2.2.2.2.2
    have GR := hidden HC.out.2.2.1
    have HQ := hidden (And.intro HC.out.2.2.2.1 HC.out.2.2.2.2.1)
    have HQ2 := hidden HC.out.2.2.2.2.2.1
    have XL := hidden HC.out.1
    have x0 := HC.out.2.1
    have c0 := (R0.out.keep BC.out).c0
    clear HC CK SC d0 d1
    obtain ⟨pv, dv, rfl⟩ := GR.out.val
    gi_wp2_with (refine ⟨trivial, ?_⟩; gi_at_call 64; refine (callsIn_wide.2 (placesOf_any _ _ _ _ _ _ _)).mono ?_; rintro e w' ⟨rfl, rfl⟩)
    obtain ⟨W1, hW1⟩ : ∃ W1, W1 = (wc.alloc (.cells #[.slice (some ⟨b, off, none⟩) n c] 26)).alloc (.cells #[.slice pv q dv] 27) := ⟨_, rfl⟩
    have b1 : Below wc.heap.size wc W1 := by rw [hW1]; exact ((Below.refl _ wc).alloc (Nat.le_refl _) _).alloc (by simp) _
    have s1 : W1.heap.size = wc.heap.size + 2 := by rw [hW1]; simp
    have y0 : Box1 W1 wc.heap.size (.slice (some ⟨b, off, none⟩) n c) := by rw [hW1]; exact (Box1.new wc _ _).keep (alloc_below _ _)
    have y1 : Box1 W1 (wc.heap.size + 1) (.slice pv q dv) := by
      rw [hW1]
      have := Box1.new (wc.alloc (.cells #[.slice (some ⟨b, off, none⟩) n c] 26)) (.slice pv q dv) 27
      rw [World.size_alloc] at this
      exact this
    have bw : Below w.heap.size w W1 := keepB (keepB HB0.out BC.out) b1
    have hw5 : w.heap.size + 5 ≤ wc.heap.size := by have := HS0.out; have := BC.out.size; omega
    have hbs : 0 < q → Nods n A q (nodT l) := fun h0 => absurd h0 (by have := HQ.out.1; have := HMM.out; omega)
    have hbb : b < w.heap.size := HH.out.blk HSD.out.least
    have hvo : ∀ g, (Value.slice pv q dv).ownBlock = some g → g < W1.heap.size ∧ g ≠ W1.heap.size := fun g hg => by have := GR.out.lt g hg; omega
    have K2 := hidden ((R2.out.keep BC.out).keep b1)
    have K3 := hidden ((R3.out.keep BC.out).keep b1)
    have K4 := hidden ((R4.out.keep BC.out).keep b1)
    have K1 := hidden ((R1.out.keep BC.out).keep b1)
    have G1 := hidden (GR.out.keep b1)
    have XW : W1.cell? ⟨X, 0, none⟩ = some (.slice pv q dv) := (b1.cell (p := ⟨X, 0, none⟩) (World.block_lt_of_cell? wc _ x0)).trans x0
    have XB : X < W1.heap.size := by have := World.block_lt_of_cell? wc _ x0; show X < _; simp at this; omega
    have HXW := hidden XW
    have S1 := hidden s1
    have BW := hidden bw
    clear XW
    rw [← hW1]
    clear hW1
    refine wpIn_rangeFunc_ownG rfl (by omega) (gf := 85) (lb := #[.pointer (some ⟨wc.heap.size + 1, 0, none⟩), .pointer (some ⟨wc.heap.size, 0, none⟩)]) rfl trivial (enters_of Try.func85 (by kernel_rfl) rfl)
      (plc_stops _ (by omega) (wc.heap.size + 1) wc.heap.size W1.heap.size W1.heap.size b off n c q w0.heap.size (.slice pv q dv) N A (nodT l) hbs ⟨by omega, by omega⟩ hvo ⟨by omega, by omega⟩ W1 y1.blk (Nat.le_refl _) y1.c0 y0.c0 (HH.out.keep bw) G1.out)
      butK_t (butK_b (Nat.le_refl _)) (Below.refl _ _) (fun _ => rfl)
      (fun pre W => (∀ p ∈ pre, p.1.2 ≠ 0) ∧ Below W1.heap.size W1 W)
      (fun cc pre W => False ∧ Below w.heap.size w W)
      (OwnFrom.and (Own.from (fun s A B row hs hg hr => hs) _) (ownFrom_below (Nat.le_refl _) (Nat.le_refl _)))
      (fun cc => OwnFrom.and (Own.from (fun s A B row hs hg hr => hs) _) (ownFrom_below (Nat.le_refl _) (by omega)))
      ⟨by simp, Below.refl _ _⟩
      (fun x => { tmps := #[.agg #[.slice (some ⟨b, off, none⟩) n c], .slice none 0 0, .pointer (some ⟨w.heap.size, 0, none⟩), .pointer (some ⟨w.heap.size + 1, 0, none⟩), .pointer (some ⟨w.heap.size + 1 + 1, 0, none⟩), .pointer (some ⟨w.heap.size + 1 + 1 + 1, 0, none⟩), .pointer (some ⟨w.heap.size + 1 + 1 + 1 + 1, 0, none⟩), .pointer (some ⟨X, 0, none⟩), .int .i64 (x.1.1 : Int), .int .i64 x.1.2, u10, u11, u12, u13, u14, u15, u16, .agg #[.slice (some ⟨b, off, none⟩) n c], .slice pv q dv, .func (.func 85) #[] #[.pointer (some ⟨wc.heap.size + 1, 0, none⟩), .pointer (some ⟨wc.heap.size, 0, none⟩)], .int .i64 (x.1.1 : Int), .int .i64 x.1.2, undef, undef, undef, undef, undef, undef, undef, undef, undef, undef, undef], defers := [] }) ?assign ?body ?done ?stop
    case assign =>
      intro l x W K hK
      gi_wp2
      exact hK
    case body =>
      rintro l2 pre x W ⟨hp, hB⟩ _
      exfalso
      have := x.2; have := HQ.out.1; have := HMM.out; omega
    case done =>
      rintro D ys W hD ⟨k, hk, hpos, hend, hys⟩ ⟨hne, hB⟩ hK
      have k2 : W.cell? ⟨w.heap.size + 1 + 1, 0, none⟩ = some (.slice none 0 0) := (K2.out.keep hB).c0
      have k3 : W.cell? ⟨w.heap.size + 1 + 1 + 1, 0, none⟩ = some (.slice none 0 0) := (K3.out.keep hB).c0
      have k4 : W.cell? ⟨w.heap.size + 1 + 1 + 1 + 1, 0, none⟩ = some (.bool false) := (K4.out.keep hB).c0
      have j2 : W.frozen? ⟨w.heap.size + 1 + 1, 0, none⟩ = false := (K2.out.keep hB).f0
      have j3 : W.frozen? ⟨w.heap.size + 1 + 1 + 1, 0, none⟩ = false := (K3.out.keep hB).f0
      have j4 : W.frozen? ⟨w.heap.size + 1 + 1 + 1 + 1, 0, none⟩ = false := (K4.out.keep hB).f0
      have HB := hidden (BW.out.trans (hB.mono BW.out.size))
      clear hpos hend hys hne hB
      gi_wp2
      have hK' := (((KeepsOthers.setCell W ⟨w.heap.size + 1 + 1, 0, none⟩ (.slice none 0 0)).trans (KeepsOthers.setCell _ ⟨w.heap.size + 1 + 1 + 1, 0, none⟩ (.slice none 0 0))).trans (KeepsOthers.setCell _ ⟨w.heap.size + 1 + 1 + 1 + 1, 0, none⟩ (.bool false))).same D _ hK rfl
      have m4 := World.cell?_setCell_same' ((W.setCell ⟨w.heap.size + 1 + 1, 0, none⟩ (.slice none 0 0)).setCell ⟨w.heap.size + 1 + 1 + 1, 0, none⟩ (.slice none 0 0)) ⟨w.heap.size + 1 + 1 + 1 + 1, 0, none⟩ (.bool false) (by rw [World.cell?_setCell_other _ _ _ _ (by simp), World.cell?_setCell_other _ _ _ _ (by simp), k4]; rfl)
      have m3 : (((W.setCell ⟨w.heap.size + 1 + 1, 0, none⟩ (.slice none 0 0)).setCell ⟨w.heap.size + 1 + 1 + 1, 0, none⟩ (.slice none 0 0)).setCell ⟨w.heap.size + 1 + 1 + 1 + 1, 0, none⟩ (.bool false)).cell? ⟨w.heap.size + 1 + 1 + 1, 0, none⟩ = some (.slice none 0 0) := by
        rw [World.cell?_setCell_other _ _ _ _ (by simp)]; exact World.cell?_setCell_same' _ _ _ (by rw [World.cell?_setCell_other _ _ _ _ (by simp), k3]; rfl)
      have m2 : (((W.setCell ⟨w.heap.size + 1 + 1, 0, none⟩ (.slice none 0 0)).setCell ⟨w.heap.size + 1 + 1 + 1, 0, none⟩ (.slice none 0 0)).setCell ⟨w.heap.size + 1 + 1 + 1 + 1, 0, none⟩ (.bool false)).cell? ⟨w.heap.size + 1 + 1, 0, none⟩ = some (.slice none 0 0) := by
        rw [World.cell?_setCell_other _ _ _ _ (by simp), World.cell?_setCell_other _ _ _ _ (by simp)]; exact World.cell?_setCell_same' _ _ _ (by rw [k2]; rfl)
      have HB4 := hidden (((HB.out.setCell (p := ⟨w.heap.size + 1 + 1, 0, none⟩) (by simp; omega) (.slice none 0 0)).setCell (p := ⟨w.heap.size + 1 + 1 + 1, 0, none⟩) (by simp; omega) (.slice none 0 0)).setCell (p := ⟨w.heap.size + 1 + 1 + 1 + 1, 0, none⟩) (by simp; omega) (.bool false))
      generalize (((W.setCell ⟨w.heap.size + 1 + 1, 0, none⟩ (.slice none 0 0)).setCell ⟨w.heap.size + 1 + 1 + 1, 0, none⟩ (.slice none 0 0)).setCell ⟨w.heap.size + 1 + 1 + 1 + 1, 0, none⟩ (.bool false)) = W4 at *
      refine ⟨by simp, .inl ⟨_, _, rfl, run_takeDeferred hK', ?_⟩⟩
      have n2 := cell_kept m2 (grownBy_putObj' _ D (.deferred none)) (fun r e => by cases e; exact ⟨_, hK', rfl⟩)
      have n3 := cell_kept m3 (grownBy_putObj' _ D (.deferred none)) (fun r e => by cases e; exact ⟨_, hK', rfl⟩)
      have n4 := cell_kept m4 (grownBy_putObj' _ D (.deferred none)) (fun r e => by cases e; exact ⟨_, hK', rfl⟩)
      refine ⟨.tuple #[.slice none 0 0, .slice none 0 0, .bool false], ?_, rfl, HB4.out.trans (belowK_b (w := w) (Nat.le_refl _) _ D _ _ (by omega) hK' rfl rfl)⟩
      simp [results, Try.f48, go_sem, n2, n3, n4]
    case stop =>
      rintro D cc pre W hD _ ⟨h, _⟩ _
      exact h.elim

end Go.Proofs.Ytjjpkhlbokfjpaa

/- Contracts: the two terms of a key: CutKey of the model. -/
namespace Go.Proofs.Ytjjpkhlbokfjpaa
open Go.RowKit

/-- A block of three cells that may be written. -/
structure Res3 (w : World) (b : Nat) (x y z : Value) : Prop where
  blk : b < w.heap.size
  c0 : w.cell? ⟨b, 0, none⟩ = some x
  c1 : w.cell? ⟨b, 1, none⟩ = some y
  c2 : w.cell? ⟨b, 2, none⟩ = some z
  f0 : w.frozen? ⟨b, 0, none⟩ = false
  f1 : w.frozen? ⟨b, 1, none⟩ = false
  f2 : w.frozen? ⟨b, 2, none⟩ = false

theorem Res3.new (w : World) (x y z : Value) (t : TypeId) : Res3 (w.alloc (.cells #[x, y, z] t)) w.heap.size x y z := by
  refine ⟨by simp, ?_, ?_, ?_, ?_, ?_, ?_⟩ <;> simp [go_sem]

theorem Res3.keep {w w' : World} {b : Nat} {x y z : Value} (h : Res3 w b x y z) (hb : Below w.heap.size w w') : Res3 w' b x y z :=
  ⟨Nat.lt_of_lt_of_le h.blk hb.size, by rw [(bcell hb).1 _ _ h.blk]; exact h.c0, by rw [(bcell hb).1 _ _ h.blk]; exact h.c1, by rw [(bcell hb).1 _ _ h.blk]; exact h.c2,
   by rw [(bcell hb).2 _ _ h.blk]; exact h.f0, by rw [(bcell hb).2 _ _ h.blk]; exact h.f1, by rw [(bcell hb).2 _ _ h.blk]; exact h.f2⟩

open Classical in
/-- What CutKey answers: its code. -/
noncomputable def ckC (n : Nat) (N : Nat → ByteArray) (A : Nat → Int) (m : Nat) (l : Nat → Int) : Int :=
  if faultF n N A = 0 then (if CutP n A m l then 0 else 5) else faultF n N A

section
variable {n : Nat} {N : Nat → ByteArray} {A : Nat → Int} {m : Nat} {l : Nat → Int}
theorem ck_fault (h : faultF n N A ≠ 0) : ckC n N A m l = faultF n N A := by rw [ckC, if_neg h]
theorem ck_text (h : faultF n N A = 0) (hk : ¬ CutP n A m l) : ckC n N A m l = 5 := by rw [ckC, if_pos h, if_neg hk]
theorem ck_ok (h : faultF n N A = 0) (hk : CutP n A m l) : ckC n N A m l = 0 := by rw [ckC, if_pos h, if_pos hk]
end

end Go.Proofs.Ytjjpkhlbokfjpaa

/- Contracts: UnpackTerm of the program; two terms cut off one behind the other. -/
namespace Go.Proofs.Ytjjpkhlbokfjpaa
open Go.RowKit

set_option maxRecDepth 20000 in
set_option maxHeartbeats 1600000 in
theorem implUnpack_any (b off n c b' off' m c' : Nat) (N : Nat → ByteArray) (A l : Nat → Int) (w : World) (h : Syms w b off n N A) (h' : Byts w (some ⟨b', off', none⟩) m l) (hb' : b' < w.heap.size) (hk : Kept n N A) (hm : m ≤ 1048576) (hmc : m ≤ c') :
    Calls Try.prog 18 #[.agg #[.slice (some ⟨b, off, none⟩) n c], .slice (some ⟨b', off', none⟩) m c'] w fun e w' => ListAns w (upC n N A m l) m (nodT l) e w' ∧ Below w.heap.size w w' := by
  have D := hidden ((One.new w (.slice (some ⟨b, off, none⟩) n c) 26).keep (alloc_below _ (.cells #[.int .i64 0, .slice none 0 0] 31)))
  have R := hidden (Res.new (w.alloc (.cells #[.slice (some ⟨b, off, none⟩) n c] 26)) (.int .i64 0) (.slice none 0 0) 31)
  have B := hidden (keepB (alloc_below w (.cells #[.slice (some ⟨b, off, none⟩) n c] 26)) (alloc_below _ (.cells #[.int .i64 0, .slice none 0 0] 31)))
  have Q := hidden (h.keep B.out)
  have I := hidden (h'.keep B.out)
  have LB := hidden (Nat.lt_of_lt_of_le hb' B.out.size)
  have HK := hidden hk
  rw [World.size_alloc] at R
  clear h h' hk hb'
  go_enter Try.func18, Try.ntmps18
  go_wp2_with fail
  with_reducible refine (implFault_all _ _ _ _ N A _ Q.out HK.out).mono ?_
  rintro e w1 ⟨rfl, hb⟩
  replace D := hidden (D.out.keep hb)
  replace R := hidden (R.out.keep hb)
  replace B := hidden (keepB B.out hb)
  replace I := hidden (I.out.keep hb)
  replace Q := hidden (Q.out.keep hb)
  replace LB := hidden (Nat.lt_of_lt_of_le LB.out hb.size)
  clear hb
  by_cases hf : faultF n N A = 0
  · have HF := hidden hf
    have HS := hidden (fault_sound hf)
    rw [hf]
    clear hf
    have d0 := D.out.c0
    go_wp2_with fail
    with_reducible refine (cutTerm_reg _ _ _ _ _ _ m c' N A l _ Q.out HS.out hm hmc LB.out I.out).mono ?_
    rintro r w3 ⟨ha, hb⟩
    have hR := R.out.blk
    have hBs := B.out.size
    replace R := hidden (R.out.keep hb)
    replace B := hidden (keepB B.out hb)
    clear hb D I Q d0 LB
    rcases ha with ⟨h0, rfl⟩ | ⟨h0, g, d, o2, c2, rfl, hgg, ho, hcc, _⟩
    · have HC := hidden (up_text (m := m) (l := l) HF.out (by rw [h0]; simp))
      clear h0
      obtain ⟨_, q0, q1, f0, f1⟩ := id R.out
      go_wp2
      exact bodyPost_ret (v := .agg #[.int .i64 5, .slice none 0 0]) (by simp [results, Try.results18, go_sem, q0, q1]) rfl ⟨Or.inl ⟨by rw [HC.out]; decide, by rw [HC.out]⟩, (B.out.setCell (by simp) _).setCell (by simp) _⟩
    · have hle := (rd_le (n := n) (A := A) (m := m) (l := l)).1
      by_cases hk : rdK n A m l = m
      · have HC := hidden (up_ok (m := m) (l := l) HF.out ⟨by omega, hk⟩)
        rw [hk] at ho hcc ⊢
        have O := hidden ho
        have hm0 : 0 < m := by omega
        have e0 : m - m = 0 := by omega
        rw [e0] at hcc ⊢
        clear hk ho hle h0
        obtain ⟨_, q0, q1, f0, f1⟩ := id R.out
        go_wp2
        exact bodyPost_ret (v := .agg #[.int .i64 0, .slice (some ⟨g, 0, none⟩) m d]) (by simp [results, Try.results18, go_sem, q0, q1]) rfl ⟨Or.inr ⟨HC.out, g, d, rfl, by omega, ((O.out.other _ _ (by simp; omega)).other _ _ (by simp; omega)).base (by omega)⟩, (B.out.setCell (by simp) _).setCell (by simp) _⟩
      · have HC := hidden (up_text (m := m) (l := l) HF.out (fun h => hk h.2))
        generalize rdK n A m l = K at h0 hle hk hcc ⊢
        obtain ⟨r, hr⟩ : ∃ r, r = m - K := ⟨_, rfl⟩
        have hr0 : 0 < r := by omega
        rw [← hr] at hcc ⊢
        clear hk ho hle h0 hr
        obtain ⟨_, q0, q1, f0, f1⟩ := id R.out
        go_wp2
        exact bodyPost_ret (v := .agg #[.int .i64 5, .slice none 0 0]) (by simp [results, Try.results18, go_sem, q0, q1]) rfl ⟨Or.inl ⟨by rw [HC.out]; decide, by rw [HC.out]⟩, (B.out.setCell (by simp) _).setCell (by simp) _⟩
  · have HN := hidden hf
    have HC := hidden (up_fault (m := m) (l := l) hf)
    have hf' : (faultF n N A != 0) = true := by simpa using hf
    generalize faultF n N A = z at hf' HN HC ⊢
    clear hf
    obtain ⟨_, q0, q1, f0, f1⟩ := id R.out
    go_wp2
    exact bodyPost_ret (v := .agg #[.int .i64 z, .slice none 0 0]) (by simp [results, Try.results18, go_sem, q0, q1]) rfl ⟨Or.inl ⟨by rw [HC.out]; exact HN.out, by rw [HC.out]⟩, (B.out.setCell (by simp) _).setCell (by simp) _⟩

end Go.Proofs.Ytjjpkhlbokfjpaa

/- Contracts: UnpackTerm of the program where there are no bytes at all. -/
namespace Go.Proofs.Ytjjpkhlbokfjpaa
open Go.RowKit

theorem rdK_none {n : Nat} {A l : Nat → Int} : rdK n A 0 l = 0 := by have := (rd_le (n := n) (A := A) (m := 0) (l := l)).1; omega

set_option maxRecDepth 20000 in
set_option maxHeartbeats 1600000 in
theorem implUnpack_none (b off n c : Nat) (N : Nat → ByteArray) (A l : Nat → Int) (w : World) (h : Syms w b off n N A) (hk : Kept n N A) :
    Calls Try.prog 18 #[.agg #[.slice (some ⟨b, off, none⟩) n c], .slice none 0 0] w fun e w' => ListAns w (upC n N A 0 l) 0 (nodT l) e w' ∧ Below w.heap.size w w' := by
  have D := hidden ((One.new w (.slice (some ⟨b, off, none⟩) n c) 26).keep (alloc_below _ (.cells #[.int .i64 0, .slice none 0 0] 31)))
  have R := hidden (Res.new (w.alloc (.cells #[.slice (some ⟨b, off, none⟩) n c] 26)) (.int .i64 0) (.slice none 0 0) 31)
  have B := hidden (keepB (alloc_below w (.cells #[.slice (some ⟨b, off, none⟩) n c] 26)) (alloc_below _ (.cells #[.int .i64 0, .slice none 0 0] 31)))
  have Q := hidden (h.keep B.out)
  have HK := hidden hk
  rw [World.size_alloc] at R
  clear h hk
  go_enter Try.func18, Try.ntmps18
  go_wp2_with fail
  with_reducible refine (implFault_all _ _ _ _ N A _ Q.out HK.out).mono ?_
  rintro e w1 ⟨rfl, hb⟩
  replace D := hidden (D.out.keep hb)
  replace R := hidden (R.out.keep hb)
  replace B := hidden (keepB B.out hb)
  replace Q := hidden (Q.out.keep hb)
  clear hb
  by_cases hf : faultF n N A = 0
  · have HF := hidden hf
    have HS := hidden (fault_sound hf)
    have HC := hidden (up_text (m := 0) (l := l) hf (by rw [rdK_none]; simp))
    rw [hf]
    clear hf
    have d0 := D.out.c0
    go_wp2_with fail
    with_reducible refine (cutTerm_nil _ _ _ _ N A _ Q.out HS.out).mono ?_
    rintro r w3 ⟨rfl, hb⟩
    replace R := hidden (R.out.keep hb)
    replace B := hidden (keepB B.out hb)
    clear hb D Q d0
    obtain ⟨_, q0, q1, f0, f1⟩ := id R.out
    go_wp2
    exact bodyPost_ret (v := .agg #[.int .i64 5, .slice none 0 0]) (by simp [results, Try.results18, go_sem, q0, q1]) rfl ⟨Or.inl ⟨by rw [HC.out]; decide, by rw [HC.out]⟩, (B.out.setCell (by simp) _).setCell (by simp) _⟩
  · have HN := hidden hf
    have HC := hidden (up_fault (m := 0) (l := l) hf)
    have hf' : (faultF n N A != 0) = true := by simpa using hf
    generalize faultF n N A = z at hf' HN HC ⊢
    clear hf
    obtain ⟨_, q0, q1, f0, f1⟩ := id R.out
    go_wp2
    exact bodyPost_ret (v := .agg #[.int .i64 z, .slice none 0 0]) (by simp [results, Try.results18, go_sem, q0, q1]) rfl ⟨Or.inl ⟨by rw [HC.out]; exact HN.out, by rw [HC.out]⟩, (B.out.setCell (by simp) _).setCell (by simp) _⟩

end Go.Proofs.Ytjjpkhlbokfjpaa
