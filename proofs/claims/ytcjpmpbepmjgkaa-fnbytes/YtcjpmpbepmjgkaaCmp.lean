/- Contracts: the order of bytes, as the model and as the program tells it. -/
import Derived.Test.YtcjpmpbepmjgkaaSum
import Derived.Test.YtcjpmpbepmjgkaaLists
import Derived.Lib.BytesEntry
namespace Go.Proofs.Ytcjpmpbepmjgkaa
open Go.RowKit

set_option maxHeartbeats 800000 in
theorem l1Order_any (b off n c b' off' m c' : Nat) (l r : List Int) (w : World) (h : Row w b off n l) (h' : Row w b' off' m r) :
    Calls Try.prog 32 #[.slice (some ⟨b, off, none⟩) n c, .slice (some ⟨b', off', none⟩) m c'] w fun e w' => e = .returned (.int .i64 (ordL l r)) ∧ ∃ q, w' = w.drewN q := by
  have hmx := h.most
  have hmx' := h'.most
  have HL : Hid _ := h.len
  have HL' : Hid _ := h'.len
  generalize hB : ordL l r = B
  have HB : Hid _ := hB
  clear hB
  go_enter Try.func32, Try.ntmps32
  go_wp2
  go_loopw [5] (fun i wr => ∃ k : Nat, k ≤ n ∧ k ≤ m ∧ i = .int .i64 k ∧ Hid (ordL l r = ordL (l.drop k) (r.drop k)) ∧ ∃ q, wr = w.drewN q) (fun i _ => m - (intOf i).toNat)
  case atStart => exact ⟨0, Nat.zero_le _, Nat.zero_le _, rfl, rfl, 0, rfl⟩
  case round =>
    obtain ⟨k, hk, hk', rfl, HT, q, rfl⟩ := hrel
    by_cases hlt : k < n ∧ k < m
    · obtain ⟨h1, h2⟩ := hlt
      have c1 := h.cell k h1
      have c2 := h'.cell k h2
      have hb := h.byt k
      have hb' := h'.byt k
      by_cases hx : l.getD k 0 < r.getD k 0
      · have HF : Hid _ := ordL_lt l r k (by rw [HL.out]; omega) (by rw [HL'.out]; omega) hx
        generalize r.getD k 0 = x at *
        generalize l.getD k 0 = y at *
        go_wp2
        go_quiet (fail)
        go_wp2
        go_ret
        rw [← HB.out, HT.out, HF.out]
        exact ⟨rfl, _, by rw [World.drewN_drewN]⟩
      · by_cases hy : r.getD k 0 < l.getD k 0
        · have HF : Hid _ := ordL_gt l r k (by rw [HL.out]; omega) (by rw [HL'.out]; omega) hy
          generalize r.getD k 0 = x at *
          generalize l.getD k 0 = y at *
          go_wp2
          go_quiet (fail)
          go_wp2
          go_quiet (fail)
          go_wp2
          go_ret
          rw [← HB.out, HT.out, HF.out]
          exact ⟨rfl, _, by rw [World.drewN_drewN, World.drewN_drewN]⟩
        · have HF : Hid _ := ordL_same l r k (by rw [HL.out]; omega) (by rw [HL'.out]; omega) hx hy
          generalize r.getD k 0 = x at *
          generalize l.getD k 0 = y at *
          go_wp2
          go_quiet (fail)
          go_wp2
          go_quiet (fail)
          go_wp2
          go_roundw
          case rel => exact ⟨k + 1, by omega, by omega, by go_num, HT.out.trans HF.out, _, rfl⟩
          case measure => simp [intOf]; omega
    · have HE : Hid _ := ordL_end l r k (by rw [HL.out, HL'.out]; omega) (by rw [HL.out]; omega) (by rw [HL'.out]; omega)
      rw [HL.out, HL'.out] at HE
      rcases Nat.lt_trichotomy n m with e | e | e
      · have e1 : decide (k < n) = false := by simp; omega
        have e3 : (n : Int) < (m : Int) := by omega
        rw [if_pos e] at HE
        clear hlt e
        go_wp2
        go_ret
        rw [← HB.out, HT.out, HE.out]
        exact ⟨rfl, _, rfl⟩
      · subst e
        have e1 : decide (k < n) = false := by simp; omega
        rw [if_neg (by omega), if_neg (by omega)] at HE
        clear hlt
        go_wp2
        go_ret
        rw [← HB.out, HT.out, HE.out]
        exact ⟨rfl, _, rfl⟩
      · have e1 : (k : Int) < (n : Int) := by omega
        have e2 : ¬ (k : Int) < (m : Int) := by omega
        have e3 : (m : Int) < (n : Int) := by omega
        rw [if_neg (by omega), if_pos e] at HE
        clear hlt e
        go_wp2
        go_ret
        rw [← HB.out, HT.out, HE.out]
        exact ⟨rfl, _, rfl⟩

theorem run_compareSlices {P : Program} (b off n c b' off' m c' : Nat) (l r : List Int) (w : World) (h : Row w b off n l) (h' : Row w b' off' m r) :
    (Extern.BytealgCompare.compare #[.slice (some ⟨b, off, none⟩) n c, .slice (some ⟨b', off', none⟩) m c']).run P w = .ok (.int .i64 (ordL l r)) w := by
  have key : ∀ (b off n : Nat) (l : List Int), Row w b off n l → (Extern.Bytes.loadBytes ⟨b, off, none⟩ n .empty).run P w = .ok ⟨(Lib.bytesOf l).toArray⟩ w := by
    intro b off n l h
    have hl := Lib.run_loadBytesX (P := P) w l ⟨b, off, none⟩ .empty (fun j x hj => by
      have hjl : j < l.length := (List.getElem?_eq_some_iff.1 hj).1
      have e : (⟨b, off, none⟩ : Addr).add j = ⟨b, off + j, none⟩ := by unfold Addr.add; split <;> simp_all
      have := h.len
      rw [e, h.cell j (by omega), List.getD_eq_getElem?_getD, hj]
      rfl)
    rw [h.len] at hl
    rw [hl]
    congr 1
    apply ByteArray.ext
    show (#[] : Array UInt8) ++ (Lib.bytesOf l).toArray = (Lib.bytesOf l).toArray
    simp
  change Sem.run P (do pure (goInt (Extern.BytealgCompare.cmp (← Extern.Bytes.bytesOf (.slice (some ⟨b, off, none⟩) n c)) (← Extern.Bytes.bytesOf (.slice (some ⟨b', off', none⟩) m c'))))) w = _
  simp only [Extern.Bytes.bytesOf, Sem.run_bind, Sem.run_pure, key _ _ _ _ h, key _ _ _ _ h', Result.andThen]
  rw [Lib.cmp_eq]
  have e := cmp_ordL l r (byt_of l h.byt) (byt_of r h'.byt)
  rw [← e]
  rfl

theorem ordL_bd : ∀ (a b : List Int), -1 ≤ ordL a b ∧ ordL a b ≤ 1
  | [], [] => by simp [ordL]
  | [], _ :: _ => by simp [ordL]
  | _ :: _, [] => by simp [ordL]
  | a :: p, b :: q => by
    have := ordL_bd p q
    simp only [ordL]
    split
    · omega
    · split <;> omega

set_option maxHeartbeats 400000 in
theorem bytesCompare_any (b off n c b' off' m c' : Nat) (l r : List Int) (w : World) (h : Row w b off n l) (h' : Row w b' off' m r) :
    Calls Try.prog 31 #[.slice (some ⟨b, off, none⟩) n c, .slice (some ⟨b', off', none⟩) m c'] w fun e w' => e = .returned (.int .i64 (ordL l r)) ∧ w' = w := by
  go_enter Try.func31, Try.ntmps31
  go_wp2
  rw [run_callFunc_extern Try.func34 (by kernel_rfl) (by kernel_rfl) (by kernel_rfl) (e := Extern.BytealgCompare.compare) (by kernel_rfl), run_compareSlices _ _ _ _ _ _ _ _ l r _ h h']
  simp only [Result.andThen]
  rw [Oper.upon_value]
  go_wp2
  go_ret
  exact ⟨rfl, rfl⟩

def cmpC (l r : List Int) : Int := if 2000 < l.length ∨ 2000 < r.length then 2 else 0
def cmpV (l r : List Int) : Int := if 2000 < l.length ∨ 2000 < r.length then 0 else ordL l r

set_option maxHeartbeats 400000 in
theorem specCmp_many (p p' : Option Addr) (n c m c' : Nat) (w : World) (hn : 2000 < n ∨ 2000 < m) :
    Calls Try.prog 17 #[.slice p n c, .slice p' m c'] w fun e w' => e = .returned (.agg #[.int .i64 2, .int .i64 0]) ∧ Below w.heap.size w w' := by
  by_cases h1 : 2000 < n
  · go_enter Try.func17, Try.ntmps17
    go_wp2
    exact bodyPost_ret (v := .agg #[.int .i64 2, .int .i64 0]) (by simp [results, Try.results17, go_sem]) rfl ⟨rfl, (Below.refl _ _).alloc (Nat.le_refl _) _⟩
  · have h2 : 2000 < m := hn.resolve_left h1
    have h3 : decide (2000 < (n : Int)) = false := by simp; omega
    clear hn
    go_enter Try.func17, Try.ntmps17
    go_wp2
    exact bodyPost_ret (v := .agg #[.int .i64 2, .int .i64 0]) (by simp [results, Try.results17, go_sem]) rfl ⟨rfl, (Below.refl _ _).alloc (Nat.le_refl _) _⟩

set_option maxHeartbeats 400000 in
theorem specCmp_any (b off n c b' off' m c' : Nat) (l r : List Int) (w : World) (h : Row w b off n l) (h' : Row w b' off' m r) (hn : ¬ (2000 < n ∨ 2000 < m)) :
    Calls Try.prog 17 #[.slice (some ⟨b, off, none⟩) n c, .slice (some ⟨b', off', none⟩) m c'] w fun e w' => e = .returned (.agg #[.int .i64 0, .int .i64 (ordL l r)]) ∧ Below w.heap.size w w' := by
  have h3 : decide (2000 < (n : Int)) = false := by simp; omega
  have h4 : ¬ 2000 < (m : Int) := by omega
  generalize hB : ordL l r = B
  have HB : Hid _ := hB
  clear hB hn
  go_enter Try.func17, Try.ntmps17
  go_wp2_with fail
  refine (l1Order_any _ _ _ _ _ _ _ _ l r _ (h.later ((Below.refl _ _).alloc (Nat.le_refl _) _) h.blk) (h'.later ((Below.refl _ _).alloc (Nat.le_refl _) _) h'.blk)).mono ?_
  rw [HB.out]
  rintro e w' ⟨rfl, q, rfl⟩
  go_wp2
  exact bodyPost_ret (v := .agg #[.int .i64 0, .int .i64 B]) (by simp [results, Try.results17, go_sem]) rfl ⟨rfl, ((below_drewN ((Below.refl _ _).alloc (Nat.le_refl _) _) _).setCell (by simp) _).setCell (by simp) _⟩

set_option maxHeartbeats 400000 in
theorem implCmp_many (p p' : Option Addr) (n c m c' : Nat) (w : World) (hn : 2000 < n ∨ 2000 < m) :
    Calls Try.prog 16 #[.slice p n c, .slice p' m c'] w fun e w' => e = .returned (.agg #[.int .i64 2, .int .i64 0]) ∧ Below w.heap.size w w' := by
  by_cases h1 : 2000 < n
  · go_enter Try.func16, Try.ntmps16
    go_wp2
    exact bodyPost_ret (v := .agg #[.int .i64 2, .int .i64 0]) (by simp [results, Try.results16, go_sem]) rfl ⟨rfl, (Below.refl _ _).alloc (Nat.le_refl _) _⟩
  · have h2 : 2000 < m := hn.resolve_left h1
    have h3 : decide (2000 < (n : Int)) = false := by simp; omega
    clear hn
    go_enter Try.func16, Try.ntmps16
    go_wp2
    exact bodyPost_ret (v := .agg #[.int .i64 2, .int .i64 0]) (by simp [results, Try.results16, go_sem]) rfl ⟨rfl, (Below.refl _ _).alloc (Nat.le_refl _) _⟩

set_option maxHeartbeats 400000 in
theorem implCmp_any (b off n c b' off' m c' : Nat) (l r : List Int) (w : World) (h : Row w b off n l) (h' : Row w b' off' m r) (hn : ¬ (2000 < n ∨ 2000 < m)) :
    Calls Try.prog 16 #[.slice (some ⟨b, off, none⟩) n c, .slice (some ⟨b', off', none⟩) m c'] w fun e w' => e = .returned (.agg #[.int .i64 0, .int .i64 (ordL l r)]) ∧ Below w.heap.size w w' := by
  have h3 : decide (2000 < (n : Int)) = false := by simp; omega
  have h4 : ¬ 2000 < (m : Int) := by omega
  have hbd := ordL_bd l r
  generalize hB : ordL l r = B at hbd
  have HB : Hid _ := hB
  clear hB hn
  go_enter Try.func16, Try.ntmps16
  go_wp2_with fail
  refine (bytesCompare_any _ _ _ _ _ _ _ _ l r _ (h.later ((Below.refl _ _).alloc (Nat.le_refl _) _) h.blk) (h'.later ((Below.refl _ _).alloc (Nat.le_refl _) _) h'.blk)).mono ?_
  rw [HB.out]
  rintro e w' ⟨rfl, rfl⟩
  go_wp2
  exact bodyPost_ret (v := .agg #[.int .i64 0, .int .i64 B]) (by simp [results, Try.results16, go_sem]) rfl ⟨rfl, (Below.refl _ _).alloc (Nat.le_refl _) _⟩

theorem specCmp_all (b off n c b' off' m c' : Nat) (l r : List Int) (w : World) (h : Row w b off n l) (h' : Row w b' off' m r) :
    Calls Try.prog 17 #[.slice (some ⟨b, off, none⟩) n c, .slice (some ⟨b', off', none⟩) m c'] w fun e w' => e = .returned (.agg #[.int .i64 (cmpC l r), .int .i64 (cmpV l r)]) ∧ Below w.heap.size w w' := by
  rw [cmpC, cmpV, h.len, h'.len]
  by_cases hn : 2000 < n ∨ 2000 < m
  · rw [if_pos hn, if_pos hn]
    exact specCmp_many _ _ _ _ _ _ _ hn
  · rw [if_neg hn, if_neg hn]
    exact specCmp_any _ _ _ _ _ _ _ _ _ _ _ h h' hn

theorem implCmp_all (b off n c b' off' m c' : Nat) (l r : List Int) (w : World) (h : Row w b off n l) (h' : Row w b' off' m r) :
    Calls Try.prog 16 #[.slice (some ⟨b, off, none⟩) n c, .slice (some ⟨b', off', none⟩) m c'] w fun e w' => e = .returned (.agg #[.int .i64 (cmpC l r), .int .i64 (cmpV l r)]) ∧ Below w.heap.size w w' := by
  rw [cmpC, cmpV, h.len, h'.len]
  by_cases hn : 2000 < n ∨ 2000 < m
  · rw [if_pos hn, if_pos hn]
    exact implCmp_many _ _ _ _ _ _ _ hn
  · rw [if_neg hn, if_neg hn]
    exact implCmp_any _ _ _ _ _ _ _ _ _ _ _ h h' hn

end Go.Proofs.Ytcjpmpbepmjgkaa
