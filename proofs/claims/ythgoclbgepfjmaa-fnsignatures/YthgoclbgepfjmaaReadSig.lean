/- Contracts: ReadSignature of the model and of the program. -/
import Derived.Test.YthgoclbgepfjmaaRead
namespace Go.Proofs.Ythgoclbgepfjmaa
open Go.RowKit

/-- The bytes are those of a right signature, and nothing else. -/
def whole (l : List Int) : Prop := 0 < l.length ∧ good l (l.getD 0 0).toNat ∧ pos l (l.getD 0 0).toNat = l.length

/-- The answer of ReadSignature: ErrText and nothing, or 0 and the signature. -/
def SigAns (w : World) (l : List Int) (e : Ending) (w' : World) : Prop :=
  (¬ whole l ∧ e = .returned (.agg #[.int .i64 5, .slice none 0 0])) ∨
  (whole l ∧ ∃ g d, e = .returned (.agg #[.int .i64 0, .slice (some ⟨g, 0, none⟩) (l.getD 0 0).toNat d]) ∧ w.heap.size ≤ g ∧ OwnS w' w.heap.size g (l.getD 0 0).toNat d (nmOf l) (arOf l) (l.getD 0 0).toNat)

theorem good_pos {l : List Int} {q : Nat} (h : good l q) : 1 ≤ q := (fault_right h.2.2).least

theorem SymRow.ownS {w : World} {B k : Nat} {v : Value} {N : Nat → ByteArray} {A : Nat → Int} (h : SymRow w B v k N A) (hk : 1 ≤ k) : ∃ g d, v = .slice (some ⟨g, 0, none⟩) k d ∧ B ≤ g ∧ OwnS w B g k d N A k := by
  obtain ⟨xs, ho, hx⟩ := h
  rcases ho.2 with ⟨_, h0⟩ | ⟨g, d, cur, rfl, h2, _⟩
  · omega
  · exact ⟨g, d, rfl, h2, xs, ho, hx⟩

theorem pos_ge (l : List Int) : ∀ k, 1 ≤ pos l k
  | 0 => Nat.le_refl _
  | k + 1 => by have := pos_ge l k; rw [pos_succ]; omega

/-- A result that tells ErrText. -/
def errSig : Value := .agg #[.int .i64 5, .slice none 0 0]

set_option maxRecDepth 20000 in
set_option maxHeartbeats 1600000 in
theorem specRead_none (p : Option Addr) (c : Nat) (l : List Int) (w : World) (hl : l.length = 0) :
    Calls Try.prog 14 #[.slice p 0 c] w fun e w' => SigAns w l e w' ∧ Below w.heap.size w w' := by
  have HN := hidden (show ¬ whole l from fun h => by have := h.1; omega)
  go_enter Try.func14, Try.ntmps14
  go_wp2_with fail
  refine (l2Read_none _ _ _).mono ?_
  rintro e w1 ⟨rfl, hb⟩
  have R := hidden (((Res.new w (.int .i64 0) (.slice none 0 0) 33).keep hb).keep (alloc_below w1 (.cells #[.slice none 0 0] 26)))
  have B := hidden (keepB (keepB (alloc_below w _) hb) (alloc_below w1 (.cells #[.slice none 0 0] 26)))
  obtain ⟨_, q0, q1, f0, f1⟩ := id R.out
  unfold noRead
  clear hb
  go_wp2
  exact bodyPost_ret (v := errSig) (by simp [results, Try.results14, go_sem, q0, q1, errSig]) rfl ⟨Or.inl ⟨HN.out, rfl⟩, (B.out.setCell (by simp) _).setCell (by simp) _⟩

set_option maxRecDepth 20000 in
set_option maxHeartbeats 3200000 in
theorem specRead_any (b n c : Nat) (l : List Int) (w : World) (h : Byt.Row w b 0 n l) (hc : n ≤ c) (hx : n ≤ 1048576 ∧ c ≤ 9223372036854775807) (hn : 0 < n) :
    Calls Try.prog 14 #[.slice (some ⟨b, 0, none⟩) n c] w fun e w' => SigAns w l e w' ∧ Below w.heap.size w w' := by
  obtain ⟨q, hq⟩ : ∃ q : Nat, l.getD 0 0 = q := ⟨(l.getD 0 0).toNat, by have := h.byt 0; omega⟩
  have HQ := hidden hq
  have HL := hidden h.len
  have hqt : (l.getD 0 0).toNat = q := by omega
  have HQT := hidden hqt
  have C := hidden (l2Read_any b n c l (w.alloc (.cells #[.int .i64 0, .slice none 0 0] 33)) (h.later (alloc_below _ _) h.blk) hc hx hn q hq)
  clear h hq hqt
  go_enter Try.func14, Try.ntmps14
  go_wp2_with fail
  refine C.out.mono ?_
  rintro e w1 ⟨ha, hb⟩
  rcases ha with ⟨hg, v, rfl, hrow⟩ | ⟨hg, rfl⟩
  · obtain ⟨g, d, rfl, hgB, hown⟩ := hrow.ownS (good_pos hg)
    have R := hidden (((Res.new w (.int .i64 0) (.slice none 0 0) 33).keep hb).keep (alloc_below w1 (.cells #[.slice (some ⟨g, 0, none⟩) q d] 26)))
    have B := hidden (keepB (keepB (alloc_below w _) hb) (alloc_below w1 (.cells #[.slice (some ⟨g, 0, none⟩) q d] 26)))
    have O := hidden (hown.keep (alloc_below w1 (.cells #[.slice (some ⟨g, 0, none⟩) q d] 26)))
    have X := hidden (One.new w1 (.slice (some ⟨g, 0, none⟩) q d) 26)
    obtain ⟨_, q0, q1, f0, f1⟩ := id R.out
    have x0 := X.out.c0
    have hp0 : ((pos l q : Int) == 0) = false := by have := pos_ge l q; rw [beq_eq_false_iff_ne]; omega
    have HG := hidden hg
    have hgw : w.heap.size + 1 ≤ g := by simpa using hgB
    clear hb hown hrow C hg
    by_cases hw : pos l q = n
    · have HW := hidden (show whole l from ⟨by rw [HL.out]; exact hn, by rw [HQT.out]; exact HG.out, by rw [HQT.out, HL.out]; exact hw⟩)
      have hwi : ((pos l q : Int) != (n : Int)) = false := by simp; omega
      generalize pos l q = P at *
      clear hw
      go_wp2
      refine bodyPost_ret (v := .agg #[.int .i64 0, .slice (some ⟨g, 0, none⟩) q d]) (by simp [results, Try.results14, go_sem, q0, q1]) rfl ⟨Or.inr ⟨HW.out, g, d, by rw [HQT.out], by omega, ?_⟩, (B.out.setCell (by simp) _).setCell (by simp) _⟩
      rw [HQT.out]
      exact ((O.out.other _ _ (by simp; omega)).other _ _ (by simp; omega)).base (by omega)
    · have HW := hidden (show ¬ whole l from fun h => hw (by have := h.2.2; rw [HQT.out, HL.out] at this; exact this))
      have hwi : ((pos l q : Int) != (n : Int)) = true := by simp; omega
      generalize pos l q = P at *
      clear hw
      go_wp2
      exact bodyPost_ret (v := errSig) (by simp [results, Try.results14, go_sem, q0, q1, errSig]) rfl ⟨Or.inl ⟨HW.out, rfl⟩, (B.out.setCell (by simp) _).setCell (by simp) _⟩
  · have HW := hidden (show ¬ whole l from fun h => hg (by have := h.2.1; rw [HQT.out] at this; exact this))
    have R := hidden (((Res.new w (.int .i64 0) (.slice none 0 0) 33).keep hb).keep (alloc_below w1 (.cells #[.slice none 0 0] 26)))
    have B := hidden (keepB (keepB (alloc_below w _) hb) (alloc_below w1 (.cells #[.slice none 0 0] 26)))
    obtain ⟨_, q0, q1, f0, f1⟩ := id R.out
    unfold noRead
    clear hb C hg
    go_wp2
    exact bodyPost_ret (v := errSig) (by simp [results, Try.results14, go_sem, q0, q1, errSig]) rfl ⟨Or.inl ⟨HW.out, rfl⟩, (B.out.setCell (by simp) _).setCell (by simp) _⟩

end Go.Proofs.Ythgoclbgepfjmaa
