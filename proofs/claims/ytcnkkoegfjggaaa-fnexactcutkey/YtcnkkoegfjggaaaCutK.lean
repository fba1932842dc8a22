/- Contracts: the two terms of a key: CutKey of the model. -/
import Derived.Test.YtcnkkoegfjggaaaCutS
namespace Go.Proofs.Ytcnkkoegfjggaaa
open Go.RowKit

/-- A block of three cells that may be written. -/
structure Res3 (w : World) (b : Nat) (x y z : Value) : Prop where
  blk : b < w.heap.size
  c0 : w.cell? ⟨b, 0, none⟩ = some x
  c1 : w.cell? ⟨b, 1, none⟩ = some y
  c2 : w.cell? ⟨b, 2, none⟩ = some z
  f0 : w.frozen? ⟨b, 0, none⟩ = false
  f1 : w.frozen? ⟨b, 1, none⟩ = false
  f2 : w.frozen? ⟨b, 2, none⟩ = false

theorem Res3.new (w : World) (x y z : Value) (t : TypeId) : Res3 (w.alloc (.cells #[x, y, z] t)) w.heap.size x y z := by
  refine ⟨by simp, ?_, ?_, ?_, ?_, ?_, ?_⟩ <;> simp [go_sem]

theorem Res3.keep {w w' : World} {b : Nat} {x y z : Value} (h : Res3 w b x y z) (hb : Below w.heap.size w w') : Res3 w' b x y z :=
  ⟨Nat.lt_of_lt_of_le h.blk hb.size, by rw [(bcell hb).1 _ _ h.blk]; exact h.c0, by rw [(bcell hb).1 _ _ h.blk]; exact h.c1, by rw [(bcell hb).1 _ _ h.blk]; exact h.c2,
   by rw [(bcell hb).2 _ _ h.blk]; exact h.f0, by rw [(bcell hb).2 _ _ h.blk]; exact h.f1, by rw [(bcell hb).2 _ _ h.blk]; exact h.f2⟩

open Classical in
/-- What CutKey answers: its code. -/
noncomputable def ckC (n : Nat) (N : Nat → ByteArray) (A : Nat → Int) (m : Nat) (l : Nat → Int) : Int :=
  if faultF n N A = 0 then (if CutP n A m l then 0 else 5) else faultF n N A

section
variable {n : Nat} {N : Nat → ByteArray} {A : Nat → Int} {m : Nat} {l : Nat → Int}
theorem ck_fault (h : faultF n N A ≠ 0) : ckC n N A m l = faultF n N A := by rw [ckC, if_neg h]
theorem ck_text (h : faultF n N A = 0) (hk : ¬ CutP n A m l) : ckC n N A m l = 5 := by rw [ckC, if_pos h, if_neg hk]
theorem ck_ok (h : faultF n N A = 0) (hk : CutP n A m l) : ckC n N A m l = 0 := by rw [ckC, if_pos h, if_pos hk]
end

set_option maxRecDepth 20000 in
set_option maxHeartbeats 1600000 in
theorem specCut_any (b off n c b' off' m c' : Nat) (N : Nat → ByteArray) (A l : Nat → Int) (w : World) (h : Syms w b off n N A) (h' : Byts w (some ⟨b', off', none⟩) m l) (hk : Kept n N A) (hm : m ≤ 1048576) (hmc : m ≤ c') :
    Calls Try.prog 24 #[.agg #[.slice (some ⟨b, off, none⟩) n c], .slice (some ⟨b', off', none⟩) m c'] w fun e w' => KeyAns w (ckC n N A m l) (rdK n A m l) (nodT l) (rd2 n A m l) (nodT (behind l (rdK n A m l))) e w' ∧ Below w.heap.size w w' := by
  have D := hidden ((One.new w (.slice (some ⟨b, off, none⟩) n c) 32).keep (alloc_below _ (.cells #[.int .i64 0, .slice none 0 0, .slice none 0 0] 49)))
  have R := hidden (Res3.new (w.alloc (.cells #[.slice (some ⟨b, off, none⟩) n c] 32)) (.int .i64 0) (.slice none 0 0) (.slice none 0 0) 49)
  have B := hidden (keepB (alloc_below w (.cells #[.slice (some ⟨b, off, none⟩) n c] 32)) (alloc_below _ (.cells #[.int .i64 0, .slice none 0 0, .slice none 0 0] 49)))
  have Q := hidden (h.keep B.out)
  have I := hidden (h'.keep B.out)
  have HK := hidden hk
  rw [World.size_alloc] at R
  clear h h' hk
  go_enter Try.func24, Try.ntmps24
  go_wp2_with fail
  with_reducible refine (specFault_all _ _ _ _ N A _ Q.out HK.out).mono ?_
  rintro e w1 ⟨rfl, hb⟩
  replace D := hidden (D.out.keep hb)
  replace R := hidden (R.out.keep hb)
  replace B := hidden (keepB B.out hb)
  replace I := hidden (I.out.keep hb)
  replace Q := hidden (Q.out.keep hb)
  clear hb
  by_cases hf : faultF n N A = 0
  · have HF := hidden hf
    have HS := hidden (fault_sound hf)
    rw [hf]
    clear hf
    go_wp2_with fail
    with_reducible refine (l5Cut_any _ _ _ _ _ _ _ m c' N A l _ D.out Q.out HS.out hm hmc I.out).mono ?_
    rintro r w3 ⟨ha, hb⟩
    have hR := R.out.blk
    have hBs := B.out.size
    replace R := hidden (R.out.keep hb)
    replace B := hidden (keepB B.out hb)
    clear hb D I Q
    rcases ha with ⟨h0, rfl⟩ | ⟨h0, g1, d1, g2, d2, rfl, hg1, hg12, ho1, ho2⟩
    · have HC := hidden (ck_text (m := m) (l := l) HF.out h0)
      clear h0
      obtain ⟨_, q0, q1, q2, f0, f1, f2⟩ := id R.out
      go_wp2
      exact bodyPost_ret (v := .agg #[.int .i64 5, .slice none 0 0, .slice none 0 0]) (by simp [results, Try.results24, go_sem, q0, q1, q2]) rfl ⟨Or.inl ⟨by rw [HC.out]; decide, by rw [HC.out]⟩, ((B.out.setCell (by simp) _).setCell (by simp) _).setCell (by simp) _⟩
    · have HC := hidden (ck_ok (m := m) (l := l) HF.out h0)
      have O1 := hidden ho1
      have O2 := hidden ho2
      generalize hT : nodT (behind l (rdK n A m l)) = T2 at *
      generalize hk1 : rdK n A m l = K1 at *
      generalize hk2 : rd2 n A m l = K2 at *
      have HT := hidden hT
      have H1 := hidden hk1
      have H2 := hidden hk2
      clear h0 ho1 ho2 hT hk1 hk2
      obtain ⟨_, q0, q1, q2, f0, f1, f2⟩ := id R.out
      go_wp2
      exact bodyPost_ret (v := .agg #[.int .i64 0, .slice (some ⟨g1, 0, none⟩) K1 d1, .slice (some ⟨g2, 0, none⟩) K2 d2]) (by simp [results, Try.results24, go_sem, q0, q1, q2]) rfl ⟨Or.inr ⟨HC.out, g1, d1, g2, d2, by rw [H1.out, H2.out], by omega, hg12, by
        rw [H1.out]; exact (((O1.out.other _ _ (by simp; omega)).other _ _ (by simp; omega)).other _ _ (by simp; omega)).base (by omega), by
        rw [H2.out, H1.out, HT.out]; exact (((O2.out.other _ _ (by simp; omega)).other _ _ (by simp; omega)).other _ _ (by simp; omega)).base (by omega)⟩, ((B.out.setCell (by simp) _).setCell (by simp) _).setCell (by simp) _⟩
  · have HN := hidden hf
    have HC := hidden (ck_fault (m := m) (l := l) hf)
    have hf' : (faultF n N A != 0) = true := by simpa using hf
    generalize faultF n N A = z at hf' HN HC ⊢
    clear hf
    obtain ⟨_, q0, q1, q2, f0, f1, f2⟩ := id R.out
    go_wp2
    exact bodyPost_ret (v := .agg #[.int .i64 z, .slice none 0 0, .slice none 0 0]) (by simp [results, Try.results24, go_sem, q0, q1, q2]) rfl ⟨Or.inl ⟨by rw [HC.out]; exact HN.out, by rw [HC.out]⟩, ((B.out.setCell (by simp) _).setCell (by simp) _).setCell (by simp) _⟩

end Go.Proofs.Ytcnkkoegfjggaaa
