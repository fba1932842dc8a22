/- Contracts: UnpackTerm of the model. -/
import Derived.Test.YtcnkkoegfjggaaaRd
namespace Go.Proofs.Ytcnkkoegfjggaaa
open Go.RowKit

/-- What UnpackTerm answers: its code. -/
noncomputable def upC (n : Nat) (N : Nat → ByteArray) (A : Nat → Int) (m : Nat) (l : Nat → Int) : Int :=
  if faultF n N A = 0 then (if rdK n A m l ≠ 0 ∧ rdK n A m l = m then 0 else 5) else faultF n N A

section
variable {n : Nat} {N : Nat → ByteArray} {A : Nat → Int} {m : Nat} {l : Nat → Int}
theorem up_fault (h : faultF n N A ≠ 0) : upC n N A m l = faultF n N A := by rw [upC, if_neg h]
theorem up_text (h : faultF n N A = 0) (hk : ¬ (rdK n A m l ≠ 0 ∧ rdK n A m l = m)) : upC n N A m l = 5 := by rw [upC, if_pos h, if_neg hk]
theorem up_ok (h : faultF n N A = 0) (hk : rdK n A m l ≠ 0 ∧ rdK n A m l = m) : upC n N A m l = 0 := by rw [upC, if_pos h, if_pos hk]
theorem up_right (h : upC n N A m l = 0) : faultF n N A = 0 ∧ RdP n A m l m := by
  by_cases hf : faultF n N A = 0
  · by_cases hk : rdK n A m l ≠ 0 ∧ rdK n A m l = m
    · have := rd_spec hk.1; rw [hk.2] at this; exact ⟨hf, this⟩
    · rw [up_text hf hk] at h; omega
  · rw [up_fault hf] at h; exact absurd h hf
end

set_option maxRecDepth 20000 in
set_option maxHeartbeats 1600000 in
theorem specUnpack_any (b off n c : Nat) (p' : Option Addr) (m c' : Nat) (N : Nat → ByteArray) (A l : Nat → Int) (w : World) (h : Syms w b off n N A) (h' : Byts w p' m l) (hk : Kept n N A) (hm : m ≤ 1048576) :
    Calls Try.prog 19 #[.agg #[.slice (some ⟨b, off, none⟩) n c], .slice p' m c'] w fun e w' => ListAns w (upC n N A m l) m (nodT l) e w' ∧ Below w.heap.size w w' := by
  have D := hidden ((One.new w (.slice (some ⟨b, off, none⟩) n c) 32).keep (alloc_below _ (.cells #[.int .i64 0, .slice none 0 0] 28)))
  have R := hidden (Res.new (w.alloc (.cells #[.slice (some ⟨b, off, none⟩) n c] 32)) (.int .i64 0) (.slice none 0 0) 28)
  have B := hidden (keepB (alloc_below w (.cells #[.slice (some ⟨b, off, none⟩) n c] 32)) (alloc_below _ (.cells #[.int .i64 0, .slice none 0 0] 28)))
  have Q := hidden (h.keep B.out)
  have I := hidden (h'.keep B.out)
  have HK := hidden hk
  rw [World.size_alloc] at R
  clear h h' hk
  go_enter Try.func19, Try.ntmps19
  go_wp2_with fail
  with_reducible refine (specFault_all _ _ _ _ N A _ Q.out HK.out).mono ?_
  rintro e w1 ⟨rfl, hb⟩
  replace D := hidden (D.out.keep hb)
  replace R := hidden (R.out.keep hb)
  replace B := hidden (keepB B.out hb)
  replace I := hidden (I.out.keep hb)
  replace Q := hidden (Q.out.keep hb)
  clear hb
  by_cases hf : faultF n N A = 0
  · have HF := hidden hf
    have HS := hidden (fault_sound hf)
    rw [hf]
    clear hf
    go_wp2_with fail
    with_reducible refine (l5Read_any _ _ _ _ _ p' m c' N A l _ D.out Q.out HS.out hm I.out).mono ?_
    rintro r w3 ⟨ha, hb⟩
    have hR := R.out.blk
    have hBs := B.out.size
    replace R := hidden (R.out.keep hb)
    replace B := hidden (keepB B.out hb)
    clear hb D I Q
    rcases ha with ⟨h0, rfl⟩ | ⟨h0, g, d, rfl, hgg, ho⟩
    · have HC := hidden (up_text (m := m) (l := l) HF.out (by rw [h0]; simp))
      clear h0
      obtain ⟨_, q0, q1, f0, f1⟩ := id R.out
      go_wp2
      exact bodyPost_ret (v := .agg #[.int .i64 5, .slice none 0 0]) (by simp [results, Try.results19, go_sem, q0, q1]) rfl ⟨Or.inl ⟨by rw [HC.out]; decide, by rw [HC.out]⟩, (B.out.setCell (by simp) _).setCell (by simp) _⟩
    · have hle := (rd_le (n := n) (A := A) (m := m) (l := l)).1
      by_cases hk : rdK n A m l = m
      · have HC := hidden (up_ok (m := m) (l := l) HF.out ⟨by omega, hk⟩)
        rw [hk] at ho ⊢
        have O := hidden ho
        have hm0 : 0 < m := by omega
        have e1 : ((m : Int) == 0) = false := by simp; omega
        have e2 : ((m : Int) != (m : Int)) = false := by simp
        clear hk ho hle h0
        obtain ⟨_, q0, q1, f0, f1⟩ := id R.out
        go_wp2
        exact bodyPost_ret (v := .agg #[.int .i64 0, .slice (some ⟨g, 0, none⟩) m d]) (by simp [results, Try.results19, go_sem, q0, q1]) rfl ⟨Or.inr ⟨HC.out, g, d, rfl, by omega, ((O.out.other _ _ (by simp; omega)).other _ _ (by simp; omega)).base (by omega)⟩, (B.out.setCell (by simp) _).setCell (by simp) _⟩
      · have HC := hidden (up_text (m := m) (l := l) HF.out (fun h => hk h.2))
        generalize rdK n A m l = K at h0 hle hk ⊢
        have e1 : ((K : Int) == 0) = false := by simp; omega
        have e2 : ((K : Int) != (m : Int)) = true := by simp; omega
        clear hk ho hle h0
        obtain ⟨_, q0, q1, f0, f1⟩ := id R.out
        go_wp2
        exact bodyPost_ret (v := .agg #[.int .i64 5, .slice none 0 0]) (by simp [results, Try.results19, go_sem, q0, q1]) rfl ⟨Or.inl ⟨by rw [HC.out]; decide, by rw [HC.out]⟩, (B.out.setCell (by simp) _).setCell (by simp) _⟩
  · have HN := hidden hf
    have HC := hidden (up_fault (m := m) (l := l) hf)
    have hf' : (faultF n N A != 0) = true := by simpa using hf
    generalize faultF n N A = z at hf' HN HC ⊢
    clear hf
    obtain ⟨_, q0, q1, f0, f1⟩ := id R.out
    go_wp2
    exact bodyPost_ret (v := .agg #[.int .i64 z, .slice none 0 0]) (by simp [results, Try.results19, go_sem, q0, q1]) rfl ⟨Or.inl ⟨by rw [HC.out]; exact HN.out, by rw [HC.out]⟩, (B.out.setCell (by simp) _).setCell (by simp) _⟩

end Go.Proofs.Ytcnkkoegfjggaaa
