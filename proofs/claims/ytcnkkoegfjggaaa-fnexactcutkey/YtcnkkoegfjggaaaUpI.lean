/- Contracts: UnpackTerm of the program; two terms cut off one behind the other. -/
import Derived.Test.YtcnkkoegfjggaaaCutT
import Derived.Test.YtcnkkoegfjggaaaCutK
namespace Go.Proofs.Ytcnkkoegfjggaaa
open Go.RowKit

set_option maxRecDepth 20000 in
set_option maxHeartbeats 1600000 in
theorem implUnpack_any (b off n c b' off' m c' : Nat) (N : Nat → ByteArray) (A l : Nat → Int) (w : World) (h : Syms w b off n N A) (h' : Byts w (some ⟨b', off', none⟩) m l) (hb' : b' < w.heap.size) (hk : Kept n N A) (hm : m ≤ 1048576) (hmc : m ≤ c') :
    Calls Try.prog 21 #[.agg #[.slice (some ⟨b, off, none⟩) n c], .slice (some ⟨b', off', none⟩) m c'] w fun e w' => ListAns w (upC n N A m l) m (nodT l) e w' ∧ Below w.heap.size w w' := by
  have D := hidden ((One.new w (.slice (some ⟨b, off, none⟩) n c) 32).keep (alloc_below _ (.cells #[.int .i64 0, .slice none 0 0] 28)))
  have R := hidden (Res.new (w.alloc (.cells #[.slice (some ⟨b, off, none⟩) n c] 32)) (.int .i64 0) (.slice none 0 0) 28)
  have B := hidden (keepB (alloc_below w (.cells #[.slice (some ⟨b, off, none⟩) n c] 32)) (alloc_below _ (.cells #[.int .i64 0, .slice none 0 0] 28)))
  have Q := hidden (h.keep B.out)
  have I := hidden (h'.keep B.out)
  have LB := hidden (Nat.lt_of_lt_of_le hb' B.out.size)
  have HK := hidden hk
  rw [World.size_alloc] at R
  clear h h' hk hb'
  go_enter Try.func21, Try.ntmps21
  go_wp2_with fail
  with_reducible refine (implFault_all _ _ _ _ N A _ Q.out HK.out).mono ?_
  rintro e w1 ⟨rfl, hb⟩
  replace D := hidden (D.out.keep hb)
  replace R := hidden (R.out.keep hb)
  replace B := hidden (keepB B.out hb)
  replace I := hidden (I.out.keep hb)
  replace Q := hidden (Q.out.keep hb)
  replace LB := hidden (Nat.lt_of_lt_of_le LB.out hb.size)
  clear hb
  by_cases hf : faultF n N A = 0
  · have HF := hidden hf
    have HS := hidden (fault_sound hf)
    rw [hf]
    clear hf
    have d0 := D.out.c0
    go_wp2_with fail
    with_reducible refine (cutTerm_reg _ _ _ _ _ _ m c' N A l _ Q.out HS.out hm hmc LB.out I.out).mono ?_
    rintro r w3 ⟨ha, hb⟩
    have hR := R.out.blk
    have hBs := B.out.size
    replace R := hidden (R.out.keep hb)
    replace B := hidden (keepB B.out hb)
    clear hb D I Q d0 LB
    rcases ha with ⟨h0, rfl⟩ | ⟨h0, g, d, o2, c2, rfl, hgg, ho, hcc, _⟩
    · have HC := hidden (up_text (m := m) (l := l) HF.out (by rw [h0]; simp))
      clear h0
      obtain ⟨_, q0, q1, f0, f1⟩ := id R.out
      go_wp2
      exact bodyPost_ret (v := .agg #[.int .i64 5, .slice none 0 0]) (by simp [results, Try.results21, go_sem, q0, q1]) rfl ⟨Or.inl ⟨by rw [HC.out]; decide, by rw [HC.out]⟩, (B.out.setCell (by simp) _).setCell (by simp) _⟩
    · have hle := (rd_le (n := n) (A := A) (m := m) (l := l)).1
      by_cases hk : rdK n A m l = m
      · have HC := hidden (up_ok (m := m) (l := l) HF.out ⟨by omega, hk⟩)
        rw [hk] at ho hcc ⊢
        have O := hidden ho
        have hm0 : 0 < m := by omega
        have e0 : m - m = 0 := by omega
        rw [e0] at hcc ⊢
        clear hk ho hle h0
        obtain ⟨_, q0, q1, f0, f1⟩ := id R.out
        go_wp2
        exact bodyPost_ret (v := .agg #[.int .i64 0, .slice (some ⟨g, 0, none⟩) m d]) (by simp [results, Try.results21, go_sem, q0, q1]) rfl ⟨Or.inr ⟨HC.out, g, d, rfl, by omega, ((O.out.other _ _ (by simp; omega)).other _ _ (by simp; omega)).base (by omega)⟩, (B.out.setCell (by simp) _).setCell (by simp) _⟩
      · have HC := hidden (up_text (m := m) (l := l) HF.out (fun h => hk h.2))
        generalize rdK n A m l = K at h0 hle hk hcc ⊢
        obtain ⟨r, hr⟩ : ∃ r, r = m - K := ⟨_, rfl⟩
        have hr0 : 0 < r := by omega
        rw [← hr] at hcc ⊢
        clear hk ho hle h0 hr
        obtain ⟨_, q0, q1, f0, f1⟩ := id R.out
        go_wp2
        exact bodyPost_ret (v := .agg #[.int .i64 5, .slice none 0 0]) (by simp [results, Try.results21, go_sem, q0, q1]) rfl ⟨Or.inl ⟨by rw [HC.out]; decide, by rw [HC.out]⟩, (B.out.setCell (by simp) _).setCell (by simp) _⟩
  · have HN := hidden hf
    have HC := hidden (up_fault (m := m) (l := l) hf)
    have hf' : (faultF n N A != 0) = true := by simpa using hf
    generalize faultF n N A = z at hf' HN HC ⊢
    clear hf
    obtain ⟨_, q0, q1, f0, f1⟩ := id R.out
    go_wp2
    exact bodyPost_ret (v := .agg #[.int .i64 z, .slice none 0 0]) (by simp [results, Try.results21, go_sem, q0, q1]) rfl ⟨Or.inl ⟨by rw [HC.out]; exact HN.out, by rw [HC.out]⟩, (B.out.setCell (by simp) _).setCell (by simp) _⟩

end Go.Proofs.Ytcnkkoegfjggaaa
