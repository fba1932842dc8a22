/- Contract: a term with another one at a place: the model's l3Replace. -/
import Derived.Test.YtbdgnpjbmlcchaaCat
namespace Go.Proofs.Ytbdgnpjbmlcchaa
open Go.RowKit

set_option maxRecDepth 20000 in
set_option maxHeartbeats 3200000 in
theorem l3Replace_any (B b off n c b' off' m c' b3 off3 k c3 q e : Nat) (N : Nat → ByteArray) (A T M : Nat → Int) (w : World) (hd : One w B (.slice (some ⟨b, off, none⟩) n c)) (h : Syms w b off n N A) (h' : Ints w b' off' m T) (h3 : Ints w b3 off3 k M) (hg : Nods n A m T) (hq : q < m) (hc : m ≤ c') (hk : 1 ≤ k ∧ k ≤ 24) (he : skip (aOf A T) m q 1 = some e) :
    Calls Try.prog 55 #[.pointer (some ⟨B, 0, none⟩), .slice (some ⟨b', off', none⟩) m c', .int .i64 q, .slice (some ⟨b3, off3, none⟩) k c3] w fun r w' => ∃ g d, r = .returned (.slice (some ⟨g, 0, none⟩) (q + k + (m - e)) d) ∧ w.heap.size ≤ g ∧ OwnI w' w.heap.size g (q + k + (m - e)) d (catU q k e T M) (q + k + (m - e)) ∧ Below w.heap.size w w' := by
  have hqe := (skip_le he).2 (by omega)
  have D := hidden hd
  have H := hidden h
  have H' := hidden h'
  have H3 := hidden h3
  have HG := hidden hg
  have HE := hidden (endV_some he)
  have hm24 := hg.most
  have g1 : q ≤ c' := by omega
  have g2 : e ≤ m := by omega
  have g3 : ¬ c' = 0 := by omega
  have IQ := hidden (show Ints w b' off' q T from ⟨fun _ => h'.blk (by omega), fun i hi => h'.cell i (by omega)⟩)
  clear hd h h' h3 hg he
  go_enter Try.func55, Try.ntmps55
  go_wp2_with fail
  with_reducible refine (l1Ints_any _ _ _ _ T _ IQ.out (by omega)).mono ?_
  rintro r w1 ⟨g4, d1, rfl, hg1, ho1, hb⟩
  have O1 := hidden ho1.vals
  have B1 := hidden hb
  have I3 := hidden (H3.out.keep hb)
  clear hb ho1 IQ
  go_wp2_with (first | (at_builtin; refine wpList_append_own _ rfl _ _ 26 rfl w.heap.size 2 _ (.int .i64 0) 1 8 Try.underlying26 rfl rfl rfl rfl rfl (by decide) _ _ _ rfl O1.out ⟨b3, off3, none⟩ k c3 (valsI M k) rfl (by simp [valsI]) I3.out.src0 (intNews _ _) (by unfold maxLen; omega) (by omega) (by have := B1.out.size; omega) ?_) | fail)
  intro v' w2 hown hgrow hnil
  obtain ⟨g5, d2, rfl, hg2, ho, hb⟩ := row_open hown (by simpa using hnil) (B1.out.grown hgrow B1.out.size (by intro x hx; simp [Value.ownBlock] at hx; omega))
  have O2 := hidden ho
  have B2 := hidden hb
  clear hown hgrow hnil ho hb O1 B1 I3
  go_wp2_with fail
  with_reducible refine (l3End_any _ _ _ _ _ _ _ _ _ N A T HG.out m q (by omega) (by omega) _ (D.out.keep B2.out) (H.out.keep B2.out) (H'.out.keep B2.out)).mono ?_
  rintro r w3 ⟨rfl, hb⟩
  rw [HE.out]
  have hl := (O2.out.lt g5 rfl).2
  have O3 := hidden (ownsRow_later O2.out hb hl)
  have B3 := hidden (keepB B2.out hb)
  have I4 := hidden ((H'.out.keep B3.out).part (q := e) (k := m - e) (by omega))
  clear hb O2 B2 hl
  by_cases hce : c' = e
  · subst hce
    obtain rfl : m = c' := by omega
    have hmm : m - m = 0 := Nat.sub_self m
    go_wp2_with (at_builtin; refine wpList_append_own _ rfl _ _ 26 rfl w.heap.size 2 _ (.int .i64 0) 1 8 Try.underlying26 rfl rfl rfl rfl rfl (by decide) _ _ _ rfl O3.out ⟨b', off', none⟩ 0 0 [] rfl rfl (fun j u hj => by simp at hj) (fun u hu => by simp at hu) (by unfold maxLen; omega) (by omega) (by have := B3.out.size; omega) ?_)
    intro v' w4 hown hgrow hnil
    obtain ⟨g6, d4, rfl, hg4, ho, hb⟩ := row_open hown (by simpa using hnil) (B3.out.grown hgrow B3.out.size (by intro x hx; simp [Value.ownBlock] at hx; omega))
    have O4 := hidden ho
    have B4 := hidden hb
    clear hown hgrow hnil ho hb O3 B3 I4
    go_wp2
    go_ret
    have O5 := O4.out
    have e2 : valsI T q ++ valsI M k ++ [] = valsI (catU q k m T M) (q + k + (m - m)) := by
      rw [← cat_vals, hmm]; rfl
    rw [List.append_nil] at e2
    simp only [e2] at O5
    rw [hmm] at O5 ⊢
    exact ⟨g6, d4, rfl, hg4, row_own O5, B4.out⟩
  · go_wp2_with (at_builtin; refine wpList_append_own _ rfl _ _ 26 rfl w.heap.size 2 _ (.int .i64 0) 1 8 Try.underlying26 rfl rfl rfl rfl rfl (by decide) _ _ _ rfl O3.out ⟨b', off' + e, none⟩ (m - e) (c' - e) (valsI (fun i => T (e + i)) (m - e)) rfl (by simp [valsI]) I4.out.src0 (intNews _ _) (by unfold maxLen; omega) (by omega) (by have := B3.out.size; omega) ?_)
    intro v' w4 hown hgrow hnil
    obtain ⟨g6, d4, rfl, hg4, ho, hb⟩ := row_open hown (by simpa using hnil) (B3.out.grown hgrow B3.out.size (by intro x hx; simp [Value.ownBlock] at hx; omega))
    have O4 := hidden ho
    have B4 := hidden hb
    clear hown hgrow hnil ho hb O3 B3 I4
    go_wp2
    go_ret
    have O5 := O4.out
    rw [← List.append_assoc, cat_vals] at O5
    exact ⟨g6, d4, rfl, hg4, row_own O5, B4.out⟩

end Go.Proofs.Ytbdgnpjbmlcchaa
