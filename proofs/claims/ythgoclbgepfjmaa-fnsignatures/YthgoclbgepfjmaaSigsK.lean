/- Contracts: a signature that is drawn for a law, and the comparison of bytes. -/
import Derived.Test.YthgoclbgepfjmaaDrawRd
import Derived.Laws.BytesArg
namespace Go.Proofs.Ythgoclbgepfjmaa
open Go.RowKit

/-- A signature in memory, or none. -/
def SigD (w : World) (v : Value) : Prop := v = .slice none 0 0 ∨ ∃ g m d N A, v = .slice (some ⟨g, 0, none⟩) m d ∧ m ≤ 7 ∧ Kept m N A ∧ Syms w g 0 m N A

theorem SigD.keep {w w' : World} {v : Value} (h : SigD w v) (hb : Below w.heap.size w w') : SigD w' v :=
  h.imp id fun ⟨g, m, d, N, A, e, hm, hk, hs⟩ => ⟨g, m, d, N, A, e, hm, hk, hs.keep hb⟩

set_option maxRecDepth 20000 in
set_option maxHeartbeats 1600000 in
theorem drawPack_any (p : Option Addr) (nn c : Nat) (l : List Int) (w : World) (h : Byt.Src w p nn l) :
    Calls Try.prog 8 #[.slice p nn c] w fun e w' => ∃ v, e = .returned (.agg #[v]) ∧ SigD w' v ∧ Below w.heap.size w w' := by
  have R := hidden (Cel.new w (.slice none 0 0) 26)
  have A1 := hidden (alloc_below w (.cells #[.slice none 0 0] 26))
  have H := hidden (show Byt.Src (w.alloc (.cells #[.slice none 0 0] 26)) p nn l from by
    obtain ⟨h1, h2, h3, h4⟩ := h
    refine ⟨h1, h2, h3, h4.imp id ?_⟩
    rintro ⟨b, off, e, hlt, hc⟩
    exact ⟨b, off, e, by simp; omega, fun i hi => keepCell (hc i hi) _⟩)
  clear h
  go_enter Try.func8, Try.ntmps8
  go_wp2_with fail
  with_reducible refine (Byt.l1Source_any p nn c _).mono ?_
  rintro e w1 ⟨s, rfl, hs, hgn, hb⟩
  have HG := hidden hgn
  have BB := hidden hb
  have HS := hidden hs
  clear hgn hb hs
  go_wp2_with fail
  with_reducible refine (l2Bent_any s p nn c l (w.alloc (.cells #[.slice none 0 0] 26)) _ HG.out H.out BB.out HS.out).mono ?_
  rintro e w2 ⟨_, hgr, ha⟩
  have B2 := hidden (BB.out.grown hgr BB.out.size (fun k e => by cases e; exact HS.out))
  have R2 := hidden (R.out.keep B2.out)
  have BW := hidden (keepB A1.out B2.out)
  clear hgr
  rcases ha with rfl | ⟨g, m, d, N, A, rfl, hg, hm, hk, ho⟩
  · have r0 := R2.out.c0
    have r1 := R2.out.f0
    go_wp2
    refine bodyPost_ret (v := .agg #[.slice none 0 0]) (by simp [results, Try.results8, go_sem, r0]) rfl ?_
    exact ⟨_, rfl, .inl rfl, BW.out.setCell (by simp) _⟩
  · have r0 := R2.out.c0
    have r1 := R2.out.f0
    have hz := BB.out.size
    simp at hz
    have O2 := hidden (ho.other ⟨w.heap.size, 0, none⟩ (.slice (some ⟨g, 0, none⟩) m d) (by show g ≠ w.heap.size; omega))
    have HK := hidden hk
    have HM := hidden hm
    clear ho hk hm
    go_wp2
    refine bodyPost_ret (v := .agg #[.slice (some ⟨g, 0, none⟩) m d]) (by simp [results, Try.results8, go_sem, r0]) rfl ?_
    exact ⟨_, rfl, .inr ⟨g, m, d, N, A, rfl, HM.out, HK.out, O2.out.syms HK.out.big HK.out.fits⟩, BW.out.setCell (by simp) _⟩

set_option maxRecDepth 20000 in
set_option maxHeartbeats 800000 in
theorem lwBytes_same (b off n c b' off' c' : Nat) (l : List Int) (w : World) (h : Byt.Row w b off n l) (h' : Byt.Row w b' off' n l) :
    Calls Try.prog 15 #[.slice (some ⟨b, off, none⟩) n c, .slice (some ⟨b', off', none⟩) n c'] w fun e w' => e = .returned (.bool true) ∧ Below w.heap.size w w' := by
  have k1 := run_convert_bytes_arg (P := Try.prog) w 22 5 Try.underlying22 Try.underlying5 b off n c l h.len h.cell 9 Try.underlying9
  have k2 := run_convert_bytes_arg (P := Try.prog) w 22 5 Try.underlying22 Try.underlying5 b' off' n c' l h'.len h'.cell 9 Try.underlying9
  go_enter Try.func15, Try.ntmps15
  go_wp2
  go_ret
  exact ⟨by simp, Below.refl _ _⟩

end Go.Proofs.Ythgoclbgepfjmaa
