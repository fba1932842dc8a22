/- Law FnExactTermText: at every signature and list of nodes the program's TermText answers as the model's, and leaves both as they were. -/
import Derived.Test.YtkaoafdemckagaaTxtF
namespace Go.Proofs.Ytkaoafdemckagaa
open Go.RowKit

set_option maxRecDepth 20000 in
set_option maxHeartbeats 6400000 in
theorem law_txt (p : Option Addr) (n c : Nat) (N : Nat → ByteArray) (A : Nat → Int) (p' : Option Addr) (m c' : Nat) (L : Nat → Int) (w : World) (h : SrcS w p n N A) (h' : SrcI w p' m L) (hm : m ≤ 1048576) :
    Calls Try.prog 3 #[.agg #[.slice p n c], .slice p' m c'] w fun e w' => e = .returned (.bool true) ∧ Below w.heap.size w w' := by
  generalize hS : termF n N A m L = S
  have HS0 := hidden hS
  clear hS
  generalize hS : tmS n N A m L = S2x
  have HS1 := hidden hS
  clear hS
  have D0 := hidden (One.new w (.slice p n c) 24)
  have B := hidden (alloc_below w (.cells #[.slice p n c] 24))
  have H := hidden (h.keep B.out)
  have H' := hidden (h'.keep B.out)
  have HM := hidden hm
  clear h h'
  go_enter Try.func3, Try.ntmps3
  go_wp2_with fail
  with_reducible refine (szSignature_src p n c N A 1048576 _ H.out (by omega) (by omega)).mono ?_
  rintro e w1 ⟨⟨r1, rfl, hr⟩, hb⟩
  replace D0 := hidden (D0.out.keep hb)
  replace B := hidden (keepB B.out hb)
  replace H := hidden (H.out.keep hb)
  replace H' := hidden (H'.out.keep hb)
  clear hb
  rcases hr with rfl | ⟨q0, q1, q2, q3⟩
  · go_wp2_with fail
    go_ret
    exact ⟨rfl, B.out⟩
  have HK := hidden (Kept.mk q2 q3 H.out.fits)
  clear q2 q3
  clear q1
  have d0 := D0.out.c0
  go_wp2_with fail
  with_reducible refine (toSig_new p n c N A _ H.out HK.out).mono ?_
  rintro e w2 ⟨g2, rfl, hg, hl, hs, hb⟩
  replace D0 := hidden (D0.out.keep hb)
  replace B := hidden (keepB B.out hb)
  replace H := hidden (H.out.keep hb)
  replace H' := hidden (H'.out.keep hb)
  clear d0 hb hg hl
  have P1 := hidden (hs)
  clear hs
  go_wp2_with fail
  with_reducible refine (toInts_new p' m c' L _ H'.out HM.out).mono ?_
  rintro e w3 ⟨g3, rfl, hs, hb⟩
  replace D0 := hidden (D0.out.keep hb)
  replace B := hidden (keepB B.out hb)
  replace H := hidden (H.out.keep hb)
  replace H' := hidden (H'.out.keep hb)
  replace P1 := hidden (P1.out.keep hb)
  clear hb
  have P2 := hidden (hs)
  clear hs
  go_wp2_with fail
  with_reducible refine (specTxt_any _ _ _ _ _ _ _ _ N A L _ P1.out P2.out HK.out HM.out).mono ?_
  rw [HS0.out, HS1.out]
  rintro e w4 ⟨rfl, hb⟩
  replace hb := keepB hb (alloc_below _ (.cells #[.int .i64 S, .string S2x] 28))
  replace D0 := hidden (D0.out.keep hb)
  replace B := hidden (keepB B.out hb)
  replace H := hidden (H.out.keep hb)
  replace H' := hidden (H'.out.keep hb)
  replace P1 := hidden (P1.out.keep hb)
  replace P2 := hidden (P2.out.keep hb)
  clear hb
  clear P1 P2
  have R0 := hidden (Two.new w4 (.int .i64 S) (.string S2x) 28)
  have d0 := D0.out.c0
  go_wp2_with fail
  with_reducible refine (toSig_new p n c N A _ H.out HK.out).mono ?_
  rintro e w5 ⟨g5, rfl, hg, hl, hs, hb⟩
  replace hb := keepB hb (alloc_below _ (.cells #[.slice (some ⟨g5, 0, none⟩) n n] 32))
  replace D0 := hidden (D0.out.keep hb)
  replace B := hidden (keepB B.out hb)
  replace H := hidden (H.out.keep hb)
  replace H' := hidden (H'.out.keep hb)
  replace R0 := hidden (R0.out.keep hb)
  clear d0 hb hg hl
  have Q := hidden (hs.keep (alloc_below _ (.cells #[.slice (some ⟨g5, 0, none⟩) n n] 32)))
  clear hs
  have X := hidden (One.new w5 (.slice (some ⟨g5, 0, none⟩) n n) 32)
  go_wp2_with fail
  with_reducible refine (toInts_new p' m c' L _ H'.out HM.out).mono ?_
  rintro e w6 ⟨g6, rfl, hs, hb⟩
  replace D0 := hidden (D0.out.keep hb)
  replace B := hidden (keepB B.out hb)
  replace H := hidden (H.out.keep hb)
  replace H' := hidden (H'.out.keep hb)
  replace R0 := hidden (R0.out.keep hb)
  replace Q := hidden (Q.out.keep hb)
  replace X := hidden (X.out.keep hb)
  clear hb
  have Q2 := hidden (hs)
  clear hs
  have x0 := X.out.c0
  go_wp2_with fail
  with_reducible refine (implTxt_any _ _ _ _ _ _ _ _ N A L _ Q.out Q2.out HK.out HM.out (Nat.le_refl _)).mono ?_
  rw [HS0.out, HS1.out]
  rintro e w7 ⟨rfl, hb⟩
  replace hb := keepB hb (alloc_below _ (.cells #[.int .i64 S, .string S2x] 28))
  replace D0 := hidden (D0.out.keep hb)
  replace B := hidden (keepB B.out hb)
  replace H := hidden (H.out.keep hb)
  replace H' := hidden (H'.out.keep hb)
  replace R0 := hidden (R0.out.keep hb)
  replace Q := hidden (Q.out.keep hb)
  replace X := hidden (X.out.keep hb)
  replace Q2 := hidden (Q2.out.keep hb)
  clear x0 hb
  have R1 := hidden (Two.new w7 (.int .i64 S) (.string S2x) 28)
  have r0 := R0.out.c0
  have r1 := R0.out.c1
  have r2 := R1.out.c0
  have r3 := R1.out.c1
  go_wp2_with fail
  with_reducible refine (eqText_eq _ _ _).mono ?_
  rintro e w8 ⟨rfl, hb⟩
  replace D0 := hidden (D0.out.keep hb)
  replace B := hidden (keepB B.out hb)
  replace H := hidden (H.out.keep hb)
  replace H' := hidden (H'.out.keep hb)
  replace R0 := hidden (R0.out.keep hb)
  replace Q := hidden (Q.out.keep hb)
  replace X := hidden (X.out.keep hb)
  replace Q2 := hidden (Q2.out.keep hb)
  replace R1 := hidden (R1.out.keep hb)
  clear r0 r1 r2 r3 hb
  clear R0 R1
  have S1 := hidden (show ∀ wc, Below w8.heap.size w8 wc → Calls Try.prog 10 #[.agg #[.slice p n c]] wc fun e w' => ∃ g, e = .returned (.agg #[.slice (some ⟨g, 0, none⟩) n n]) ∧ Below w8.heap.size w8 w' ∧ Syms w' g 0 n N A ∧ w'.cell? ⟨w5.heap.size, 0, none⟩ = some (.slice (some ⟨g5, 0, none⟩) n n) from fun wc hc => by
    refine (toSig_new p n c N A wc (H.out.keep hc) HK.out).mono ?_
    rintro e w' ⟨g, rfl, hg, hl, hs, hb⟩
    exact ⟨g, rfl, keepB hc hb, hs, (X.out.keep (keepB hc hb)).c0⟩)
  have S2 := hidden (show ∀ wc g, Below w8.heap.size w8 wc → Syms wc g 0 n N A → Calls Try.prog 14 #[.agg #[.slice (some ⟨g5, 0, none⟩) n n], .agg #[.slice (some ⟨g, 0, none⟩) n n]] wc fun e w' => e = .returned (.bool true) ∧ Below w8.heap.size w8 w' from fun wc g hc hm => by
    refine (eqSignature_eq g5 0 g 0 n n n N A wc (Q.out.keep hc) hm HK.out.most).mono ?_
    rintro e w' ⟨rfl, hb⟩
    exact ⟨rfl, keepB hc hb⟩)
  have x0 := X.out.c0
  have d0 := D0.out.c0
  go_wp2_with fail
  go_cut [38] (fun t wc => t = .bool false ∧ Below w8.heap.size w8 wc)
  case first =>
    go_region_with (first
      | (go_at_call 10; with_reducible refine (S1.out _ ?_).mono ?_; exact (Below.refl _ _).drew; rintro e v5 ⟨g5', rfl, b5', m5', d5'⟩)
      | (go_at_call 14; with_reducible refine (S2.out _ _ b5' m5').mono ?_; rintro e v6 ⟨rfl, b6'⟩))
    all_goals (go_wp2_with fail; go_meet)
    all_goals exact ⟨rfl, b6'⟩
  case rest =>
    rename World => w9
    obtain ⟨rfl, hb⟩ := hcut
    replace D0 := hidden (D0.out.keep hb)
    replace B := hidden (keepB B.out hb)
    replace H := hidden (H.out.keep hb)
    replace H' := hidden (H'.out.keep hb)
    replace Q := hidden (Q.out.keep hb)
    replace X := hidden (X.out.keep hb)
    replace Q2 := hidden (Q2.out.keep hb)
    clear x0 d0 hb S1 S2
    go_wp2_with fail
    with_reducible refine (toInts_new p' m c' L _ H'.out HM.out).mono ?_
    rintro e w10 ⟨g10, rfl, hs, hb⟩
    replace D0 := hidden (D0.out.keep hb)
    replace B := hidden (keepB B.out hb)
    replace H := hidden (H.out.keep hb)
    replace H' := hidden (H'.out.keep hb)
    replace Q := hidden (Q.out.keep hb)
    replace X := hidden (X.out.keep hb)
    replace Q2 := hidden (Q2.out.keep hb)
    clear hb
    have Q3 := hidden (hs)
    clear hs
    go_wp2_with fail
    with_reducible refine (eqInt64S_eq _ _ _ _ _ _ _ L _ Q2.out Q3.out HM.out).mono ?_
    rintro e w11 ⟨rfl, hb⟩
    replace D0 := hidden (D0.out.keep hb)
    replace B := hidden (keepB B.out hb)
    replace H := hidden (H.out.keep hb)
    replace H' := hidden (H'.out.keep hb)
    replace Q := hidden (Q.out.keep hb)
    replace X := hidden (X.out.keep hb)
    replace Q2 := hidden (Q2.out.keep hb)
    replace Q3 := hidden (Q3.out.keep hb)
    clear hb
    clear Q3
    go_wp2_with fail
    go_ret
    exact ⟨rfl, B.out⟩

set_option maxHeartbeats 400000 in
theorem law_txt_big (p : Option Addr) (n c : Nat) (p' : Option Addr) (m c' : Nat) (w : World) (hm : ¬ m ≤ 1048576) :
    Calls Try.prog 3 #[.agg #[.slice p n c], .slice p' m c'] w fun e w' => e = .returned (.bool true) ∧ Below w.heap.size w w' := by
  have h : (1048576 : Int) < m := by omega
  go_enter Try.func3, Try.ntmps3
  go_wp2
  go_ret
  exact ⟨rfl, alloc_below _ _⟩

theorem law_txt_all (p : Option Addr) (n c : Nat) (N : Nat → ByteArray) (A : Nat → Int) (p' : Option Addr) (m c' : Nat) (L : Nat → Int) (w : World) (h : SrcS w p n N A) (h' : SrcI w p' m L) :
    Calls Try.prog 3 #[.agg #[.slice p n c], .slice p' m c'] w fun e w' => e = .returned (.bool true) ∧ Below w.heap.size w w' := by
  by_cases hm : m ≤ 1048576
  · exact law_txt p n c N A p' m c' L w h h' hm
  · exact law_txt_big p n c p' m c' w hm

end Go.Proofs.Ytkaoafdemckagaa
