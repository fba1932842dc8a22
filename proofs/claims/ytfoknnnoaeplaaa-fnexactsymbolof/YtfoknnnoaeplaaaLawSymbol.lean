/- Law FnExactSymbolOf: at every signature and name the program's SymbolOf answers as the model's, and leaves the signature as it was. -/
import Derived.Test.YtfoknnnoaeplaaaSymbol
namespace Go.Proofs.Ytfoknnnoaeplaaa
open Go.RowKit

set_option maxHeartbeats 3200000 in
theorem law_symbol (p : Option Addr) (n c : Nat) (N : Nat → ByteArray) (A : Nat → Int) (x : ByteArray) (w : World) (h : SrcS w p n N A) (hx : x.size ≤ 1048576) :
    Calls Try.prog 6 #[.agg #[.slice p n c], .string x] w fun e w' => e = .returned (.bool true) ∧ Below w.heap.size w w' := by
  generalize hS : syC n N A x = S
  have HS := hidden hS
  generalize hS2 : syV n N A x = S2
  have HS2 := hidden hS2
  clear hS hS2
  have D0 := hidden (One.new w (.slice p n c) 54)
  have B := hidden (alloc_below w (.cells #[.slice p n c] 54))
  have H := hidden (h.keep B.out)
  clear h
  go_enter Try.func6, Try.ntmps6
  go_wp2_with fail
  with_reducible refine (szSignature_src p n c N A 1048576 _ H.out (by omega) (by omega)).mono ?_
  rintro e w1 ⟨⟨r1, rfl, hr⟩, hb⟩
  replace D0 := hidden (D0.out.keep hb)
  replace B := hidden (keepB B.out hb)
  replace H := hidden (H.out.keep hb)
  clear hb
  rcases hr with rfl | ⟨q0, q1, q2, q3⟩
  · go_wp2_with fail
    go_ret
    exact ⟨rfl, B.out⟩
  have HK := hidden (Kept.mk q2 q3 H.out.fits)
  clear q2 q3
  clear q1
  have d0 := D0.out.c0
  go_wp2_with fail
  with_reducible refine (toSig_new p n c N A _ H.out HK.out).mono ?_
  rintro e w2 ⟨g2, rfl, hg, hl, hs, hb⟩
  replace D0 := hidden (D0.out.keep hb)
  replace B := hidden (keepB B.out hb)
  replace H := hidden (H.out.keep hb)
  clear d0 hb hg hl
  have Q2 := hidden (hs)
  clear hs
  go_wp2_with fail
  with_reducible refine (specSymbol_any _ _ _ _ N A x _ Q2.out HK.out).mono ?_
  rw [HS.out, HS2.out]
  rintro e w3 ⟨rfl, hb⟩
  replace hb := keepB hb (alloc_below _ (.cells #[.int .i64 S, .int .i64 S2] 38))
  replace D0 := hidden (D0.out.keep hb)
  replace B := hidden (keepB B.out hb)
  replace H := hidden (H.out.keep hb)
  replace Q2 := hidden (Q2.out.keep hb)
  clear hb
  clear Q2
  have R0 := hidden (Two.new w3 (.int .i64 S) (.int .i64 S2) 38)
  have d0 := D0.out.c0
  go_wp2_with fail
  with_reducible refine (toSig_new p n c N A _ H.out HK.out).mono ?_
  rintro e w4 ⟨g4, rfl, hg, hl, hs, hb⟩
  replace hb := keepB hb (alloc_below _ (.cells #[.slice (some ⟨g4, 0, none⟩) n n] 26))
  replace D0 := hidden (D0.out.keep hb)
  replace B := hidden (keepB B.out hb)
  replace H := hidden (H.out.keep hb)
  replace R0 := hidden (R0.out.keep hb)
  clear d0 hb hg hl
  have Q := hidden (hs.keep (alloc_below _ (.cells #[.slice (some ⟨g4, 0, none⟩) n n] 26)))
  clear hs
  have X := hidden (One.new w4 (.slice (some ⟨g4, 0, none⟩) n n) 26)
  have x0 := X.out.c0
  go_wp2_with fail
  with_reducible refine (implSymbol_any _ _ _ _ N A x _ Q.out HK.out (by unfold maxLen; omega)).mono ?_
  rw [HS.out, HS2.out]
  rintro e w5 ⟨rfl, hb⟩
  replace hb := keepB hb (alloc_below _ (.cells #[.int .i64 S, .int .i64 S2] 38))
  replace D0 := hidden (D0.out.keep hb)
  replace B := hidden (keepB B.out hb)
  replace H := hidden (H.out.keep hb)
  replace R0 := hidden (R0.out.keep hb)
  replace Q := hidden (Q.out.keep hb)
  replace X := hidden (X.out.keep hb)
  clear x0 hb
  have R1 := hidden (Two.new w5 (.int .i64 S) (.int .i64 S2) 38)
  have r0 := R0.out.c0
  have r1 := R0.out.c1
  have r2 := R1.out.c0
  have r3 := R1.out.c1
  go_wp2_with fail
  with_reducible refine (eqInt_eq _ _ _).mono ?_
  rintro e w6 ⟨rfl, hb⟩
  replace D0 := hidden (D0.out.keep hb)
  replace B := hidden (keepB B.out hb)
  replace H := hidden (H.out.keep hb)
  replace R0 := hidden (R0.out.keep hb)
  replace Q := hidden (Q.out.keep hb)
  replace X := hidden (X.out.keep hb)
  replace R1 := hidden (R1.out.keep hb)
  clear r0 r1 r2 r3 hb
  have S1 := hidden (show ∀ wc, Below w6.heap.size w6 wc → Calls Try.prog 30 #[.agg #[.slice p n c]] wc fun e w' => ∃ g, e = .returned (.agg #[.slice (some ⟨g, 0, none⟩) n n]) ∧ Below w6.heap.size w6 w' ∧ Syms w' g 0 n N A ∧ w'.cell? ⟨w4.heap.size, 0, none⟩ = some (.slice (some ⟨g4, 0, none⟩) n n) from fun wc hc => by
    refine (toSig_new p n c N A wc (H.out.keep hc) HK.out).mono ?_
    rintro e w' ⟨g, rfl, hg, hl, hs, hb⟩
    exact ⟨g, rfl, keepB hc hb, hs, (X.out.keep (keepB hc hb)).c0⟩)
  have S2 := hidden (show ∀ wc g, Below w6.heap.size w6 wc → Syms wc g 0 n N A → Calls Try.prog 31 #[.agg #[.slice (some ⟨g4, 0, none⟩) n n], .agg #[.slice (some ⟨g, 0, none⟩) n n]] wc fun e w' => e = .returned (.bool true) ∧ Below w6.heap.size w6 w' from fun wc g hc hm => by
    refine (eqSignature_eq g4 0 g 0 n n n N A wc (Q.out.keep hc) hm HK.out.most).mono ?_
    rintro e w' ⟨rfl, hb⟩
    exact ⟨rfl, keepB hc hb⟩)
  have x0 := X.out.c0
  have d0 := D0.out.c0
  go_wp2_with fail
  go_cut [34] (fun t wc => t = .bool false ∧ Below w6.heap.size w6 wc)
  case first =>
    go_region_with (first
      | (go_at_call 30; with_reducible refine (S1.out _ ?_).mono ?_; exact (Below.refl _ _).drew; rintro e v5 ⟨g5', rfl, b5', m5', d5'⟩)
      | (go_at_call 31; with_reducible refine (S2.out _ _ b5' m5').mono ?_; rintro e v6 ⟨rfl, b6'⟩))
    all_goals (go_wp2_with fail; go_meet)
    all_goals exact ⟨rfl, b6'⟩
  case rest =>
    rename World => w7
    obtain ⟨rfl, hb⟩ := hcut
    replace D0 := hidden (D0.out.keep hb)
    replace B := hidden (keepB B.out hb)
    replace H := hidden (H.out.keep hb)
    replace R0 := hidden (R0.out.keep hb)
    replace Q := hidden (Q.out.keep hb)
    replace X := hidden (X.out.keep hb)
    replace R1 := hidden (R1.out.keep hb)
    clear x0 d0 hb S1 S2
    go_wp2_with fail
    go_ret
    exact ⟨rfl, B.out⟩

set_option maxHeartbeats 400000 in
theorem law_symbol_big (p : Option Addr) (n c : Nat) (x : ByteArray) (w : World) (hx : ¬ x.size ≤ 1048576) :
    Calls Try.prog 6 #[.agg #[.slice p n c], .string x] w fun e w' => e = .returned (.bool true) ∧ Below w.heap.size w w' := by
  have h : (1048576 : Int) < x.size := by omega
  go_enter Try.func6, Try.ntmps6
  go_wp2
  go_ret
  exact ⟨rfl, alloc_below _ _⟩

theorem law_symbol_all (p : Option Addr) (n c : Nat) (N : Nat → ByteArray) (A : Nat → Int) (x : ByteArray) (w : World) (h : SrcS w p n N A) :
    Calls Try.prog 6 #[.agg #[.slice p n c], .string x] w fun e w' => e = .returned (.bool true) ∧ Below w.heap.size w w' := by
  by_cases hx : x.size ≤ 1048576
  · exact law_symbol p n c N A x w h hx
  · exact law_symbol_big p n c x w hx

end Go.Proofs.Ytfoknnnoaeplaaa
