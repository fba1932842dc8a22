/- Law FnExactSameSignatures: at every two signatures the program's SameSignatures answers as the model's, and leaves both as they were. -/
import Derived.Test.YtfoknnnoaeplaaaKit
namespace Go.Proofs.Ytfoknnnoaeplaaa
open Go.RowKit

theorem specSame_all (b off b' off' n m c c' : Nat) (N M : Nat → ByteArray) (A C : Nat → Int) (w : World) (h : Syms w b off n N A) (h' : Syms w b' off' m M C) (hn : n ≤ 1048576) :
    Calls Try.prog 21 #[.agg #[.slice (some ⟨b, off, none⟩) n c], .agg #[.slice (some ⟨b', off', none⟩) m c']] w fun e w' => e = .returned (.bool (sameB n m N M A C)) ∧ Below w.heap.size w w' := by
  by_cases e : n = m
  · subst e; exact specSame_any b off b' off' n c c' N M A C w h h' hn
  · have : sameB n m N M A C = false := by simp [sameB, e]
    rw [this]; exact specSame_len _ _ n m c c' w e

theorem implSame_all (b off b' off' n m c c' : Nat) (N M : Nat → ByteArray) (A C : Nat → Int) (w : World) (h : Syms w b off n N A) (h' : Syms w b' off' m M C) (hn : n ≤ 1048576) :
    Calls Try.prog 20 #[.agg #[.slice (some ⟨b, off, none⟩) n c], .agg #[.slice (some ⟨b', off', none⟩) m c']] w fun e w' => e = .returned (.bool (sameB n m N M A C)) ∧ Below w.heap.size w w' := by
  by_cases e : n = m
  · subst e; exact implSame_any b off b' off' n c c' N M A C w h h' hn
  · have : sameB n m N M A C = false := by simp [sameB, e]
    rw [this]; exact implSame_len _ _ n m c c' w e

set_option maxHeartbeats 1600000 in
theorem law_same (p p' : Option Addr) (n m c c' : Nat) (N M : Nat → ByteArray) (A C : Nat → Int) (w : World) (h : SrcS w p n N A) (h' : SrcS w p' m M C) :
    Calls Try.prog 8 #[.agg #[.slice p n c], .agg #[.slice p' m c']] w fun e w' => e = .returned (.bool true) ∧ Below w.heap.size w w' := by
  generalize hS : sameB n m N M A C = S
  have HS := hidden hS
  have D0 := hidden ((One.new w (.slice p n c) 54).keep (alloc_below _ (.cells #[.slice p' m c'] 54)))
  have D1 := hidden (One.new (w.alloc (.cells #[.slice p n c] 54)) (.slice p' m c') 54)
  have B := hidden (keepB (alloc_below w (.cells #[.slice p n c] 54)) (alloc_below _ (.cells #[.slice p' m c'] 54)))
  have H := hidden (h.keep B.out)
  have H' := hidden (h'.keep B.out)
  clear h h' hS
  rw [World.size_alloc] at D1
  go_enter Try.func8, Try.ntmps8
  go_wp2_with fail
  refine (szSignature_src _ _ _ N A 1048576 _ H.out (by omega) (by omega)).mono ?_
  rintro e w1 ⟨⟨r1, rfl, hr⟩, hb⟩
  replace B := hidden (keepB B.out hb)
  replace D0 := hidden (D0.out.keep hb)
  replace D1 := hidden (D1.out.keep hb)
  replace H := hidden (H.out.keep hb)
  replace H' := hidden (H'.out.keep hb)
  clear hb
  rcases hr with rfl | ⟨q0, q1, q2, q3⟩
  · go_wp2_with fail
    go_ret
    exact ⟨rfl, B.out⟩
  have HK := hidden (Kept.mk q2 q3 H.out.fits)
  clear q2 q3
  have d1 := D1.out.c0
  go_wp2_with fail
  refine (szSignature_src _ _ _ M C _ _ H'.out q0 q1).mono ?_
  rintro e w2 ⟨⟨r2, rfl, hr⟩, hb⟩
  replace B := hidden (keepB B.out hb)
  replace D0 := hidden (D0.out.keep hb)
  replace D1 := hidden (D1.out.keep hb)
  replace H := hidden (H.out.keep hb)
  replace H' := hidden (H'.out.keep hb)
  clear hb d1 q0 q1
  rcases hr with rfl | ⟨q0, q1, q2, q3⟩
  · go_wp2_with fail
    go_ret
    exact ⟨rfl, B.out⟩
  have HK' := hidden (Kept.mk q2 q3 H'.out.fits)
  clear q1 q2 q3
  have S1 := hidden (show ∀ wc, Below w2.heap.size w2 wc → Calls Try.prog 30 #[.agg #[.slice p n c]] wc fun e w' => ∃ g, e = .returned (.agg #[.slice (some ⟨g, 0, none⟩) n n]) ∧ Below w2.heap.size w2 w' ∧ Syms w' g 0 n N A ∧ w'.cell? ⟨w.heap.size + 1, 0, none⟩ = some (.slice p' m c') from fun wc hc => by
    refine (toSig_new p n c N A wc (H.out.keep hc) HK.out).mono ?_
    rintro e w' ⟨g, rfl, hg, hl, hs, hb⟩
    exact ⟨g, rfl, keepB hc hb, hs, (D1.out.keep (keepB hc hb)).c0⟩)
  have S2 := hidden (show ∀ wc g, Below w2.heap.size w2 wc → Syms wc g 0 n N A → Calls Try.prog 30 #[.agg #[.slice p' m c']] wc fun e w' => ∃ g', e = .returned (.agg #[.slice (some ⟨g', 0, none⟩) m m]) ∧ Below w2.heap.size w2 w' ∧ Syms w' g 0 n N A ∧ Syms w' g' 0 m M C from fun wc g hc hm => by
    refine (toSig_new p' m c' M C wc (H'.out.keep hc) HK'.out).mono ?_
    rintro e w' ⟨g', rfl, hg, hl, hs, hb⟩
    exact ⟨g', rfl, keepB hc hb, hm.keep hb, hs⟩)
  have S3 := hidden (show ∀ wc g g', Below w2.heap.size w2 wc → Syms wc g 0 n N A → Syms wc g' 0 m M C → Calls Try.prog 21 #[.agg #[.slice (some ⟨g, 0, none⟩) n n], .agg #[.slice (some ⟨g', 0, none⟩) m m]] wc fun e w' => e = .returned (.bool S) ∧ Below w2.heap.size w2 w' from fun wc g g' hc hm hm' => by
    refine (specSame_all g 0 g' 0 n m n m N M A C wc hm hm' HK.out.most).mono ?_
    rintro e w' ⟨rfl, hb⟩
    exact ⟨by rw [HS.out], keepB hc hb⟩)
  have d0 := D0.out.c0
  have d1 := D1.out.c0
  go_wp2_with fail
  go_cut [6] (fun t wc => t = .bool S ∧ Below w2.heap.size w2 wc)
  case first =>
    go_region_with (first
      | (go_at_call 30; with_reducible refine (S1.out _ ?_).mono ?_; exact (Below.refl _ _).drew; rintro e w5 ⟨g5, rfl, b5, m5, d5⟩)
      | (go_at_call 30; with_reducible refine (S2.out _ g5 b5 m5).mono ?_; rintro e w6 ⟨g6, rfl, b6, m6, m7⟩)
      | (go_at_call 21; with_reducible refine (S3.out _ _ _ b6 m6 m7).mono ?_; rintro e w8 ⟨rfl, b8⟩))
    all_goals (go_wp2_with fail; go_meet)
    all_goals exact ⟨rfl, b8⟩
  case rest =>
    rename World => w3
    obtain ⟨rfl, hb⟩ := hcut
    replace B := hidden (keepB B.out hb)
    replace D0 := hidden (D0.out.keep hb)
    replace D1 := hidden (D1.out.keep hb)
    replace H := hidden (H.out.keep hb)
    replace H' := hidden (H'.out.keep hb)
    clear hb S1 S2 S3 d0 d1
    have d0 := D0.out.c0
    go_wp2_with fail
    with_reducible refine (toSig_new _ _ _ N A _ H.out HK.out).mono ?_
    rintro e w4 ⟨g4, rfl, hg4, hl4, s4, hb⟩
    replace hb := keepB hb (alloc_below _ (.cells #[.slice (some ⟨g4, 0, none⟩) n n] 26))
    replace B := hidden (keepB B.out hb)
    replace D0 := hidden (D0.out.keep hb)
    replace D1 := hidden (D1.out.keep hb)
    replace H := hidden (H.out.keep hb)
    replace H' := hidden (H'.out.keep hb)
    have Q4 := hidden (s4.keep (alloc_below _ (.cells #[.slice (some ⟨g4, 0, none⟩) n n] 26)))
    have X4 := hidden (One.new w4 (.slice (some ⟨g4, 0, none⟩) n n) 26)
    clear hb d0 hl4 s4 hg4
    have d1 := D1.out.c0
    go_wp2_with fail
    with_reducible refine (toSig_new _ _ _ M C _ H'.out HK'.out).mono ?_
    rintro e w5 ⟨g5, rfl, hg5, hl5, s5, hb⟩
    replace hb := keepB hb (alloc_below _ (.cells #[.slice (some ⟨g5, 0, none⟩) m m] 26))
    replace B := hidden (keepB B.out hb)
    replace D0 := hidden (D0.out.keep hb)
    replace D1 := hidden (D1.out.keep hb)
    replace H := hidden (H.out.keep hb)
    replace H' := hidden (H'.out.keep hb)
    replace Q4 := hidden (Q4.out.keep hb)
    replace X4 := hidden (X4.out.keep hb)
    have Q5 := hidden (s5.keep (alloc_below _ (.cells #[.slice (some ⟨g5, 0, none⟩) m m] 26)))
    have X5 := hidden (One.new w5 (.slice (some ⟨g5, 0, none⟩) m m) 26)
    clear hb d1 hl5 s5 hg5
    have x4 := X4.out.c0
    have x5 := X5.out.c0
    go_wp2_with fail
    with_reducible refine (implSame_all _ _ _ _ _ _ _ _ N M A C _ Q4.out Q5.out HK.out.most).mono ?_
    rw [HS.out]
    rintro e w6 ⟨rfl, hb⟩
    replace B := hidden (keepB B.out hb)
    replace D0 := hidden (D0.out.keep hb)
    replace D1 := hidden (D1.out.keep hb)
    replace H := hidden (H.out.keep hb)
    replace H' := hidden (H'.out.keep hb)
    replace Q4 := hidden (Q4.out.keep hb)
    replace X4 := hidden (X4.out.keep hb)
    replace Q5 := hidden (Q5.out.keep hb)
    replace X5 := hidden (X5.out.keep hb)
    clear hb x4 x5
    have S1 := hidden (show ∀ wc, Below w6.heap.size w6 wc → Calls Try.prog 30 #[.agg #[.slice p n c]] wc fun e w' => ∃ g, e = .returned (.agg #[.slice (some ⟨g, 0, none⟩) n n]) ∧ Below w6.heap.size w6 w' ∧ Syms w' g 0 n N A ∧ w'.cell? ⟨w4.heap.size, 0, none⟩ = some (.slice (some ⟨g4, 0, none⟩) n n) from fun wc hc => by
      refine (toSig_new p n c N A wc (H.out.keep hc) HK.out).mono ?_
      rintro e w' ⟨g, rfl, hg, hl, hs, hb⟩
      exact ⟨g, rfl, keepB hc hb, hs, (X4.out.keep (keepB hc hb)).c0⟩)
    have S2 := hidden (show ∀ wc g, Below w6.heap.size w6 wc → Syms wc g 0 n N A → Calls Try.prog 31 #[.agg #[.slice (some ⟨g4, 0, none⟩) n n], .agg #[.slice (some ⟨g, 0, none⟩) n n]] wc fun e w' => e = .returned (.bool true) ∧ Below w6.heap.size w6 w' from fun wc g hc hm => by
      refine (eqSignature_eq g4 0 g 0 n n n N A wc (Q4.out.keep hc) hm HK.out.most).mono ?_
      rintro e w' ⟨rfl, hb⟩
      exact ⟨rfl, keepB hc hb⟩)
    have x0 := X4.out.c0
    have d0 := D0.out.c0
    go_wp2_with fail
    go_cut [39] (fun t wc => t = .bool false ∧ Below w6.heap.size w6 wc)
    case first =>
      go_region_with (first
        | (go_at_call 30; with_reducible refine (S1.out _ ?_).mono ?_; exact (Below.refl _ _).drew; rintro e v5 ⟨g5', rfl, b5', m5', d5'⟩)
        | (go_at_call 31; with_reducible refine (S2.out _ _ b5' m5').mono ?_; rintro e v6 ⟨rfl, b6'⟩))
      all_goals (go_wp2_with fail; go_meet)
      all_goals exact ⟨rfl, b6'⟩
    case rest =>
      rename World => w7
      obtain ⟨rfl, hb⟩ := hcut
      replace B := hidden (keepB B.out hb)
      replace D0 := hidden (D0.out.keep hb)
      replace D1 := hidden (D1.out.keep hb)
      replace H := hidden (H.out.keep hb)
      replace H' := hidden (H'.out.keep hb)
      replace Q4 := hidden (Q4.out.keep hb)
      replace X4 := hidden (X4.out.keep hb)
      replace Q5 := hidden (Q5.out.keep hb)
      replace X5 := hidden (X5.out.keep hb)
      clear x0 d0 hb S1 S2
      have S1 := hidden (show ∀ wc, Below w7.heap.size w7 wc → Calls Try.prog 30 #[.agg #[.slice p' m c']] wc fun e w' => ∃ g, e = .returned (.agg #[.slice (some ⟨g, 0, none⟩) m m]) ∧ Below w7.heap.size w7 w' ∧ Syms w' g 0 m M C ∧ w'.cell? ⟨w5.heap.size, 0, none⟩ = some (.slice (some ⟨g5, 0, none⟩) m m) from fun wc hc => by
        refine (toSig_new p' m c' M C wc (H'.out.keep hc) HK'.out).mono ?_
        rintro e w' ⟨g, rfl, hg, hl, hs, hb⟩
        exact ⟨g, rfl, keepB hc hb, hs, (X5.out.keep (keepB hc hb)).c0⟩)
      have S2 := hidden (show ∀ wc g, Below w7.heap.size w7 wc → Syms wc g 0 m M C → Calls Try.prog 31 #[.agg #[.slice (some ⟨g5, 0, none⟩) m m], .agg #[.slice (some ⟨g, 0, none⟩) m m]] wc fun e w' => e = .returned (.bool true) ∧ Below w7.heap.size w7 w' from fun wc g hc hm => by
        refine (eqSignature_eq g5 0 g 0 m m m M C wc (Q5.out.keep hc) hm HK'.out.most).mono ?_
        rintro e w' ⟨rfl, hb⟩
        exact ⟨rfl, keepB hc hb⟩)
      have x0 := X5.out.c0
      have d0 := D1.out.c0
      go_wp2_with fail
      go_cut [44] (fun t wc => t = .bool false ∧ Below w7.heap.size w7 wc)
      case first =>
        go_region_with (first
          | (go_at_call 30; with_reducible refine (S1.out _ ?_).mono ?_; exact (Below.refl _ _).drew; rintro e v5 ⟨g5', rfl, b5', m5', d5'⟩)
          | (go_at_call 31; with_reducible refine (S2.out _ _ b5' m5').mono ?_; rintro e v6 ⟨rfl, b6'⟩))
        all_goals (go_wp2_with fail; go_meet)
        all_goals exact ⟨rfl, b6'⟩
      case rest =>
        rename World => w8
        obtain ⟨rfl, hb⟩ := hcut
        replace B := hidden (keepB B.out hb)
        replace D0 := hidden (D0.out.keep hb)
        replace D1 := hidden (D1.out.keep hb)
        replace H := hidden (H.out.keep hb)
        replace H' := hidden (H'.out.keep hb)
        replace Q4 := hidden (Q4.out.keep hb)
        replace X4 := hidden (X4.out.keep hb)
        replace Q5 := hidden (Q5.out.keep hb)
        replace X5 := hidden (X5.out.keep hb)
        clear x0 d0 hb S1 S2
        go_wp2_with fail
        go_ret
        exact ⟨rfl, B.out⟩

end Go.Proofs.Ytfoknnnoaeplaaa
