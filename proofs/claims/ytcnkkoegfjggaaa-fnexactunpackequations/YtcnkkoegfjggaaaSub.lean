/- Contracts: the term at a place: SubtermAt, as the model and as the program tells it. -/
import Derived.Test.YtcnkkoegfjggaaaSizeAt
import Derived.Test.YtcnkkoegfjggaaaTermRes
namespace Go.Proofs.Ytcnkkoegfjggaaa
open Go.RowKit

/-- An answer that holds a list: a code and nothing, or 0 and a list of its own. -/
def ListAns (w : World) (C : Int) (k : Nat) (U : Nat → Int) (e : Ending) (w' : World) : Prop :=
  (C ≠ 0 ∧ e = .returned (.agg #[.int .i64 C, .slice none 0 0])) ∨
  (C = 0 ∧ ∃ g d, e = .returned (.agg #[.int .i64 0, .slice (some ⟨g, 0, none⟩) k d]) ∧ w.heap.size ≤ g ∧ OwnI w' w.heap.size g k d U k)

/-- A part of a row of numbers. -/
theorem Ints.part {w : World} {b off n : Nat} {L : Nat → Int} (h : Ints w b off n L) {q k : Nat} (hq : q + k ≤ n) : Ints w b (off + q) k (fun i => L (q + i)) :=
  ⟨fun h0 => h.blk (by omega), fun i hi => by rw [Nat.add_assoc]; exact h.cell (q + i) (by omega)⟩

set_option maxRecDepth 20000 in
set_option maxHeartbeats 1600000 in
theorem l3Sub_any (B b off n c b' off' m c' q e : Nat) (N : Nat → ByteArray) (A T : Nat → Int) (w : World) (hd : One w B (.slice (some ⟨b, off, none⟩) n c)) (h : Syms w b off n N A) (h' : Ints w b' off' m T) (hg : Nods n A m T) (hq : q < m) (hc : m ≤ c') (he : skip (aOf A T) m q 1 = some e) :
    Calls Try.prog 37 #[.pointer (some ⟨B, 0, none⟩), .slice (some ⟨b', off', none⟩) m c', .int .i64 q] w fun r w' => ∃ g d, r = .returned (.slice (some ⟨g, 0, none⟩) (e - q) d) ∧ w.heap.size ≤ g ∧ OwnI w' w.heap.size g (e - q) d (fun i => T (q + i)) (e - q) ∧ Below w.heap.size w w' := by
  have hqe := (skip_le he).2 (by omega)
  have D := hidden hd
  have H := hidden h
  have H' := hidden h'
  have HG := hidden hg
  have HE := hidden (endV_some he)
  have hm24 := hg.most
  have g1 : q ≤ e := by omega
  have g2 : e ≤ c' := by omega
  have g3 : ¬ c' = q := by omega
  clear hd h h' hg he
  go_enter Try.func37, Try.ntmps37
  go_wp2_with fail
  with_reducible refine (l3End_any _ _ _ _ _ _ _ _ _ N A T HG.out m q (by omega) (by omega) _ D.out H.out H'.out).mono ?_
  rintro r w1 ⟨rfl, hb⟩
  rw [HE.out]
  have HB := hidden hb
  have I1 := hidden ((H'.out.keep hb).part (q := q) (k := e - q) (by omega))
  clear hb
  go_wp2_with fail
  with_reducible refine (l1Ints_any _ _ _ _ _ _ I1.out (by omega)).mono ?_
  rintro r w2 ⟨g, d, rfl, hgg, ho, hb⟩
  have O := hidden ho
  have B2 := hidden (keepB HB.out hb)
  have hs := HB.out.size
  clear hb ho
  go_wp2
  go_ret
  exact ⟨g, d, rfl, by omega, O.out.base (by omega), B2.out⟩

set_option maxRecDepth 20000 in
set_option maxHeartbeats 1600000 in
theorem termThere_any (b off n c b' off' m c' q : Nat) (N : Nat → ByteArray) (A T : Nat → Int) (w : World) (h : Syms w b off n N A) (h' : Ints w b' off' m T) (hg : Trm n A m T) (hq : q < m) (hc : m ≤ c') :
    Calls Try.prog 41 #[.agg #[.slice (some ⟨b, off, none⟩) n c], .slice (some ⟨b', off', none⟩) m c', .int .i64 q] w fun e w' => e = .returned (.slice (some ⟨b', off' + q, none⟩) (manyN (aOf A T) m q) (c' - q)) ∧ Below w.heap.size w w' := by
  have D := hidden (One.new w (.slice (some ⟨b, off, none⟩) n c) 32)
  have B := hidden (alloc_below w (.cells #[.slice (some ⟨b, off, none⟩) n c] 32))
  have Q := hidden (h.keep B.out)
  have I := hidden (h'.keep B.out)
  have hm24 := hg.nods.most
  have hle := manyN_le (a := aOf A T) (m := m) (p := q) (by omega)
  have HG := hidden hg
  have d0 := D.out.c0
  clear h h' hg
  go_enter Try.func41, Try.ntmps41
  go_wp2_with fail
  with_reducible refine (sizeThere_any _ _ _ _ _ _ _ _ _ N A T _ Q.out I.out HG.out.nods HG.out.sig.least hq hc).mono ?_
  rintro e2 w3 ⟨rfl, hb⟩
  clear d0
  have B3 := hidden (keepB B.out hb)
  clear hb D Q I B
  generalize hk : manyN (aOf A T) m q = k at *
  have HE := hidden hk
  clear hk
  have g1 : q ≤ q + k := by omega
  have g2 : q + k ≤ c' := by omega
  have g3 : ¬ c' = q := by omega
  go_wp2
  go_ret
  exact ⟨by rw [HE.out, Nat.add_sub_cancel_left]; rfl, B3.out⟩

section
variable {n : Nat} {N : Nat → ByteArray} {A : Nat → Int} {m : Nat} {T : Nat → Int} {x : Int}
theorem sub_fault (h : termF n N A m T ≠ 0) : szC n N A m T x ≠ 0 := by rw [(sz_fault h).1]; exact h
theorem sub_range (h : termF n N A m T = 0) (hx : inB x m = false) : szC n N A m T x ≠ 0 := by rw [(sz_range h hx).1]; decide
end

set_option maxRecDepth 20000 in
set_option maxHeartbeats 1600000 in
theorem specSub_any (b off n c b' off' m c' : Nat) (N : Nat → ByteArray) (A T : Nat → Int) (x : Int) (w : World) (h : Syms w b off n N A) (h' : Ints w b' off' m T) (hk : Kept n N A) (hm : m ≤ 1048576) (hc : m ≤ c') :
    Calls Try.prog 8 #[.agg #[.slice (some ⟨b, off, none⟩) n c], .slice (some ⟨b', off', none⟩) m c', .int .i64 x] w fun e w' => ListAns w (szC n N A m T x) (manyN (aOf A T) m x.toNat) (fun i => T (x.toNat + i)) e w' ∧ Below w.heap.size w w' := by
  have D := hidden ((One.new w (.slice (some ⟨b, off, none⟩) n c) 32).keep (alloc_below _ (.cells #[.int .i64 0, .slice none 0 0] 28)))
  have R := hidden (Res.new (w.alloc (.cells #[.slice (some ⟨b, off, none⟩) n c] 32)) (.int .i64 0) (.slice none 0 0) 28)
  have B := hidden (keepB (alloc_below w (.cells #[.slice (some ⟨b, off, none⟩) n c] 32)) (alloc_below _ (.cells #[.int .i64 0, .slice none 0 0] 28)))
  have Q := hidden (h.keep B.out)
  have I := hidden (h'.keep B.out)
  have HK := hidden hk
  rw [World.size_alloc] at R
  clear h h' hk
  go_enter Try.func8, Try.ntmps8
  go_wp2_with fail
  with_reducible refine (specTerm_any _ _ _ _ _ _ _ _ N A T _ Q.out I.out HK.out hm).mono ?_
  rintro e w1 ⟨rfl, hb⟩
  replace D := hidden (D.out.keep hb)
  replace R := hidden (R.out.keep hb)
  replace B := hidden (keepB B.out hb)
  replace I := hidden (I.out.keep hb)
  replace Q := hidden (Q.out.keep hb)
  clear hb
  by_cases hf : termF n N A m T = 0
  · have HF := hidden hf
    rw [hf]
    clear hf
    go_wp2_with fail
    with_reducible refine (l3Place_any _ _ _ _ _ hm).mono ?_
    rintro e w2 ⟨rfl, hb⟩
    replace D := hidden (D.out.keep hb)
    replace R := hidden (R.out.keep hb)
    replace B := hidden (keepB B.out hb)
    replace I := hidden (I.out.keep hb)
    replace Q := hidden (Q.out.keep hb)
    clear hb
    generalize hx : inB x m = ib
    cases ib
    · have HA := hidden (sz_range HF.out hx).1
      have HN := hidden (sub_range HF.out hx)
      clear hx
      obtain ⟨_, q0, q1, f0, f1⟩ := id R.out
      go_wp2
      exact bodyPost_ret (v := .agg #[.int .i64 3, .slice none 0 0]) (by simp [results, Try.results8, go_sem, q0, q1]) rfl ⟨Or.inl ⟨HN.out, by rw [HA.out]⟩, (B.out.setCell (by simp) _).setCell (by simp) _⟩
    · have HA := hidden (sz_ok HF.out hx).1
      obtain ⟨q, e, rfl, hq, hs, hqe, hem, hE⟩ := place_ok HF.out hx
      have HS := hidden hs
      have HE := hidden (show manyN (aOf A T) m q = e - q by omega)
      clear hx hs hE
      go_wp2_with fail
      with_reducible refine (l3Sub_any _ _ _ _ _ _ _ _ _ _ _ N A T _ D.out Q.out I.out (term_right HF.out).nods hq hc HS.out).mono ?_
      rintro r w3 ⟨g, d, rfl, hgg, ho, hb⟩
      have O := hidden ho
      have hR := R.out.blk
      have hBs := B.out.size
      replace R := hidden (R.out.keep hb)
      replace B := hidden (keepB B.out hb)
      clear hb D I Q ho
      obtain ⟨_, q0, q1, f0, f1⟩ := id R.out
      go_wp2
      exact bodyPost_ret (v := .agg #[.int .i64 0, .slice (some ⟨g, 0, none⟩) (e - q) d]) (by simp [results, Try.results8, go_sem, q0, q1]) rfl ⟨Or.inr ⟨HA.out, g, d, by rw [Int.toNat_natCast, HE.out], by omega, by
        rw [Int.toNat_natCast, HE.out]; exact ((O.out.other _ _ (by simp; omega)).other _ _ (by simp; omega)).base (by omega)⟩, (B.out.setCell (by simp) _).setCell (by simp) _⟩
  · have HA := hidden (sz_fault (x := x) hf).1
    have HN := hidden (sub_fault (x := x) hf)
    have hf' : (termF n N A m T != 0) = true := by simpa using hf
    generalize termF n N A m T = z at *
    clear hf
    obtain ⟨_, q0, q1, f0, f1⟩ := id R.out
    go_wp2
    exact bodyPost_ret (v := .agg #[.int .i64 z, .slice none 0 0]) (by simp [results, Try.results8, go_sem, q0, q1]) rfl ⟨Or.inl ⟨HN.out, by rw [HA.out]⟩, (B.out.setCell (by simp) _).setCell (by simp) _⟩

set_option maxRecDepth 20000 in
set_option maxHeartbeats 1600000 in
theorem implSub_any (b off n c b' off' m c' : Nat) (N : Nat → ByteArray) (A T : Nat → Int) (x : Int) (w : World) (h : Syms w b off n N A) (h' : Ints w b' off' m T) (hk : Kept n N A) (hm : m ≤ 1048576) (hc : m ≤ c') :
    Calls Try.prog 11 #[.agg #[.slice (some ⟨b, off, none⟩) n c], .slice (some ⟨b', off', none⟩) m c', .int .i64 x] w fun e w' => ListAns w (szC n N A m T x) (manyN (aOf A T) m x.toNat) (fun i => T (x.toNat + i)) e w' ∧ Below w.heap.size w w' := by
  have D := hidden ((One.new w (.slice (some ⟨b, off, none⟩) n c) 32).keep (alloc_below _ (.cells #[.int .i64 0, .slice none 0 0] 28)))
  have R := hidden (Res.new (w.alloc (.cells #[.slice (some ⟨b, off, none⟩) n c] 32)) (.int .i64 0) (.slice none 0 0) 28)
  have B := hidden (keepB (alloc_below w (.cells #[.slice (some ⟨b, off, none⟩) n c] 32)) (alloc_below _ (.cells #[.int .i64 0, .slice none 0 0] 28)))
  have Q := hidden (h.keep B.out)
  have I := hidden (h'.keep B.out)
  have HK := hidden hk
  rw [World.size_alloc] at R
  clear h h' hk
  go_enter Try.func11, Try.ntmps11
  go_wp2_with fail
  with_reducible refine (placeFault_any _ _ _ _ _ _ _ _ N A T x _ Q.out I.out HK.out hm).mono ?_
  rintro e w1 ⟨rfl, hb⟩
  replace D := hidden (D.out.keep hb)
  replace R := hidden (R.out.keep hb)
  replace B := hidden (keepB B.out hb)
  replace I := hidden (I.out.keep hb)
  replace Q := hidden (Q.out.keep hb)
  clear hb
  by_cases hf : termF n N A m T = 0
  · have HF := hidden hf
    clear hf
    generalize hx : inB x m = ib
    cases ib
    · have HA := hidden (sz_range HF.out hx).1
      have HN := hidden (sub_range HF.out hx)
      rw [HA.out]
      clear hx
      obtain ⟨_, q0, q1, f0, f1⟩ := id R.out
      go_wp2
      exact bodyPost_ret (v := .agg #[.int .i64 3, .slice none 0 0]) (by simp [results, Try.results11, go_sem, q0, q1]) rfl ⟨Or.inl ⟨HN.out, by rw [HA.out]⟩, (B.out.setCell (by simp) _).setCell (by simp) _⟩
    · have HA := hidden (sz_ok HF.out hx).1
      rw [HA.out]
      obtain ⟨q, e, rfl, hq, hs, hqe, hem, hE⟩ := place_ok HF.out hx
      have hm24 := (term_right HF.out).nods.most
      have d0 := D.out.c0
      clear hx hs
      go_wp2_with fail
      with_reducible refine (termThere_any _ _ _ _ _ _ _ _ _ N A T _ Q.out I.out (term_right HF.out) hq hc).mono ?_
      rintro e2 w3 ⟨rfl, hb⟩
      clear d0
      replace R := hidden (R.out.keep hb)
      replace B := hidden (keepB B.out hb)
      replace I := hidden (I.out.keep hb)
      clear hb D Q
      generalize hk : manyN (aOf A T) m q = k at *
      have HE := hidden hk
      clear hk
      have I1 := hidden (I.out.part (q := q) (k := k) (by omega))
      clear I
      go_wp2_with fail
      with_reducible refine (clone_any _ _ _ _ _ _ I1.out (by omega)).mono ?_
      rintro r w4 ⟨g, d, rfl, hgg, ho, hb⟩
      have O := hidden ho
      have hR := R.out.blk
      have hBs := B.out.size
      replace R := hidden (R.out.keep hb)
      replace B := hidden (keepB B.out hb)
      clear hb ho
      obtain ⟨_, q0, q1, f0, f1⟩ := id R.out
      go_wp2
      exact bodyPost_ret (v := .agg #[.int .i64 0, .slice (some ⟨g, 0, none⟩) k d]) (by simp [results, Try.results11, go_sem, q0, q1]) rfl ⟨Or.inr ⟨HA.out, g, d, by rw [Int.toNat_natCast, HE.out], by omega, by
        rw [Int.toNat_natCast, HE.out]; exact ((O.out.other _ _ (by simp; omega)).other _ _ (by simp; omega)).base (by omega)⟩, (B.out.setCell (by simp) _).setCell (by simp) _⟩
  · have HA := hidden (sz_fault (x := x) hf).1
    have HN := hidden (sub_fault (x := x) hf)
    rw [HA.out]
    have hf' : (termF n N A m T != 0) = true := by simpa using hf
    generalize termF n N A m T = z at *
    clear hf
    obtain ⟨_, q0, q1, f0, f1⟩ := id R.out
    go_wp2
    exact bodyPost_ret (v := .agg #[.int .i64 z, .slice none 0 0]) (by simp [results, Try.results11, go_sem, q0, q1]) rfl ⟨Or.inl ⟨HN.out, by rw [HA.out]⟩, (B.out.setCell (by simp) _).setCell (by simp) _⟩

end Go.Proofs.Ytcnkkoegfjggaaa
