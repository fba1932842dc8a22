/- Law FnSums: one byte that is turned turns the sum; a pair is read back. -/
import Derived.Test.YtcjpmpbepmjgkaaSumMath
import Derived.Test.YtcjpmpbepmjgkaaPair
import Derived.Deep.RegionWith
import Derived.Deep.DeepCutAuto
namespace Go.Proofs.Ytcjpmpbepmjgkaa
open Go.RowKit

def sumC (l : List Int) : Int := if 2000 < l.length then 2 else 0
def sumV (l : List Int) : Int := if 2000 < l.length then 0 else sumL l

theorem specSum_all (b off n c : Nat) (l : List Int) (w : World) (h : Row w b off n l) :
    Calls Try.prog 10 #[.slice (some ⟨b, off, none⟩) n c] w fun e w' => e = .returned (.agg #[.int .i64 (sumC l), .int .i64 (sumV l)]) ∧ Below w.heap.size w w' := by
  by_cases hn : 2000 < n
  · rw [sumC, sumV, if_pos (by rw [h.len]; exact hn), if_pos (by rw [h.len]; exact hn)]
    exact specSum_many _ _ _ _ hn
  · rw [sumC, sumV, if_neg (by rw [h.len]; exact hn), if_neg (by rw [h.len]; exact hn)]
    exact specSum_any _ _ _ _ _ _ h hn

theorem implSum_all (b off n c : Nat) (l : List Int) (w : World) (h : Row w b off n l) :
    Calls Try.prog 7 #[.slice (some ⟨b, off, none⟩) n c] w fun e w' => e = .returned (.agg #[.int .i64 (sumC l), .int .i64 (sumV l)]) ∧ Below w.heap.size w w' := by
  by_cases hn : 2000 < n
  · rw [sumC, sumV, if_pos (by rw [h.len]; exact hn), if_pos (by rw [h.len]; exact hn)]
    exact implSum_many _ _ _ _ hn
  · rw [sumC, sumV, if_neg (by rw [h.len]; exact hn), if_neg (by rw [h.len]; exact hn)]
    exact implSum_any _ _ _ _ _ _ h hn

set_option maxHeartbeats 800000 in
theorem law_sums_big (p : Option Addr) (n c : Nat) (w : World) (h : 1048576 < n) :
    Calls Try.prog 3 #[.slice p n c] w fun e w' => e = .returned (.bool true) ∧ Below w.heap.size w w' := by
  go_enter Try.func3, Try.ntmps3
  go_wp2
  go_ret
  exact ⟨rfl, Below.refl _ _⟩

/-- What PairOf answers: a code, and, where it is 0, two bytes in memory. -/
def PairAns (w : World) (B : Nat) (x pc : Int) (q : Option Addr) (k d : Nat) : Prop :=
  (pc = 3 ∧ q = none ∧ k = 0 ∧ d = 0 ∧ (x < 0 ∨ 65535 < x)) ∨ (pc = 0 ∧ 0 ≤ x ∧ x ≤ 65535 ∧ ∃ g, q = some ⟨g, 0, none⟩ ∧ k = 2 ∧ B ≤ g ∧ w.ownsRow B 5 1 (.slice (some ⟨g, 0, none⟩) 2 d) 2 ([x / 256, x % 256].map (Value.int .u8)))

theorem implPairOf_all (x : Int) (w : World) :
    Calls Try.prog 9 #[.int .i64 x] w fun e w' => ∃ (pc : Int) (q : Option Addr) (k d : Nat), e = .returned (.agg #[.int .i64 pc, .slice q k d]) ∧ PairAns w' w.heap.size x pc q k d ∧ Below w.heap.size w w' := by
  by_cases hn : x < 0 ∨ 65535 < x
  · refine (implPairOf_out x w hn).mono ?_
    rintro e w' ⟨rfl, hb⟩
    exact ⟨3, none, 0, 0, rfl, Or.inl ⟨rfl, rfl, rfl, rfl, hn⟩, hb⟩
  · refine (implPairOf_in x w (by omega) (by omega)).mono ?_
    rintro e w' ⟨g, d, rfl, hg, ho, hb⟩
    exact ⟨0, some ⟨g, 0, none⟩, 2, d, rfl, Or.inr ⟨rfl, by omega, by omega, g, rfl, rfl, hg, ho⟩, hb⟩

theorem specPairOf_code (x : Int) (w : World) :
    Calls Try.prog 11 #[.int .i64 x] w fun e w' => ∃ (v : Value), e = .returned (.agg #[.int .i64 (if x < 0 ∨ 65535 < x then 3 else 0), v]) ∧ Below w.heap.size w w' := by
  by_cases hn : x < 0 ∨ 65535 < x
  · rw [if_pos hn]
    refine (specPairOf_out x w hn).mono ?_
    rintro e w' ⟨rfl, hb⟩
    exact ⟨_, rfl, hb⟩
  · rw [if_neg hn]
    refine (specPairOf_in x w (by omega) (by omega)).mono ?_
    rintro e w' ⟨g, rfl, _, _, hb⟩
    exact ⟨_, rfl, hb⟩

set_option maxHeartbeats 800000 in
theorem lwBig_no (p : Option Addr) (n c : Nat) (w : World) (h : n ≤ 1048576) :
    Calls Try.prog 5 #[.slice p n c] w fun e w' => e = .returned (.bool false) ∧ w = w' := by
  have h1 : decide (1048576 < (n : Int)) = false := by simp; omega
  go_enter Try.func5, Try.ntmps5
  go_wp2
  go_ret
  exact ⟨rfl, rfl⟩

theorem ownsRow_later {w w' : World} {B B' e size g n c : Nat} {xs : List Value} (h : w.ownsRow B e size (.slice (some ⟨g, 0, none⟩) n c) n xs) (hb : Below B' w w') (hg : g < B') : w'.ownsRow B e size (.slice (some ⟨g, 0, none⟩) n c) n xs := by
  refine ⟨h.1, h.2.imp id ?_⟩
  rintro ⟨g', cap, cur, h1, h2, h3, h4⟩
  have e : g' = g := by simp at h1; exact h1.1.symm
  subst e
  exact ⟨g', cap, cur, h1, h2, by rw [hb.block g' hg]; exact h3, h4⟩

theorem Two.grown {w w' : World} {b g : Nat} {x y : Value} (h : Two w b x y) (hg : w.grownBy w' (some g)) (hne : b ≠ g) : Two w' b x y :=
  ⟨Nat.lt_of_lt_of_le h.blk hg.size, hg.cell h.c0 (by simpa using hne), hg.cell h.c1 (by simpa using hne)⟩

theorem Row.grown {w w' : World} {b off n g : Nat} {l : List Int} (h : Row w b off n l) (hg : w.grownBy w' (some g)) (hne : b ≠ g) : Row w' b off n l :=
  ⟨h.len, h.most, h.byt, Nat.lt_of_lt_of_le h.blk hg.size, fun i hi => hg.cell (h.cell i hi) (by simpa using hne)⟩

theorem pair_byt (n : Int) (h0 : 0 ≤ n) (h1 : n ≤ 65535) (i : Nat) : 0 ≤ [n / 256, n % 256].getD i 0 ∧ [n / 256, n % 256].getD i 0 ≤ 255 := by
  match i with
  | 0 => simp; omega
  | 1 => simp; omega
  | k + 2 => simp

theorem alloc_below (w : World) (o : Obj) : Below w.heap.size w (w.alloc o) := (Below.refl _ _).alloc (Nat.le_refl _) o
theorem fld26 (a b : Value) (w : World) : (Instr.field 26 (.agg #[a, b]) 0).run Try.prog w = .ok a w := by kernel_rfl
theorem fld30 (a b : Value) (w : World) : (Instr.field 30 (.agg #[a, b]) 0).run Try.prog w = .ok a w := by kernel_rfl
theorem Row.keep {w w' : World} {b off n : Nat} {l : List Int} (h : Row w b off n l) (hb : Below w.heap.size w w') : Row w' b off n l := h.later hb h.blk
theorem Two.keep {w w' : World} {b : Nat} {x y : Value} (h : Two w b x y) (hb : Below w.heap.size w w') : Two w' b x y := h.later hb h.blk

theorem wrap_v (v : Int) (h0 : 0 ≤ v) (h1 : v < 255) : IntKind.u8.wrap (IntKind.i64.wrap (1 + v)) = 1 + v := by
  obtain ⟨k, rfl⟩ := Int.eq_ofNat_of_zero_le h0
  have e : (1 : Int) + (k : Int) = ((1 + k : Nat) : Int) := by omega
  rw [e, wrap_small _ (by omega), IntKind.wrap_u8']
  omega

set_option maxHeartbeats 1600000 in
set_option maxRecDepth 100000 in
theorem law_sums (p : Option Addr) (n c : Nat) (l : List Int) (w : World) (h : Src w p n l) (hm : n ≤ 1048576) :
    Calls Try.prog 3 #[.slice p n c] w fun e w' => e = .returned (.bool true) ∧ Below w.heap.size w w' := by
  have H : Hid (Src w p n l) := h
  clear h
  go_enter Try.func3, Try.ntmps3
  go_wp2_with fail
  refine (lwBig_no _ _ _ _ hm).mono ?_
  rintro e w' ⟨rfl, rfl⟩
  go_wp2_with fail
  refine (drawSumOf_any _ _ _ l _ H.out).mono ?_
  rintro e w1 ⟨g, m, d, r, rfl, hm1, hg, o1, hr, b1⟩
  have R1 : Hid (Row w1 g 0 m r) := ownRow o1 (by omega) hr
  have B1 : Hid (Below w.heap.size w w1) := b1
  have hgw := hg
  clear o1 hr b1
  go_wp2_with fail
  generalize hC : sumC r = sc
  generalize hV : sumV r = sv
  have HC : Hid _ := hC
  have HV : Hid _ := hV
  clear hC hV
  refine (implSum_all _ _ _ _ r _ R1.out).mono ?_
  rw [HC.out, HV.out]
  rintro e w2 ⟨rfl, hb2⟩
  have B2 : Hid (Below w.heap.size w w2) := B1.out.trans (hb2.mono B1.out.size)
  have R2 : Hid (Row w2 g 0 m r) := R1.out.keep hb2
  clear hb2 R1 B1
  go_wp2_with fail
  refine (drawPairOf_any _ _ _ l _ (H.out.later (B2.out.alloc B2.out.size _))).mono ?_
  rintro e w3 ⟨x, rfl, hx0, hx1, hb3⟩
  have B3 : Hid (Below w.heap.size w w3) := (B2.out.alloc B2.out.size _).trans (hb3.mono (by have := B2.out.size; simp; omega))
  have T3 : Hid (Two w3 w2.heap.size (.int .i64 sc) (.int .i64 sv)) := (Two.new w2 (.int .i64 sc) (.int .i64 sv) 26).keep hb3
  have R3 : Hid (Row w3 g 0 m r) := (R2.out.keep (alloc_below _ _)).keep hb3
  clear hb3 R2 B2
  go_wp2_with fail
  refine (implPairOf_all x _).mono ?_
  rintro e w4 ⟨pc, pq, pk, pd, rfl, pa, hb4⟩
  have B4 : Hid (Below w.heap.size w w4) := B3.out.trans (hb4.mono B3.out.size)
  have T4 : Hid (Two w4 w2.heap.size (.int .i64 sc) (.int .i64 sv)) := T3.out.keep hb4
  have R4 : Hid (Row w4 g 0 m r) := R3.out.keep hb4
  have P4 : Hid (PairAns w4 w3.heap.size x pc pq pk pd) := pa
  have z4 : w2.heap.size < w4.heap.size := T4.out.blk
  clear hb4 R3 B3 T3 pa
  go_wp2_with fail
  have KP : Hid (pc = if x < 0 ∨ 65535 < x then 3 else 0) := by
    rcases P4.out with ⟨h1, _, _, _, h2⟩ | ⟨h1, h2, h3, _⟩
    · rw [h1, if_pos h2]; rfl
    · rw [h1, if_neg (by omega)]; rfl
  have W : ∃ W, W = w4.alloc (Obj.cells #[Value.int IntKind.i64 pc, Value.slice pq pk pd] 30) := ⟨_, rfl⟩
  obtain ⟨W, hW⟩ := W
  rw [← hW]
  have B5 : Hid (Below w.heap.size w W) := by rw [hW]; exact B4.out.alloc B4.out.size _
  have T5 : Hid (Two W w2.heap.size (.int .i64 sc) (.int .i64 sv)) := by rw [hW]; exact T4.out.keep (alloc_below _ _)
  have Q5 : Hid (Two W w4.heap.size (.int .i64 pc) (.slice pq pk pd)) := by rw [hW]; exact Two.new _ _ _ _
  have R5 : Hid (Row W g 0 m r) := by rw [hW]; exact R4.out.keep (alloc_below _ _)
  have P5 : Hid (PairAns W w3.heap.size x pc pq pk pd) := by
    rcases P4.out with h1 | ⟨h1, h2, h3, g', h4, h5, h6, h7⟩
    · exact Or.inl h1
    · exact Or.inr ⟨h1, h2, h3, g', h4, h5, h6, by rw [hW]; exact h7.alloc _⟩
  clear hW B4 T4 R4 P4
  obtain ⟨y1, q1, q2⟩ := id T5.out
  obtain ⟨y2, q3, q4⟩ := id Q5.out
  have S1 : Hid (∀ w', Below W.heap.size W w' → Calls Try.prog 10 #[.slice (some ⟨g, 0, none⟩) m d] w' fun e w'' => e = .returned (.agg #[.int .i64 sc, .int .i64 sv]) ∧ Below W.heap.size W w'' ∧ w''.cell? ⟨w2.heap.size, 0, none⟩ = some (.int .i64 sc) ∧ w''.cell? ⟨w4.heap.size, 0, none⟩ = some (.int .i64 pc)) := by
    intro w' hw'
    refine (specSum_all _ _ _ _ r _ (R5.out.keep hw')).mono ?_
    rw [HC.out, HV.out]
    rintro e w'' ⟨rfl, hb⟩
    have bb := hw'.trans (hb.mono hw'.size)
    exact ⟨rfl, bb, (T5.out.keep bb).c0, (Q5.out.keep bb).c0⟩
  have S2 : Hid (∀ w', Below W.heap.size W w' → Calls Try.prog 11 #[.int .i64 x] w' fun e w'' => ∃ v, e = .returned (.agg #[.int .i64 pc, v]) ∧ Below W.heap.size W w'' ∧ w''.cell? ⟨w2.heap.size, 0, none⟩ = some (.int .i64 sc) ∧ w''.cell? ⟨w4.heap.size, 0, none⟩ = some (.int .i64 pc)) := by
    intro w' hw'
    refine (specPairOf_code x _).mono ?_
    rw [← KP.out]
    rintro e w'' ⟨v, rfl, hb⟩
    have bb := hw'.trans (hb.mono hw'.size)
    exact ⟨v, rfl, bb, (T5.out.keep bb).c0, (Q5.out.keep bb).c0⟩
  have F1 := fld26
  have F2 := fld30
  go_cut [33] (fun t wc => t = .bool false ∧ Below W.heap.size W wc)
  case first =>
    go_region_with (first | (go_at_call 10; refine (S1.out _ ?_).mono ?_; (first | exact Below.refl _ _ | exact (Below.refl _ _).drew); rintro e w5 ⟨rfl, hb5, hc5, hd5⟩) | (go_at_call 11; refine (S2.out _ ?_).mono ?_; (first | assumption | exact Below.drew (by assumption)); rintro e w6 ⟨v6, rfl, hb6, hc6, hd6⟩))
    all_goals (go_wp2_with fail; go_meet)
    all_goals (first | exact ⟨rfl, hb6⟩ | exact ⟨rfl, hb5⟩)
  case rest =>
    rename World => w5
    obtain ⟨rfl, bc⟩ := hcut
    have B6 : Hid (Below w.heap.size w w5) := B5.out.trans (bc.mono B5.out.size)
    have T6 : Hid (Two w5 w2.heap.size (.int .i64 sc) (.int .i64 sv)) := T5.out.keep bc
    have Q6 : Hid (Two w5 w4.heap.size (.int .i64 pc) (.slice pq pk pd)) := Q5.out.keep bc
    have R6 : Hid (Row w5 g 0 m r) := R5.out.keep bc
    have P6 : Hid (PairAns w5 w3.heap.size x pc pq pk pd) := by
      rcases P5.out with h1 | ⟨h1, h2, h3, g', h4, h5, h6, h7⟩
      · exact Or.inl h1
      · exact Or.inr ⟨h1, h2, h3, g', h4, h5, h6, ownsRow_later h7 bc (h7.lt g' rfl).2⟩
    clear bc B5 T5 Q5 R5 P5 S1 S2 q1 q2 q3 q4 y1 y2 KP F1 F2
    obtain ⟨y1, q1, q2⟩ := id T6.out
    obtain ⟨y2, q3, q4⟩ := id Q6.out
    go_upto_region 9 with fail
    go_cut [44] (fun t wd => t = .bool false ∧ Below w5.heap.size w5 wd)
    case first =>
      rcases P6.out with ⟨rfl, rfl, rfl, rfl, hx⟩ | ⟨rfl, h0, h1, g', rfl, rfl, hg', ho⟩
      · clear hx
        go_wp2_with fail
        go_meet
        exact ⟨rfl, Below.refl _ _⟩
      · have ro : Hid (Row w5 g' 0 2 [x / 256, x % 256]) := ownRow ho (by omega) (pair_byt x h0 h1)
        have hd2 : 2 ≤ pd := by
          rcases ho.2 with ⟨hv, _⟩ | ⟨_, cap, _, hv, _, _, hcap, _⟩
          · simp at hv
          · simp at hv; omega
        clear ho
        go_wp2_with fail
        refine (implPairAt_in g' 0 2 pd 0 [x / 256, x % 256] _ ro.out (by omega) (by omega) hd2).mono ?_
        rintro e wd ⟨rfl, hb⟩
        go_wp2_with fail
        go_meet
        exact ⟨rfl, hb⟩
    case rest =>
      rename World => wd
      obtain ⟨rfl, bd⟩ := hcut
      have B7 : Hid (Below w.heap.size w wd) := B6.out.trans (bd.mono B6.out.size)
      have T7 : Hid (Two wd w2.heap.size (.int .i64 sc) (.int .i64 sv)) := T6.out.keep bd
      have R7 : Hid (Row wd g 0 m r) := R6.out.keep bd
      clear bd B6 T6 Q6 R6 P6 q1 q2 q3 q4 y1 y2
      obtain ⟨y1, q1, q2⟩ := id T7.out
      by_cases hm2 : 2000 < m
      · have e : sc = 2 := by rw [← HC.out, sumC, if_pos (by rw [R7.out.len]; exact hm2)]
        subst e
        go_wp2_with fail
        go_ret
        exact ⟨rfl, B7.out⟩
      · have e : sc = 0 := by rw [← HC.out, sumC, if_neg (by rw [R7.out.len]; exact hm2)]
        have e' : sv = sumL r := by rw [← HV.out, sumV, if_neg (by rw [R7.out.len]; exact hm2)]
        subst e
        by_cases hm0 : m = 0
        · subst hm0
          go_wp2_with fail
          go_ret
          exact ⟨rfl, B7.out⟩
        · have hm3 : ((m : Int) == 0) = false := by simp; omega
          have E' : Hid (sv = sumL r) := e'
          have hsv := sumL_bd r
          rw [← e'] at hsv
          have HM : Hid (¬ 2000 < m) := hm2
          clear e'
          have HL : Hid (r.length = m) := R7.out.len
          go_wp2_with (at_builtin; refine wpList_append_own _ rfl _ _ 22 rfl wd.heap.size 5 _ (.int .u8 0) 1 1 Try.underlying22 rfl rfl rfl rfl rfl (by decide) _ _ _ rfl (World.ownsRow_made wd #[] 0 (Nat.le_refl _) (Nat.zero_le _) rfl) ⟨g, 0, none⟩ m d (r.map (Value.int .u8)) rfl ?qc1 ?qc2 (byteNews r) ?qc4 ?qc5 ?qc6 ?_)
          case qc1 => rw [List.length_map, HL.out]; omega
          case qc2 =>
            intro j u hj
            have hjn : j < m := by
              have := (List.getElem?_eq_some_iff.1 hj).1
              rw [List.length_map, HL.out] at this
              exact this
            have e : (⟨g, 0, none⟩ : Addr).add j = ⟨g, 0 + j, none⟩ := by unfold Addr.add; split <;> simp_all
            rw [e, (R7.out.keep (alloc_below _ _)).cell j hjn, ← hj]
            simp [List.getD_eq_getElem?_getD, List.getElem?_eq_getElem (show j < r.length by rw [HL.out]; exact hjn)]
          case qc4 => unfold maxLen; omega
          case qc5 => omega
          case qc6 => simp
          intro v' w6 hown hgrow hnil
          rcases hown.2 with ⟨hv, _⟩ | ⟨g2, d2, cur, hv, hg2, _⟩
          · exact absurd hv hnil
          rw [hv] at hown ⊢
          have bd : Below wd.heap.size wd w6 := (alloc_below wd _).grown hgrow (by simp) (by intro k hk; simp [Value.ownBlock] at hk; omega)
          have B8 : Hid (Below w.heap.size w w6) := B7.out.trans (bd.mono B7.out.size)
          have T8 : Hid (Two w6 w2.heap.size (.int .i64 0) (.int .i64 sv)) := T7.out.keep bd
          have O8 : Hid (w6.ownsRow wd.heap.size 5 1 (.slice (some ⟨g2, 0, none⟩) m d2) m (r.map (Value.int .u8))) := (by simpa using hown : w6.ownsRow wd.heap.size 5 1 (.slice (some ⟨g2, 0, none⟩) m d2) m (r.map (Value.int .u8)))
          have n8 : w2.heap.size < wd.heap.size := y1
          have k8 : w.heap.size ≤ g2 := Nat.le_trans B7.out.size hg2
          have HR : Hid _ := R7.out.byt
          clear hown hgrow hnil hv bd B7 T7 R7 q1 q2 y1
          go_wp2_with fail
          refine (lwAt_any p n c l 1 m _ (H.out.later B8.out) (by omega) (by omega) (by omega) (by omega)).mono ?_
          rintro e w7 ⟨a, rfl, ha0, ha1, qq, rfl⟩
          obtain ⟨i, rfl⟩ := Int.eq_ofNat_of_zero_le ha0
          go_upto_region 15 with fail
          have hi : i < m := by omega
          have c8 := O8.out.cellAt i (by omega)
          have f8 := O8.out.frozenAt i
          have e8 : (r.map (Value.int .u8))[i]? = some (.int .u8 (r.getD i 0)) := by
            simp [List.getD_eq_getElem?_getD, List.getElem?_eq_getElem (show i < r.length by rw [HL.out]; exact hi)]
          rw [e8] at c8
          clear e8
          have hb8 := HR.out i
          have S8 : Hid (∀ y : Int, w6.ownsRow wd.heap.size 5 1 (.slice (some ⟨g2, 0, none⟩) m d2) m (r.map (Value.int .u8)) → ((w6.setCell ⟨g2, i, none⟩ (.int .u8 y)).ownsRow wd.heap.size 5 1 (.slice (some ⟨g2, 0, none⟩) m d2) m ((r.set i y).map (Value.int .u8)) ∧ w6.grownBy (w6.setCell ⟨g2, i, none⟩ (.int .u8 y)) (some g2))) := by
            intro y ho
            have := ho.stored i (.int .u8 y)
            rw [List.map_set]
            exact this
          have X8 : Hid (∀ v, 0 ≤ v → v < 255 → ∃ y, bits .xor .u8 (r.getD i 0) (1 + v) = y ∧ 0 ≤ y ∧ y ≤ 255 ∧ y ≠ r.getD i 0) := by
            intro v h0 h1
            obtain ⟨x0, x1, x2⟩ := xor_ne (r.getD i 0) (1 + v) hb8 ⟨by omega, by omega⟩
            exact ⟨_, rfl, x0, x1, x2⟩
          have V8 : Hid (∀ v, 0 ≤ v → v < 255 → sumL (r.set i (bits .xor .u8 (r.getD i 0) (1 + v))) ≠ sumL r) := by
            intro v h0 h1
            obtain ⟨x0, x1, x2⟩ := xor_ne (r.getD i 0) (1 + v) hb8 ⟨by omega, by omega⟩
            exact sumL_turn r i _ (by rw [HL.out]; exact hi) hb8 ⟨x0, x1⟩ x2
          have Y8 : Hid (∀ v, 0 ≤ v → v < 255 → ∀ j, 0 ≤ (r.set i (bits .xor .u8 (r.getD i 0) (1 + v))).getD j 0 ∧ (r.set i (bits .xor .u8 (r.getD i 0) (1 + v))).getD j 0 ≤ 255) := by
            intro v h0 h1 j
            obtain ⟨x0, x1, x2⟩ := xor_ne (r.getD i 0) (1 + v) hb8 ⟨by omega, by omega⟩
            have := HR.out j
            simp only [List.getD_eq_getElem?_getD, List.getElem?_set] at this ⊢
            split
            · split
              · simpa using And.intro x0 x1
              · simp
            · exact this
          have C8 : Hid (∀ (w' : World), (∃ q, w' = w6.drewN q) → Calls Try.prog 13 #[.slice p n c, .int .i64 2, .int .i64 255] w' fun e w'' => ∃ v : Int, e = .returned (.int .i64 v) ∧ 0 ≤ v ∧ v < 255 ∧ ∃ q, w'' = w6.drewN q) := by
            rintro w' ⟨q, rfl⟩
            refine (lwAt_any p n c l 2 255 _ ((H.out.later B8.out).later (below_drewN (Below.refl _ _) q)) (by omega) (by omega) (by omega) (by omega)).mono ?_
            rintro e w'' ⟨v, rfl, h0, h1, q', rfl⟩
            exact ⟨v, rfl, h0, h1, _, World.drewN_drewN _ _ _⟩
          generalize r.getD i 0 = z at *
          go_cut [] (fun wx => ∃ v : Int, 0 ≤ v ∧ v < 255 ∧ ∃ q, wx = (w6.setCell ⟨g2, i, none⟩ (.int .u8 (bits .xor .u8 z (1 + v)))).drewN q)
          case first =>
            go_region_with (go_at_call 13; refine (C8.out _ ⟨_, rfl⟩).mono ?_; rintro e w8 ⟨v, rfl, hv0, hv1, q8, rfl⟩)
            all_goals (go_wp2_with fail; go_meet)
            all_goals (exact ⟨v, hv0, hv1, q8, by rw [wrap_v v hv0 hv1]; rfl⟩)
          case rest =>
            obtain ⟨v, hv0, hv1, q, rfl⟩ := hcut
            obtain ⟨o9, k9⟩ := S8.out (bits .xor .u8 z (1 + v)) O8.out
            have N9 : Hid (sumL (r.set i (bits .xor .u8 z (1 + v))) ≠ sumL r) := V8.out v hv0 hv1
            have R9 : Hid (Row ((w6.setCell ⟨g2, i, none⟩ (.int .u8 (bits .xor .u8 z (1 + v)))).drewN q) g2 0 m (r.set i (bits .xor .u8 z (1 + v)))) := (ownRow o9 (by omega) (Y8.out v hv0 hv1)).keep (below_drewN (Below.refl _ _) q)
            have B9 : Hid (Below w.heap.size w ((w6.setCell ⟨g2, i, none⟩ (.int .u8 (bits .xor .u8 z (1 + v)))).drewN q)) := below_drewN (below_grown B8.out k9 k8) q
            have T9 : Hid (Two ((w6.setCell ⟨g2, i, none⟩ (.int .u8 (bits .xor .u8 z (1 + v)))).drewN q) w2.heap.size (.int .i64 0) (.int .i64 sv)) := (T8.out.grown k9 (by omega)).keep (below_drewN (Below.refl _ _) q)
            generalize bits .xor .u8 z (1 + v) = y at *
            generalize (w6.setCell ⟨g2, i, none⟩ (.int .u8 y)).drewN q = w9 at *
            have hs9 := sumL_bd (r.set i y)
            clear o9 k9 S8 V8 X8 Y8 C8 T8 B8 O8 c8 f8 hb8
            go_wp2_with fail
            generalize hN : sumL (r.set i y) = s9 at *
            have HN : Hid _ := hN
            clear hN
            refine (implSum_any _ _ _ _ (r.set i y) _ R9.out HM.out).mono ?_
            rw [HN.out]
            rintro e wa ⟨rfl, hba⟩
            have Ba : Hid (Below w.heap.size w wa) := B9.out.trans (hba.mono B9.out.size)
            obtain ⟨y9, q1, q2⟩ := T9.out.keep hba
            have hne : (s9 != sv) = true := by rw [bne_iff_ne, E'.out]; exact N9.out
            clear hba B9 T9 R9
            go_wp2_with fail
            go_ret
            exact ⟨rfl, Ba.out.alloc Ba.out.size _⟩

end Go.Proofs.Ytcjpmpbepmjgkaa
