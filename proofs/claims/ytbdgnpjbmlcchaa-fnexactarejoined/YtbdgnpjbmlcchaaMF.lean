/- Several texts as one: Fnd, FndS, Fst, FndI. -/
import Derived.Test.YtbdgnpjbmlcchaaMP
import Derived.Test.YtbdgnpjbmlcchaaMM
import Derived.Test.YtbdgnpjbmlcchaaME
/- Contracts: the first redex of a term, as the model finds it: FindRedex, IsNormal. -/
namespace Go.Proofs.Ytbdgnpjbmlcchaa
open Go.RowKit

/-- The first of k rules that fits at the place q. -/
def fitI (A T : Nat → Int) (m : Nat) (D : EqL) (q : Nat) : Nat → Option Nat
  | 0 => none
  | k + 1 => match fitI A T m D q k with
    | some i => some i
    | none => match mtB A T (D.L1 k) m (D.m1 k) q with
      | some _ => some k
      | none => none

section
variable {A T : Nat → Int} {m : Nat} {D : EqL} {q k i : Nat} {M : Nat → List Int}
theorem fit_no (h : fitI A T m D q k = none) (hm : mtB A T (D.L1 k) m (D.m1 k) q = none) : fitI A T m D q (k + 1) = none := by simp [fitI, h, hm]
theorem fit_yes (h : fitI A T m D q k = none) (hm : mtB A T (D.L1 k) m (D.m1 k) q = some M) : fitI A T m D q (k + 1) = some k := by simp [fitI, h, hm]
theorem fit_stay (h : fitI A T m D q k = some i) : ∀ j, k ≤ j → fitI A T m D q j = some i
  | 0, hj => by obtain rfl : k = 0 := by omega
                exact h
  | j + 1, hj => by
    by_cases e : k = j + 1
    · rw [← e]; exact h
    · simp only [fitI, fit_stay h j (by omega)]
theorem fit_lt : ∀ k i, fitI A T m D q k = some i → i < k
  | 0, i, h => by simp [fitI] at h
  | k + 1, i, h => by
    cases hf : fitI A T m D q k with
    | some j => have := fit_lt k j hf; simp only [fitI, hf, Option.some.injEq] at h; omega
    | none =>
      cases hm : mtB A T (D.L1 k) m (D.m1 k) q with
      | some M => rw [fit_yes hf hm] at h; cases h; omega
      | none => rw [fit_no hf hm] at h; cases h
/-- What l8Fits answers. -/
def fitV (A T : Nat → Int) (m : Nat) (D : EqL) (q r : Nat) : Int := match fitI A T m D q r with | some i => (i : Int) | none => -1
theorem fitV_some {r : Nat} (h : fitI A T m D q r = some i) : fitV A T m D q r = i := by simp [fitV, h]
theorem fitV_none {r : Nat} (h : fitI A T m D q r = none) : fitV A T m D q r = -1 := by simp [fitV, h]
end

set_option maxRecDepth 20000 in
set_option maxHeartbeats 6400000 in
theorem l8Fits_any (Bs b off n c b1 o1 r c1 b' off' m c' q e0 : Nat) (N : Nat → ByteArray) (A T : Nat → Int) (D : EqL) (w : World) (hs : One w Bs (.slice (some ⟨b, off, none⟩) n c)) (h : Syms w b off n N A) (hD : Eqs w b1 o1 r D) (h' : Ints w b' off' m T) (hg : Trm n A m T) (hr : EqOk n A r D) (hq : skip (aOf A T) m q 1 = some e0) (hc : m ≤ c') :
    Calls Try.prog 53 #[.pointer (some ⟨Bs, 0, none⟩), .slice (some ⟨b1, o1, none⟩) r c1, .slice (some ⟨b', off', none⟩) m c', .int .i64 (q : Int)] w fun e w' => e = .returned (.int .i64 (fitV A T m D q r)) ∧ Below w.heap.size w w' := by
  have HS := hidden hs
  have HY := hidden h
  have HD := hidden hD
  have HT := hidden h'
  have HG := hidden hg
  have HE := hidden hr
  have HQ := hidden hq
  have hr12 := hr.most
  clear hs h hD h' hg hr hq
  go_enter Try.func53, Try.ntmps53
  go_wp2
  go_loopw [9] (fun i wr => ∃ k : Nat, k ≤ r ∧ i = .int .i64 (k : Nat) ∧ Hid (fitI A T m D q k = none) ∧ Hid (Below w.heap.size w wr)) (fun i _ => r - (intOf i).toNat)
  case atStart => exact ⟨0, Nat.zero_le _, rfl, hidden rfl, hidden (Below.refl _ _)⟩
  case round =>
    obtain ⟨k, hk, rfl, HF, HB⟩ := hrel
    by_cases hlt : k < r
    · obtain ⟨g1, p1, d1, g2, p2, d2, e1, e2, i1, i2⟩ := (HD.out.keep HB.out).row k hlt
      have I1 := hidden i1
      have TK := hidden (HE.out.trm k hlt)
      have S := hidden (l6Match_any Bs b off n c g1 p1 (D.m1 k) d1 b' off' m c' q e0 N A (D.L1 k) T wr (HS.out.keep HB.out) (HY.out.keep HB.out) I1.out (HT.out.keep HB.out) HG.out TK.out.1 HQ.out hc)
      clear i1 i2 e2
      go_wp2_with fail
      with_reducible refine S.out.mono ?_
      rintro e w1 ⟨ha, hb⟩
      have B1 := hidden (keepB HB.out hb)
      clear hb S I1 TK e1
      rcases ha with ⟨hm, rfl⟩ | ⟨M, hm, -, va, ta, rfl, hbd⟩
      · have HF2 := hidden (fit_no HF.out hm)
        clear hm
        go_wp2
        go_roundw
        case rel => exact ⟨k + 1, by omega, by go_num, HF2, hidden (keepB B1.out (alloc_below _ _))⟩
        case measure => simp [intOf]; omega
      · have HF2 := hidden (fitV_some (fit_stay (fit_yes HF.out hm) r hlt))
        obtain ⟨p1, c1, p2, c2, rfl, rfl⟩ := hbd.slices
        obtain ⟨r2, hr2⟩ : ∃ r2, r2 = cR M := ⟨_, rfl⟩
        rw [← hr2]
        have BS1 := hidden B1.out.size
        clear hm hbd hr2
        go_wp2
        go_ret
        refine ⟨by rw [HF2.out]; rfl, ?_⟩
        first
        | exact keepB B1.out (alloc_below _ _)
        | exact ((keepB B1.out (alloc_below _ _)).setCell (by have := BS1.out; simp; omega) _).setCell (by have := BS1.out; simp; omega) _
    · obtain rfl : k = r := by omega
      have HF2 := hidden (fitV_none HF.out)
      go_wp2
      go_ret
      exact ⟨by rw [HF2.out]; rfl, HB.out⟩

/-- What the model's search knows behind k places. -/
def FdS (a : Nat → Nat) (m : Nat) (F : Nat → Option Nat) (k : Nat) (pl ru en : Int) : Prop :=
  (bst a m F k = none ∧ pl = -1 ∧ ru = -1 ∧ en = 25) ∨ (∃ p r : Nat, bst a m F k = some (p, r) ∧ pl = p ∧ ru = r ∧ en = (enN a m p : Int))

section
variable {a : Nat → Nat} {m : Nat} {F : Nat → Option Nat} {k e : Nat} {pl ru en : Int}
theorem FdS.late (h : FdS a m F k pl ru en) (he : enN a m k = e) (he24 : e ≤ 24) (hlt : en < e) : FdS a m F (k + 1) pl ru en := by
  rcases h with ⟨_, _, _, h4⟩ | ⟨p, r, h1, h2, h3, h4⟩
  · omega
  · exact Or.inr ⟨p, r, bst_late h1 (by simp only; omega), h2, h3, h4⟩
theorem FdS.miss (h : FdS a m F k pl ru en) (hf : F k = none) : FdS a m F (k + 1) pl ru en := by
  unfold FdS at h ⊢
  rw [bst_miss hf]; exact h
theorem FdS.hit (h : FdS a m F k pl ru en) (he : enN a m k = e) (hlt : ¬ en < e) {r : Nat} (hf : F k = some r) : FdS a m F (k + 1) (k : Int) (r : Int) (e : Int) := by
  refine Or.inr ⟨k, r, bst_hit hf (fun s hs => ?_), rfl, rfl, by rw [he]⟩
  rcases h with ⟨h1, _⟩ | ⟨p, q, h1, h2, h3, h4⟩
  · rw [h1] at hs; cases hs
  · rw [h1] at hs; cases hs; simp only; omega
end

/-- The place and the rule that FindRedex tells. -/
def rdx (A T : Nat → Int) (m : Nat) (D : EqL) (r : Nat) : Option (Nat × Nat) := bst (aOf A T) m (fun q => fitI A T m D q r) m
def rdP (A T : Nat → Int) (m : Nat) (D : EqL) (r : Nat) : Int := match rdx A T m D r with | some s => (s.1 : Int) | none => -1
def rdR (A T : Nat → Int) (m : Nat) (D : EqL) (r : Nat) : Int := match rdx A T m D r with | some s => (s.2 : Int) | none => -1

set_option maxRecDepth 20000 in
set_option maxHeartbeats 6400000 in
theorem l8Find_any (Bs b off n c b1 o1 r c1 b' off' m c' : Nat) (N : Nat → ByteArray) (A T : Nat → Int) (D : EqL) (w : World) (hs : One w Bs (.slice (some ⟨b, off, none⟩) n c)) (h : Syms w b off n N A) (hD : Eqs w b1 o1 r D) (h' : Ints w b' off' m T) (hg : Trm n A m T) (hr : EqOk n A r D) (hc : m ≤ c') :
    Calls Try.prog 43 #[.pointer (some ⟨Bs, 0, none⟩), .slice (some ⟨b1, o1, none⟩) r c1, .slice (some ⟨b', off', none⟩) m c'] w fun e w' => e = .returned (.tuple #[.int .i64 (rdP A T m D r), .int .i64 (rdR A T m D r)]) ∧ Below w.heap.size w w' := by
  have HS := hidden hs
  have HY := hidden h
  have HD := hidden hD
  have HT := hidden h'
  have HG := hidden hg
  have HE := hidden hr
  have hr12 := hr.most
  have hm24 := hg.nods.most
  clear hs h hD h' hg hr
  go_enter Try.func43, Try.ntmps43
  go_wp2
  go_loopw [8, 9, 10, 11] (fun pl ru en i wr => ∃ (k : Nat) (ple rue ene : Int), k ≤ m ∧ i = .int .i64 (k : Nat) ∧ pl = .int .i64 ple ∧ ru = .int .i64 rue ∧ en = .int .i64 ene ∧ Hid (FdS (aOf A T) m (fun q => fitI A T m D q r) k ple rue ene) ∧ Hid (Below w.heap.size w wr)) (fun _ _ _ i _ => m - (intOf i).toNat)
  case atStart => exact ⟨0, -1, -1, 25, Nat.zero_le _, rfl, rfl, rfl, rfl, hidden (Or.inl ⟨rfl, rfl, rfl, rfl⟩), hidden (Below.refl _ _)⟩
  case round =>
    obtain ⟨k, pl, ru, en, hk, rfl, rfl, rfl, rfl, HF, HB⟩ := hrel
    by_cases hlt : k < m
    · obtain ⟨e, he, he1, he2⟩ := skip_inner HG.out.whole hlt
      have HSK := hidden he
      have HEN := hidden (enN_some he)
      have SE := hidden (l3End_any Bs b off n c b' off' m c' N A T HG.out.nods m k (by omega) hk wr (HS.out.keep HB.out) (HY.out.keep HB.out) (HT.out.keep HB.out))
      rw [endV_some he] at SE
      clear he
      go_wp2_with fail
      with_reducible refine SE.out.mono ?_
      rintro r1 w1 ⟨rfl, hb⟩
      have B1 := hidden (keepB HB.out hb)
      clear hb SE
      by_cases hlate : en < e
      · have HF2 := hidden (HF.out.late HEN.out (by omega) hlate)
        go_wp2
        go_roundw
        case rel => exact ⟨k + 1, pl, ru, en, by omega, by go_num, rfl, rfl, rfl, HF2, B1⟩
        case measure => simp [intOf]; omega
      · have S := hidden (l8Fits_any Bs b off n c b1 o1 r c1 b' off' m c' k e N A T D w1 (HS.out.keep B1.out) (HY.out.keep B1.out) (HD.out.keep B1.out) (HT.out.keep B1.out) HG.out HE.out HSK.out hc)
        go_wp2_with fail
        with_reducible refine S.out.mono ?_
        rintro r1 w2 ⟨rfl, hb⟩
        replace B1 := hidden (keepB B1.out hb)
        clear hb S
        cases hf : fitI A T m D k r with
        | none =>
          have HF2 := hidden (HF.out.miss hf)
          rw [fitV_none hf]
          clear hf
          go_wp2
          go_roundw
          case rel => exact ⟨k + 1, pl, ru, en, by omega, by go_num, rfl, rfl, rfl, HF2, B1⟩
          case measure => simp [intOf]; omega
        | some i =>
          have HF2 := hidden (HF.out.hit HEN.out (by omega) hf)
          rw [fitV_some hf]
          clear hf
          go_wp2
          go_roundw
          case rel => exact ⟨k + 1, _, _, _, by omega, by go_num, rfl, rfl, rfl, HF2, B1⟩
          case measure => simp [intOf]; omega
    · obtain rfl : k = m := by omega
      have HR := hidden (show pl = rdP A T k D r ∧ ru = rdR A T k D r by
        unfold rdP rdR rdx
        rcases HF.out with ⟨h1, h2, h3, h4⟩ | ⟨p, q, h1, h2, h3, h4⟩
        · rw [h1]; exact ⟨h2, h3⟩
        · rw [h1]; exact ⟨h2, h3⟩)
      go_wp2
      exact bodyPost_ret (v := .tuple #[.int .i64 pl, .int .i64 ru]) (by simp [results, Try.results43, go_sem]) rfl ⟨by rw [← HR.out.1, ← HR.out.2], HB.out⟩

/-- The fault that rewriting asks first. -/
noncomputable def boF (n : Nat) (N : Nat → ByteArray) (A : Nat → Int) (r : Nat) (D : EqL) (m : Nat) (T : Nat → Int) : Int := if ruF n N A r D = 0 then lF n A m T else ruF n N A r D

section
variable {n : Nat} {N : Nat → ByteArray} {A : Nat → Int} {r : Nat} {D : EqL} {m : Nat} {T : Nat → Int}
theorem bo_ru (h : ruF n N A r D ≠ 0) : boF n N A r D m T = ruF n N A r D := by rw [boF, if_neg h]
theorem bo_l (h : ruF n N A r D = 0) : boF n N A r D m T = lF n A m T := by rw [boF, if_pos h]
theorem bo_ok (h : boF n N A r D m T = 0) : ruF n N A r D = 0 ∧ lF n A m T = 0 := by
  by_cases hr : ruF n N A r D = 0
  · exact ⟨hr, by rw [bo_l hr] at h; exact h⟩
  · rw [bo_ru hr] at h; exact absurd h hr
theorem bo_trm (h : boF n N A r D m T = 0) : RuOk n A r D ∧ Trm n A m T := by
  have h1 := bo_ok h
  have h2 := ru_right h1.1
  exact ⟨h2, lF_right h2.eqs.sig h1.2⟩
end

set_option maxRecDepth 20000 in
set_option maxHeartbeats 800000 in
theorem l8Both_any (B b off n c b1 o1 r c1 b' off' m c' : Nat) (N : Nat → ByteArray) (A T : Nat → Int) (D : EqL) (w : World) (hd : One w B (.slice (some ⟨b, off, none⟩) n c)) (h : Syms w b off n N A) (hD : Eqs w b1 o1 r D) (h' : Ints w b' off' m T) (hk : Kept n N A) (hk' : KeptE r D) (hm : m ≤ 1048576) :
    Calls Try.prog 29 #[.pointer (some ⟨B, 0, none⟩), .slice (some ⟨b1, o1, none⟩) r c1, .slice (some ⟨b', off', none⟩) m c'] w fun e w' => e = .returned (.int .i64 (boF n N A r D m T)) ∧ Below w.heap.size w w' := by
  have X := hidden hd
  have Q := hidden h
  have I := hidden h'
  have ID := hidden hD
  have HK := hidden hk
  have HK' := hidden hk'
  clear hd h h' hD hk hk'
  have x0 := X.out.c0
  go_enter Try.func29, Try.ntmps29
  go_wp2_with fail
  with_reducible refine (specRu_any _ _ _ _ _ _ _ _ N A D _ Q.out ID.out HK.out HK'.out).mono ?_
  rintro e w1 ⟨rfl, hb⟩
  replace X := hidden (X.out.keep hb)
  replace Q := hidden (Q.out.keep hb)
  replace I := hidden (I.out.keep hb)
  have B1 := hidden hb
  clear hb x0
  by_cases hz : ruF n N A r D = 0
  · have HR := hidden (bo_l (m := m) (T := T) hz)
    have SG := hidden (ru_right hz).eqs.sig
    rw [hz]
    clear hz
    go_wp2_with fail
    with_reducible refine (l3Fault_all _ _ _ _ _ _ _ _ _ N A T _ X.out Q.out I.out SG.out hm).mono ?_
    rintro e w2 ⟨rfl, hb⟩
    replace B1 := hidden (keepB B1.out hb)
    clear hb
    rw [← HR.out]
    obtain ⟨z, hzz⟩ : ∃ z, z = boF n N A r D m T := ⟨_, rfl⟩
    have HZ := hidden hzz
    rw [← hzz]
    clear hzz
    go_wp2
    go_ret
    exact ⟨by rw [← HZ.out]; rfl, B1.out⟩
  · have HR := hidden (bo_ru (m := m) (T := T) hz)
    have hz' : (ruF n N A r D != 0) = true := by simpa using hz
    generalize ruF n N A r D = z at *
    clear hz
    go_wp2
    go_ret
    exact ⟨by rw [HR.out]; rfl, B1.out⟩

/-- FindRedex's answer. -/
noncomputable def rxC (n : Nat) (N : Nat → ByteArray) (A : Nat → Int) (r : Nat) (D : EqL) (m : Nat) (T : Nat → Int) : Int := if boF n N A r D m T = 0 then (match rdx A T m D r with | some _ => 0 | none => 4) else boF n N A r D m T
noncomputable def rxP (n : Nat) (N : Nat → ByteArray) (A : Nat → Int) (r : Nat) (D : EqL) (m : Nat) (T : Nat → Int) : Int := if boF n N A r D m T = 0 then (match rdx A T m D r with | some s => (s.1 : Int) | none => 0) else 0
noncomputable def rxR (n : Nat) (N : Nat → ByteArray) (A : Nat → Int) (r : Nat) (D : EqL) (m : Nat) (T : Nat → Int) : Int := if boF n N A r D m T = 0 then (match rdx A T m D r with | some s => (s.2 : Int) | none => 0) else 0

section
variable {n : Nat} {N : Nat → ByteArray} {A : Nat → Int} {r : Nat} {D : EqL} {m : Nat} {T : Nat → Int}
theorem rx_bo (h : boF n N A r D m T ≠ 0) : rxC n N A r D m T = boF n N A r D m T ∧ rxP n N A r D m T = 0 ∧ rxR n N A r D m T = 0 := by simp [rxC, rxP, rxR, h]
theorem rx_none (h : boF n N A r D m T = 0) (hx : rdx A T m D r = none) : rxC n N A r D m T = 4 ∧ rxP n N A r D m T = 0 ∧ rxR n N A r D m T = 0 := by simp [rxC, rxP, rxR, h, hx]
theorem rx_some {s : Nat × Nat} (h : boF n N A r D m T = 0) (hx : rdx A T m D r = some s) : rxC n N A r D m T = 0 ∧ rxP n N A r D m T = s.1 ∧ rxR n N A r D m T = s.2 := by simp [rxC, rxP, rxR, h, hx]
theorem rd_none (hx : rdx A T m D r = none) : rdP A T m D r = -1 ∧ rdR A T m D r = -1 := by simp [rdP, rdR, hx]
theorem rd_some {s : Nat × Nat} (hx : rdx A T m D r = some s) : rdP A T m D r = s.1 ∧ rdR A T m D r = s.2 := by simp [rdP, rdR, hx]
end

end Go.Proofs.Ytbdgnpjbmlcchaa

/- Contracts: FindRedex and IsNormal, as the model tells them. -/
namespace Go.Proofs.Ytbdgnpjbmlcchaa
open Go.RowKit

/-- A block of three numbers that may be written. -/
structure Num3 (w : World) (b : Nat) (x y z : Value) : Prop where
  blk : b < w.heap.size
  c0 : w.cell? ⟨b, 0, none⟩ = some x
  c1 : w.cell? ⟨b, 1, none⟩ = some y
  c2 : w.cell? ⟨b, 2, none⟩ = some z
  f0 : w.frozen? ⟨b, 0, none⟩ = false
  f1 : w.frozen? ⟨b, 1, none⟩ = false
  f2 : w.frozen? ⟨b, 2, none⟩ = false

theorem Num3.new (w : World) (x y z : Value) (t : TypeId) : Num3 (w.alloc (.cells #[x, y, z] t)) w.heap.size x y z := by
  refine ⟨by simp, ?_, ?_, ?_, ?_, ?_, ?_⟩ <;> simp [go_sem]

theorem Num3.keep {w w' : World} {b : Nat} {x y z : Value} (h : Num3 w b x y z) (hb : Below w.heap.size w w') : Num3 w' b x y z :=
  ⟨Nat.lt_of_lt_of_le h.blk hb.size, by rw [hb.cell (p := ⟨b, 0, none⟩) h.blk]; exact h.c0, by rw [hb.cell (p := ⟨b, 1, none⟩) h.blk]; exact h.c1, by rw [hb.cell (p := ⟨b, 2, none⟩) h.blk]; exact h.c2, by rw [hb.frozen (p := ⟨b, 0, none⟩) h.blk]; exact h.f0, by rw [hb.frozen (p := ⟨b, 1, none⟩) h.blk]; exact h.f1, by rw [hb.frozen (p := ⟨b, 2, none⟩) h.blk]; exact h.f2⟩

/-- What FindRedex answers. -/
def RxAns (C P R : Int) (e : Ending) : Prop := e = .returned (.agg #[.int .i64 C, .int .i64 P, .int .i64 R])

end Go.Proofs.Ytbdgnpjbmlcchaa

/- Contract: firstRedex: the first redex of a term, as the program finds it. -/
namespace Go.Proofs.Ytbdgnpjbmlcchaa
open Go.RowKit

theorem plL_getD (a : Nat → Nat) (m p i : Nat) : (plL a m p).getD i 0 = ((pst a m p 1).getD i 0 : Nat) := by
  unfold plL
  rw [List.getD_eq_getElem?_getD, List.getElem?_map, List.getD_eq_getElem?_getD]
  cases (pst a m p 1)[i]? <;> rfl

theorem Num3.other {w : World} {b : Nat} {x y z : Value} (h : Num3 w b x y z) (a : Addr) (v : Value) (hne : b ≠ a.block) : Num3 (w.setCell a v) b x y z :=
  ⟨by simpa using h.blk, by rw [World.cell?_setCell_other _ _ _ _ (by intro e; exact hne (by rw [e]))]; exact h.c0, by rw [World.cell?_setCell_other _ _ _ _ (by intro e; exact hne (by rw [e]))]; exact h.c1, by rw [World.cell?_setCell_other _ _ _ _ (by intro e; exact hne (by rw [e]))]; exact h.c2, by simpa [go_sem] using h.f0, by simpa [go_sem] using h.f1, by simpa [go_sem] using h.f2⟩

theorem Num3.set3 {w : World} {b : Nat} {x y z : Value} (h : Num3 w b x y z) (x' y' z' : Value) : Num3 (((w.setCell ⟨b, 0, none⟩ x').setCell ⟨b, 1, none⟩ y').setCell ⟨b, 2, none⟩ z') b x' y' z' :=
  ⟨by simpa using h.blk, by rw [World.cell?_setCell_other _ _ _ _ (by simp), World.cell?_setCell_other _ _ _ _ (by simp)]; exact World.cell?_setCell_same _ _ _ h.c0,
   by rw [World.cell?_setCell_other _ _ _ _ (by simp)]; exact World.cell?_setCell_same' _ _ _ (by rw [World.cell?_setCell_other _ _ _ _ (by simp), h.c1]; rfl),
   World.cell?_setCell_same' _ _ _ (by rw [World.cell?_setCell_other _ _ _ _ (by simp), World.cell?_setCell_other _ _ _ _ (by simp), h.c2]; rfl),
   by simpa [go_sem] using h.f0, by simpa [go_sem] using h.f1, by simpa [go_sem] using h.f2⟩

set_option maxRecDepth 20000 in
set_option maxHeartbeats 12800000 in
theorem firstRedex_any (b off n c b1 o1 r c1 b' off' m c' : Nat) (N : Nat → ByteArray) (A T : Nat → Int) (D : EqL) (w : World) (h : Syms w b off n N A) (hD : Eqs w b1 o1 r D) (h' : Ints w b' off' m T) (hz : boF n N A r D m T = 0) (hc : m ≤ c') :
    Calls Try.prog 49 #[.agg #[.slice (some ⟨b, off, none⟩) n c], .slice (some ⟨b1, o1, none⟩) r c1, .slice (some ⟨b', off', none⟩) m c'] w fun e w' => RxAns (rxC n N A r D m T) (rxP n N A r D m T) (rxR n N A r D m T) e ∧ Below w.heap.size w w' := by
  obtain ⟨hr, hg⟩ := bo_trm hz
  have hr12 := hr.eqs.most
  have hm24 := hg.nods.most
  have hm0 := hg.pos
  have X := hidden (((One.new w (.slice (some ⟨b, off, none⟩) n c) 34).keep (alloc_below _ (.cells #[.int .i64 0, .int .i64 0, .int .i64 0] 82))).keep (alloc_below _ (.cells #[.int .i64 4, .int .i64 0, .int .i64 0] 82)))
  have b0 := alloc_below w (.cells #[.slice (some ⟨b, off, none⟩) n c] 34)
  obtain ⟨wa, hwa⟩ : ∃ wa, wa = w.alloc (.cells #[.slice (some ⟨b, off, none⟩) n c] 34) := ⟨_, rfl⟩
  have sa : wa.heap.size = w.heap.size + 1 := by rw [hwa]; simp
  rw [← hwa] at X b0
  have r1 := Num3.new wa (.int .i64 0) (.int .i64 0) (.int .i64 0) 82
  have b1' := alloc_below wa (.cells #[.int .i64 0, .int .i64 0, .int .i64 0] 82)
  obtain ⟨wb, hwb⟩ : ∃ wb, wb = wa.alloc (.cells #[.int .i64 0, .int .i64 0, .int .i64 0] 82) := ⟨_, rfl⟩
  have sb : wb.heap.size = w.heap.size + 1 + 1 := by rw [hwb]; simp [sa]
  rw [← hwb] at X r1 b1'
  have r2 := Num3.new wb (.int .i64 4) (.int .i64 0) (.int .i64 0) 82
  have b2' := alloc_below wb (.cells #[.int .i64 4, .int .i64 0, .int .i64 0] 82)
  obtain ⟨w0, hw0⟩ : ∃ w0, w0 = wb.alloc (.cells #[.int .i64 4, .int .i64 0, .int .i64 0] 82) := ⟨_, rfl⟩
  rw [← hw0] at X r2 b2'
  rw [sa] at r1
  rw [sb] at r2
  have R1 := hidden (r1.keep b2')
  have R2 := hidden r2
  have B := hidden (keepB (keepB b0 b1') b2')
  have HS := hidden h
  have HD := hidden hD
  have HT := hidden h'
  have HZ := hidden hz
  have HG := hidden hg
  have HR := hidden hr
  have hw2 : w0 = ((w.alloc (.cells #[.slice (some ⟨b, off, none⟩) n c] 34)).alloc (.cells #[.int .i64 0, .int .i64 0, .int .i64 0] 82)).alloc (.cells #[.int .i64 4, .int .i64 0, .int .i64 0] 82) := by rw [hw0, hwb, hwa]
  clear b0 b1' b2' r1 r2 sa sb hwa hwb hw0 h hD h' hz hg hr
  have x0 := X.out.c0
  have S := hidden (placesIn_any b off n c b' off' m c' N A T HG.out hc m 0 (by omega) hm0 w0 (HS.out.keep B.out) (HT.out.keep B.out))
  rw [show (((0 : Nat)) : Int) = 0 from rfl] at S
  go_enter Try.func49, Try.ntmps49
  go_wp2
  go_step3
  go_wp2
  go_step3
  rw [← hw2]
  clear hw2 wa wb
  go_wp2_with fail
  with_reducible refine S.out.mono ?_
  rintro e w1 ⟨⟨gl, dl, rfl, ho⟩, hb⟩
  have OL := hidden ho.ints
  replace X := hidden (X.out.keep hb)
  replace R1 := hidden (R1.out.keep hb)
  replace R2 := hidden (R2.out.keep hb)
  replace B := hidden (keepB B.out hb)
  clear hb ho S x0 w0
  obtain ⟨ll, hll⟩ : ∃ ll, ll = (plL (aOf A T) m 0).length := ⟨_, rfl⟩
  have HLL := hidden hll
  have hl24 : ll ≤ 24 := by have := (plL_len HG.out.whole hm0).2; omega
  have HLP := hidden (show (pst (aOf A T) m 0 1).length = ll by rw [hll]; simp [plL])
  rw [← hll] at OL ⊢
  clear hll
  have HMEM := hidden (show ∀ x, x ∈ pst (aOf A T) m 0 1 ↔ x < m from fun x => by rw [pst_mem _ 0 1 m (Nat.le_refl _) HG.out.whole x]; omega)
  have HPAIR := hidden (pst_pair _ 0 1 m (Nat.le_refl _) HG.out.whole)
  go_wp2
  go_loopw [20] (fun i wr => ∃ j : Nat, j ≤ ll ∧ i = .int .i64 (j : Nat) ∧ Hid (∀ i, i < j → fitI A T m D ((pst (aOf A T) m 0 1).getD i 0) r = none) ∧ Hid (Below w1.heap.size w1 wr)) (fun i _ => ll - (intOf i).toNat)
  case atStart => exact ⟨0, Nat.zero_le _, rfl, hidden (fun i hi => by omega), hidden (Below.refl _ _)⟩
  case round =>
    obtain ⟨j, hj, rfl, HN, HB⟩ := hrel
    by_cases hlt : j < ll
    · obtain ⟨q, hq⟩ : ∃ q, q = (pst (aOf A T) m 0 1).getD j 0 := ⟨_, rfl⟩
      have hqm : q < m := (HMEM.out q).1 (by
        rw [hq, List.getD_eq_getElem?_getD, List.getElem?_eq_getElem (by rw [HLP.out]; exact hlt)]; exact List.getElem_mem _)
      have HQ := hidden hq
      have z1 := (OL.out.keep HB.out).cell j hlt
      simp only [plL_getD] at z1
      rw [← hq, Nat.zero_add] at z1
      have x0 := (X.out.keep HB.out).c0
      have BX := hidden (keepB B.out HB.out)
      obtain ⟨e0, he0, _, _⟩ := skip_inner HG.out.whole hqm
      have HE0 := hidden he0
      have hqe := (skip_le he0).2 (by omega)
      have HMN := hidden (manyN_some he0)
      have ST := hidden (termThere_any b off n c b' off' m c' q N A T wr (HS.out.keep BX.out) (HT.out.keep BX.out) HG.out hqm hc)
      rw [HMN.out] at ST
      clear hq he0
      go_wp2_with fail
      with_reducible refine ST.out.mono ?_
      rintro e w2 ⟨rfl, hb⟩
      have B2 := hidden (keepB HB.out hb)
      have BX2 := hidden (keepB B.out B2.out)
      clear hb ST z1 x0 BX HB
      go_wp2
      go_loopw [30] (fun i wr => ∃ k : Nat, k ≤ r ∧ i = .int .i64 (k : Nat) ∧ Hid (fitI A T m D q k = none) ∧ Hid (Below w1.heap.size w1 wr)) (fun i _ => r - (intOf i).toNat)
      case atStart => exact ⟨0, Nat.zero_le _, rfl, hidden rfl, B2⟩
      case round =>
        clear B2 BX2
        obtain ⟨k, hk, rfl, HF, HB⟩ := hrel
        by_cases hkr : k < r
        · have BX := hidden (keepB B.out HB.out)
          obtain ⟨g1, p1, d1, g2, p2, d2, e1, e2, i1, i2⟩ := (HD.out.keep BX.out).row k hkr
          have BA := hidden (alloc_below wr (.cells #[.slice (some ⟨g1, p1, none⟩) (D.m1 k) d1, .slice (some ⟨g2, p2, none⟩) (D.m2 k) d2] 56))
          have B3 := hidden (keepB HB.out BA.out)
          have BX3 := hidden (keepB B.out B3.out)
          have I1 := hidden (i1.keep BA.out)
          have d0 := (X.out.keep HB.out).c0
          have hlt0 := (X.out.keep HB.out).blk
          have x0 := (X.out.keep B3.out).c0
          have TK := hidden (HR.out.eqs.trm k hkr)
          have S := hidden (matchedParts_any b off n c g1 p1 (D.m1 k) d1 b' off' m (c' - q) q e0 N A (D.L1 k) T _ (HS.out.keep BX3.out) I1.out (HT.out.keep BX3.out) HG.out TK.out.1 HE0.out (by omega))
          clear i1 i2
          go_wp2_with fail
          with_reducible refine S.out.mono ?_
          rintro e w3 ⟨ha, hb⟩
          replace B3 := hidden (keepB B3.out hb)
          clear hb S I1 TK BA BX BX3 d0 x0 hlt0 e1 e2
          have k0 := (R2.out.keep B3.out).c0
          have k1 := (R2.out.keep B3.out).c1
          have k2 := (R2.out.keep B3.out).c2
          have kf0 := (R2.out.keep B3.out).f0
          have kf1 := (R2.out.keep B3.out).f1
          have kf2 := (R2.out.keep B3.out).f2
          rcases ha with ⟨hm, V, rfl, hsl⟩ | ⟨M, hm, V, rfl, hpt⟩
          · have HF2 := hidden (fit_no HF.out hm)
            clear hm k0 k1 k2 kf0 kf1 kf2
            unfold arr12
            obtain ⟨vp0, vl0, vc0, ve0⟩ := hsl 0 (by omega)
            obtain ⟨vp1, vl1, vc1, ve1⟩ := hsl 1 (by omega)
            obtain ⟨vp2, vl2, vc2, ve2⟩ := hsl 2 (by omega)
            obtain ⟨vp3, vl3, vc3, ve3⟩ := hsl 3 (by omega)
            obtain ⟨vp4, vl4, vc4, ve4⟩ := hsl 4 (by omega)
            obtain ⟨vp5, vl5, vc5, ve5⟩ := hsl 5 (by omega)
            obtain ⟨vp6, vl6, vc6, ve6⟩ := hsl 6 (by omega)
            obtain ⟨vp7, vl7, vc7, ve7⟩ := hsl 7 (by omega)
            obtain ⟨vp8, vl8, vc8, ve8⟩ := hsl 8 (by omega)
            obtain ⟨vp9, vl9, vc9, ve9⟩ := hsl 9 (by omega)
            obtain ⟨vp10, vl10, vc10, ve10⟩ := hsl 10 (by omega)
            obtain ⟨vp11, vl11, vc11, ve11⟩ := hsl 11 (by omega)
            rw [ve0, ve1, ve2, ve3, ve4, ve5, ve6, ve7, ve8, ve9, ve10, ve11]
            clear ve0 ve1 ve2 ve3 ve4 ve5 ve6 ve7 ve8 ve9 ve10 ve11
            go_wp2
            go_roundw
            case rel => exact ⟨k + 1, by omega, by go_num, HF2, hidden (keepB B3.out (alloc_below _ _))⟩
            case measure => simp [intOf]; omega
          · have HFS := hidden (fit_stay (fit_yes HF.out hm) r hkr)
            have HX := hidden (show rdx A T m D r = some (q, k) by
              unfold rdx
              have := bst_first (F := fun q => fitI A T m D q r) HPAIR.out HMEM.out (i := j) (r := k) (by rw [HLP.out]; exact hlt) HN.out (by rw [← HQ.out]; exact HFS.out)
              rw [← HQ.out] at this; exact this)
            have HA := hidden (rx_some HZ.out HX.out)
            have hsl : SlV V := fun v hv => by obtain ⟨p, c, e, _⟩ := hpt v hv; exact ⟨p, _, c, e⟩
            have q0 := (R1.out.keep B3.out).c0
            have q1 := (R1.out.keep B3.out).c1
            have q2 := (R1.out.keep B3.out).c2
            have f0 := (R1.out.keep B3.out).f0
            have f1 := (R1.out.keep B3.out).f1
            have f2 := (R1.out.keep B3.out).f2
            have lt1 := (R1.out.keep B3.out).blk
            have lt2 := (R2.out.keep B3.out).blk
            clear hm hpt
            unfold arr12
            obtain ⟨vp0, vl0, vc0, ve0⟩ := hsl 0 (by omega)
            obtain ⟨vp1, vl1, vc1, ve1⟩ := hsl 1 (by omega)
            obtain ⟨vp2, vl2, vc2, ve2⟩ := hsl 2 (by omega)
            obtain ⟨vp3, vl3, vc3, ve3⟩ := hsl 3 (by omega)
            obtain ⟨vp4, vl4, vc4, ve4⟩ := hsl 4 (by omega)
            obtain ⟨vp5, vl5, vc5, ve5⟩ := hsl 5 (by omega)
            obtain ⟨vp6, vl6, vc6, ve6⟩ := hsl 6 (by omega)
            obtain ⟨vp7, vl7, vc7, ve7⟩ := hsl 7 (by omega)
            obtain ⟨vp8, vl8, vc8, ve8⟩ := hsl 8 (by omega)
            obtain ⟨vp9, vl9, vc9, ve9⟩ := hsl 9 (by omega)
            obtain ⟨vp10, vl10, vc10, ve10⟩ := hsl 10 (by omega)
            obtain ⟨vp11, vl11, vc11, ve11⟩ := hsl 11 (by omega)
            rw [ve0, ve1, ve2, ve3, ve4, ve5, ve6, ve7, ve8, ve9, ve10, ve11]
            clear ve0 ve1 ve2 ve3 ve4 ve5 ve6 ve7 ve8 ve9 ve10 ve11
            go_wp2
            rw [Exit.noGoto_ret]
            have B9 := ((((((keepB B.out B3.out).setCell (p := ⟨w.heap.size + 1 + 1, 0, none⟩) (by show w.heap.size ≤ w.heap.size + 1 + 1; omega) (.int .i64 0)).setCell (p := ⟨w.heap.size + 1 + 1, 1, none⟩) (by show w.heap.size ≤ w.heap.size + 1 + 1; omega) (.int .i64 (q : Int))).setCell (p := ⟨w.heap.size + 1 + 1, 2, none⟩) (by show w.heap.size ≤ w.heap.size + 1 + 1; omega) (.int .i64 (k : Int))).setCell (p := ⟨w.heap.size + 1, 0, none⟩) (by show w.heap.size ≤ w.heap.size + 1; omega) (.int .i64 0)).setCell (p := ⟨w.heap.size + 1, 1, none⟩) (by show w.heap.size ≤ w.heap.size + 1; omega) (.int .i64 (q : Int))).setCell (p := ⟨w.heap.size + 1, 2, none⟩) (by show w.heap.size ≤ w.heap.size + 1; omega) (.int .i64 (k : Int))
            have N9 := (((((R1.out.keep B3.out).other ⟨w.heap.size + 1 + 1, 0, none⟩ (.int .i64 0) (by simp)).other ⟨w.heap.size + 1 + 1, 1, none⟩ (.int .i64 (q : Int)) (by simp)).other ⟨w.heap.size + 1 + 1, 2, none⟩ (.int .i64 (k : Int)) (by simp)).set3 (.int .i64 0) (.int .i64 (q : Int)) (.int .i64 (k : Int))).keep (alloc_below _ (.cells #[.slice vp0 vl0 vc0, .slice vp1 vl1 vc1, .slice vp2 vl2 vc2, .slice vp3 vl3 vc3, .slice vp4 vl4 vc4, .slice vp5 vl5 vc5, .slice vp6 vl6 vc6, .slice vp7 vl7 vc7, .slice vp8 vl8 vc8, .slice vp9 vl9 vc9, .slice vp10 vl10 vc10, .slice vp11 vl11 vc11] 102))
            obtain ⟨_, t0, t1, t2, _, _, _⟩ := N9
            exact bodyPost_ret (v := .agg #[.int .i64 0, .int .i64 (q : Int), .int .i64 (k : Int)]) (by simp [results, Try.results49, go_sem, t0, t1, t2]) rfl ⟨by unfold RxAns; rw [HA.out.1, HA.out.2.1, HA.out.2.2], keepB B9 (alloc_below _ _)⟩
        · obtain rfl : k = r := by omega
          have HN2 := hidden (show ∀ i, i < j + 1 → fitI A T m D ((pst (aOf A T) m 0 1).getD i 0) k = none from fun i hi => by
            by_cases e : i = j
            · rw [e, ← HQ.out]; exact HF.out
            · exact HN.out i (by omega))
          go_wp2
          go_roundw
          case rel => exact ⟨j + 1, by omega, by go_num, HN2, HB⟩
          case measure => simp [intOf]; omega
    · obtain rfl : j = ll := by omega
      have HX := hidden (show rdx A T m D r = none from bst_never HMEM.out (by rw [HLP.out]; exact HN.out))
      have HA := hidden (rx_none HZ.out HX.out)
      have k0 := (R2.out.keep HB.out).c0
      have k1 := (R2.out.keep HB.out).c1
      have k2 := (R2.out.keep HB.out).c2
      have q0 := (R1.out.keep HB.out).c0
      have q1 := (R1.out.keep HB.out).c1
      have q2 := (R1.out.keep HB.out).c2
      have f0 := (R1.out.keep HB.out).f0
      have f1 := (R1.out.keep HB.out).f1
      have f2 := (R1.out.keep HB.out).f2
      go_wp2
      try rw [Exit.noGoto_ret]
      exact bodyPost_ret (v := .agg #[.int .i64 4, .int .i64 0, .int .i64 0]) (by simp [results, Try.results49, go_sem, q0, q1, q2]) rfl ⟨by unfold RxAns; rw [HA.out.1, HA.out.2.1, HA.out.2.2], (((keepB B.out HB.out).setCell (by simp) _).setCell (by simp) _).setCell (by simp) _⟩

end Go.Proofs.Ytbdgnpjbmlcchaa

/- Contracts: FindRedex and IsNormal, as the program tells them. -/
namespace Go.Proofs.Ytbdgnpjbmlcchaa
open Go.RowKit

set_option maxRecDepth 20000 in
set_option maxHeartbeats 800000 in
theorem rewriteFault_any (b off n c b1 o1 r c1 b' off' m c' : Nat) (N : Nat → ByteArray) (A T : Nat → Int) (D : EqL) (w : World) (h : Syms w b off n N A) (hD : Eqs w b1 o1 r D) (h' : Ints w b' off' m T) (hk : Kept n N A) (hk' : KeptE r D) (hm : m ≤ 1048576) :
    Calls Try.prog 36 #[.agg #[.slice (some ⟨b, off, none⟩) n c], .slice (some ⟨b1, o1, none⟩) r c1, .slice (some ⟨b', off', none⟩) m c'] w fun e w' => e = .returned (.int .i64 (boF n N A r D m T)) ∧ Below w.heap.size w w' := by
  have X := hidden (One.new w (.slice (some ⟨b, off, none⟩) n c) 34)
  have B := hidden (alloc_below w (.cells #[.slice (some ⟨b, off, none⟩) n c] 34))
  have Q := hidden (h.keep B.out)
  have I := hidden (h'.keep B.out)
  have ID := hidden (hD.keep B.out)
  have HK := hidden hk
  have HK' := hidden hk'
  clear h h' hD hk hk'
  go_enter Try.func36, Try.ntmps36
  go_wp2_with fail
  with_reducible refine (implRu_any _ _ _ _ _ _ _ _ N A D _ Q.out ID.out HK.out HK'.out).mono ?_
  rintro e w1 ⟨rfl, hb⟩
  replace X := hidden (X.out.keep hb)
  replace Q := hidden (Q.out.keep hb)
  replace I := hidden (I.out.keep hb)
  replace B := hidden (keepB B.out hb)
  clear hb
  by_cases hz : ruF n N A r D = 0
  · have HR := hidden (bo_l (m := m) (T := T) hz)
    have HT := hidden (term_l (m := m) (T := T) (eqs_sig (ru_eqs hz)))
    rw [hz]
    clear hz
    have x0 := X.out.c0
    go_wp2_with fail
    with_reducible refine (implTerm_any _ _ _ _ _ _ _ _ N A T _ Q.out I.out HK.out hm).mono ?_
    rintro e w2 ⟨rfl, hb⟩
    replace B := hidden (keepB B.out hb)
    clear hb x0
    rw [HT.out, ← HR.out]
    obtain ⟨z, hzz⟩ : ∃ z, z = boF n N A r D m T := ⟨_, rfl⟩
    have HZ := hidden hzz
    rw [← hzz]
    clear hzz
    go_wp2
    go_ret
    exact ⟨by rw [← HZ.out]; rfl, B.out⟩
  · have HR := hidden (bo_ru (m := m) (T := T) hz)
    have hz' : (ruF n N A r D != 0) = true := by simpa using hz
    generalize ruF n N A r D = z at *
    clear hz
    go_wp2
    go_ret
    exact ⟨by rw [HR.out]; rfl, B.out⟩

end Go.Proofs.Ytbdgnpjbmlcchaa
