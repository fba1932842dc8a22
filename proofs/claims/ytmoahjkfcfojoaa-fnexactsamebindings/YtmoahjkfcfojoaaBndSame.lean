/- Contracts: whether two bindings are the same, as the model and as the program tells it. -/
import Derived.Test.YtmoahjkfcfojoaaBnd
namespace Go.Proofs.Ytmoahjkfcfojoaa
open Go.RowKit

noncomputable def liAt (D E : LsL) (i : Nat) : Bool := sameI (D.m i) (E.m i) (D.L i) (E.L i)

open Classical in
noncomputable def sameM (n k : Nat) (D E : LsL) : Bool := decide (n = k ∧ ∀ i, i < n → liAt D E i = true)

noncomputable def sameBd (m1 : Nat) (L1 : Nat → Int) (n1 : Nat) (D1 : LsL) (m2 : Nat) (L2 : Nat → Int) (n2 : Nat) (D2 : LsL) : Bool := sameI m1 m2 L1 L2 && sameM n1 n2 D1 D2

theorem sameM_len {n k : Nat} {D E : LsL} (h : n ≠ k) : sameM n k D E = false := by simp [sameM, h]
theorem sameM_no {n : Nat} {D E : LsL} {i : Nat} (hi : i < n) (h : liAt D E i = false) : sameM n n D E = false := by
  simp only [sameM, decide_eq_false_iff_not]
  rintro ⟨_, hx⟩
  rw [hx i hi] at h; cases h
theorem sameM_yes {n : Nat} {D E : LsL} (h : ∀ i, i < n → liAt D E i = true) : sameM n n D E = true := by
  unfold sameM; exact decide_eq_true ⟨rfl, h⟩

set_option maxRecDepth 20000 in
set_option maxHeartbeats 1600000 in
theorem specSameB_any (b1 o1 m1 c1 b2 o2 n1 d1 b3 o3 m2 c2 b4 o4 n2 d2 : Nat) (L1 L2 : Nat → Int) (D1 D2 : LsL) (w : World) (h1 : Ints w b1 o1 m1 L1) (h2 : Mats w b2 o2 n1 D1) (h3 : Ints w b3 o3 m2 L2) (h4 : Mats w b4 o4 n2 D2) (hm : m1 ≤ 1048576) (hk : KeptM n1 D1) :
    Calls Try.prog 39 #[.agg #[.slice (some ⟨b1, o1, none⟩) m1 c1, .slice (some ⟨b2, o2, none⟩) n1 d1], .agg #[.slice (some ⟨b3, o3, none⟩) m2 c2, .slice (some ⟨b4, o4, none⟩) n2 d2]] w fun e w' => e = .returned (.bool (sameBd m1 L1 n1 D1 m2 L2 n2 D2)) ∧ Below w.heap.size w w' := by
  have hn := hk.most
  have A1 := hidden (alloc_below w (.cells #[.slice (some ⟨b1, o1, none⟩) m1 c1, .slice (some ⟨b2, o2, none⟩) n1 d1] 36))
  have X1 := hidden (Two.new w (.slice (some ⟨b1, o1, none⟩) m1 c1) (.slice (some ⟨b2, o2, none⟩) n1 d1) 36)
  have A2 := hidden (alloc_below (w.alloc (.cells #[.slice (some ⟨b1, o1, none⟩) m1 c1, .slice (some ⟨b2, o2, none⟩) n1 d1] 36)) (.cells #[.slice (some ⟨b3, o3, none⟩) m2 c2, .slice (some ⟨b4, o4, none⟩) n2 d2] 36))
  have X2 := hidden (Two.new (w.alloc (.cells #[.slice (some ⟨b1, o1, none⟩) m1 c1, .slice (some ⟨b2, o2, none⟩) n1 d1] 36)) (.slice (some ⟨b3, o3, none⟩) m2 c2) (.slice (some ⟨b4, o4, none⟩) n2 d2) 36)
  replace X1 := hidden (X1.out.keep A2.out)
  simp only [World.size_alloc] at X2
  have B := hidden (keepB A1.out A2.out)
  have H1 := hidden (h1.keep B.out)
  have H2 := hidden (h2.keep B.out)
  have H3 := hidden (h3.keep B.out)
  have H4 := hidden (h4.keep B.out)
  have HK := hidden hk
  clear h1 h2 h3 h4 hk
  go_enter Try.func39, Try.ntmps39
  go_wp2_with fail
  with_reducible refine (l1Same_any _ _ _ _ _ _ _ _ L1 L2 _ H1.out H3.out hm).mono ?_
  rintro e w1 ⟨rfl, hb⟩
  replace B := hidden (keepB B.out hb)
  replace H2 := hidden (H2.out.keep hb)
  replace H4 := hidden (H4.out.keep hb)
  replace X1 := hidden (X1.out.keep hb)
  replace X2 := hidden (X2.out.keep hb)
  clear hb H1 H3
  generalize hz : sameI m1 m2 L1 L2 = ib
  cases ib
  · have HR := hidden (show sameBd m1 L1 n1 D1 m2 L2 n2 D2 = false by simp [sameBd, hz])
    clear hz
    go_wp2
    go_ret
    exact ⟨by rw [HR.out]; rfl, B.out⟩
  · have HR := hidden (show sameBd m1 L1 n1 D1 m2 L2 n2 D2 = sameM n1 n2 D1 D2 by simp [sameBd, hz])
    clear hz
    by_cases hne : n1 = n2
    · subst hne
      have x1 := X1.out.c1
      have x2 := X2.out.c1
      go_wp2
      go_loopw [5] (fun i wr => ∃ k : Nat, k ≤ n1 ∧ i = .int .i64 k ∧ Hid (∀ i, i < k → liAt D1 D2 i = true) ∧ Hid (Below w1.heap.size w1 wr)) (fun i _ => n1 - (intOf i).toNat)
      case atStart => exact ⟨0, Nat.zero_le _, rfl, hidden (fun i hi => by omega), hidden (Below.refl _ _)⟩
      case round =>
        obtain ⟨k, hk, rfl, HE, HB⟩ := hrel
        clear x1 x2
        have x1 := (X1.out.keep HB.out).c1
        have x2 := (X2.out.keep HB.out).c1
        by_cases hlt : k < n1
        · obtain ⟨g1, p1, q1, e1, i1, _⟩ := (H2.out.keep HB.out).row k hlt
          obtain ⟨g3, p3, q3, e3, i3, _⟩ := (H4.out.keep HB.out).row k hlt
          have S := hidden (fun wc (hc : Below wr.heap.size wr wc) => l1Same_any g1 p1 (D1.m k) q1 g3 p3 (D2.m k) q3 (D1.L k) (D2.L k) wc (i1.keep hc) (i3.keep hc) (HK.out.m k hlt))
          replace S := hidden (show ∀ wc (hc : Below wr.heap.size wr wc), Calls Try.prog 78 #[.slice (some ⟨g1, p1, none⟩) (D1.m k) q1, .slice (some ⟨g3, p3, none⟩) (D2.m k) q3] wc fun e w' => e = .returned (.bool (liAt D1 D2 k)) ∧ Below wc.heap.size wc w' from S.out)
          clear i1 i3
          generalize hq : liAt D1 D2 k = ib at S
          cases ib
          · have HR' := hidden (sameM_no hlt hq)
            clear hq
            go_wp2_with fail
            go_region_with (first | (go_at_call 78; with_reducible refine (S.out _ ?_).mono ?_; exact (Below.refl _ _).drew; rintro e w5 ⟨rfl, hb5⟩))
            all_goals go_wp2
            all_goals go_ret
            all_goals exact ⟨by rw [HR.out, HR'.out]; rfl, keepB B.out (keepB HB.out ((Below.refl _ _).drew.trans hb5))⟩
          · have HQ := hidden hq
            clear hq
            go_wp2_with fail
            go_cut [39] (fun t wc => t = .bool false ∧ Below wr.heap.size wr wc)
            case first =>
              go_region_with (first | (go_at_call 78; with_reducible refine (S.out _ ?_).mono ?_; exact (Below.refl _ _).drew; rintro e w5 ⟨rfl, hb5⟩))
              all_goals (go_wp2_with fail; go_meet)
              all_goals exact ⟨rfl, (Below.refl _ _).drew.trans hb5⟩
            case rest =>
              rename World => w5
              obtain ⟨rfl, bc⟩ := hcut
              have B1 := hidden (keepB HB.out bc)
              clear bc e1 e3 x1 x2
              go_wp2
              go_roundw
              case rel => exact ⟨k + 1, by omega, by go_num, hidden (fun i hi => by
                by_cases e : i = k
                · rw [e]; exact HQ.out
                · exact HE.out i (by omega)), B1⟩
              case measure => simp [intOf]; omega
        · have HR' := hidden (sameM_yes (n := n1) (fun i hi => HE.out i (by omega)))
          go_wp2
          go_ret
          exact ⟨by rw [HR.out, HR'.out]; rfl, keepB B.out HB.out⟩
    · have HR' := hidden (sameM_len (D := D1) (E := D2) hne)
      have h1 : ((n1 : Int) != (n2 : Int)) = true := by simp; omega
      have x1 := X1.out.c1
      have x2 := X2.out.c1
      go_wp2
      go_ret
      exact ⟨by rw [HR.out, HR'.out]; rfl, B.out⟩

set_option maxRecDepth 20000 in
set_option maxHeartbeats 800000 in
theorem equalFuncM_len (p p' : Option Addr) (n k c c' : Nat) (D E : LsL) (w : World) (h : n ≠ k) :
    Calls Try.prog 80 #[.slice p n c, .slice p' k c', .func (.func 81) #[] #[]] w fun e w' => e = .returned (.bool (sameM n k D E)) ∧ Below w.heap.size w w' := by
  have HR := hidden (sameM_len (D := D) (E := E) h)
  have h1 : ((n : Int) != (k : Int)) = true := by simp; omega
  go_enter Try.func80, Try.ntmps80
  go_wp2
  go_ret
  exact ⟨by rw [HR.out]; rfl, Below.refl _ _⟩

set_option maxRecDepth 20000 in
set_option maxHeartbeats 1600000 in
theorem equalFuncM_row (b off b' off' n c c' : Nat) (D E : LsL) (w : World) (h : Mats w b off n D) (h' : Mats w b' off' n E) (hk : KeptM n D) :
    Calls Try.prog 80 #[.slice (some ⟨b, off, none⟩) n c, .slice (some ⟨b', off', none⟩) n c', .func (.func 81) #[] #[]] w fun e w' => e = .returned (.bool (sameM n n D E)) ∧ Below w.heap.size w w' := by
  have hn := hk.most
  have H := hidden h
  have H' := hidden h'
  have HK := hidden hk
  clear h h' hk
  go_enter Try.func80, Try.ntmps80
  go_wp2
  go_loopw [17] (fun i wr => ∃ k : Nat, k ≤ n ∧ i = .int .i64 k ∧ Hid (∀ i, i < k → liAt D E i = true) ∧ Hid (Below w.heap.size w wr)) (fun i _ => n - (intOf i).toNat)
  case atStart => exact ⟨0, Nat.zero_le _, rfl, hidden (fun i hi => by omega), hidden (Below.refl _ _)⟩
  case round =>
    obtain ⟨k, hk, rfl, HE, HB⟩ := hrel
    by_cases hlt : k < n
    · obtain ⟨g1, o1, c1, e1, i1, _⟩ := (H.out.keep HB.out).row k hlt
      obtain ⟨g3, o3, c3, e3, i3, _⟩ := (H'.out.keep HB.out).row k hlt
      have I1 := hidden i1
      have I3 := hidden i3
      clear i1 i3
      go_wp2_with fail
      with_reducible refine (sameTerms_any _ _ _ _ _ _ _ _ (D.L k) (E.L k) _ I1.out I3.out (HK.out.m k hlt)).mono ?_
      rintro e w1 ⟨rfl, hb⟩
      have B1 := hidden (keepB HB.out hb)
      clear hb e1 e3 I1 I3
      rw [show sameI (D.m k) (E.m k) (D.L k) (E.L k) = liAt D E k from rfl]
      generalize hq : liAt D E k = ib
      cases ib
      · have HR := hidden (sameM_no hlt hq)
        clear hq
        go_wp2
        go_ret
        exact ⟨by rw [HR.out]; rfl, B1.out⟩
      · have HQ := hidden hq
        clear hq
        go_wp2
        go_roundw
        case rel => exact ⟨k + 1, by omega, by go_num, hidden (fun i hi => by
          by_cases e : i = k
          · rw [e]; exact HQ.out
          · exact HE.out i (by omega)), B1⟩
        case measure => simp [intOf]; omega
    · have HR := hidden (sameM_yes (n := n) (fun i hi => HE.out i (by omega)))
      go_wp2
      go_ret
      exact ⟨by rw [HR.out]; rfl, HB.out⟩

theorem equalFuncM_any (b off b' off' n k c c' : Nat) (D E : LsL) (w : World) (h : Mats w b off n D) (h' : Mats w b' off' k E) (hk : KeptM n D) :
    Calls Try.prog 80 #[.slice (some ⟨b, off, none⟩) n c, .slice (some ⟨b', off', none⟩) k c', .func (.func 81) #[] #[]] w fun e w' => e = .returned (.bool (sameM n k D E)) ∧ Below w.heap.size w w' := by
  by_cases e : n = k
  · subst e; exact equalFuncM_row b off b' off' n c c' D E w h h' hk
  · exact equalFuncM_len _ _ n k c c' D E w e

set_option maxRecDepth 20000 in
set_option maxHeartbeats 1600000 in
theorem implSameB_any (b1 o1 m1 c1 b2 o2 n1 d1 b3 o3 m2 c2 b4 o4 n2 d2 : Nat) (L1 L2 : Nat → Int) (D1 D2 : LsL) (w : World) (h1 : Ints w b1 o1 m1 L1) (h2 : Mats w b2 o2 n1 D1) (h3 : Ints w b3 o3 m2 L2) (h4 : Mats w b4 o4 n2 D2) (hm : m1 ≤ 1048576) (hk : KeptM n1 D1) :
    Calls Try.prog 40 #[.agg #[.slice (some ⟨b1, o1, none⟩) m1 c1, .slice (some ⟨b2, o2, none⟩) n1 d1], .agg #[.slice (some ⟨b3, o3, none⟩) m2 c2, .slice (some ⟨b4, o4, none⟩) n2 d2]] w fun e w' => e = .returned (.bool (sameBd m1 L1 n1 D1 m2 L2 n2 D2)) ∧ Below w.heap.size w w' := by
  have A1 := hidden (alloc_below w (.cells #[.slice (some ⟨b1, o1, none⟩) m1 c1, .slice (some ⟨b2, o2, none⟩) n1 d1] 36))
  have X1 := hidden (Two.new w (.slice (some ⟨b1, o1, none⟩) m1 c1) (.slice (some ⟨b2, o2, none⟩) n1 d1) 36)
  have A2 := hidden (alloc_below (w.alloc (.cells #[.slice (some ⟨b1, o1, none⟩) m1 c1, .slice (some ⟨b2, o2, none⟩) n1 d1] 36)) (.cells #[.slice (some ⟨b3, o3, none⟩) m2 c2, .slice (some ⟨b4, o4, none⟩) n2 d2] 36))
  have X2 := hidden (Two.new (w.alloc (.cells #[.slice (some ⟨b1, o1, none⟩) m1 c1, .slice (some ⟨b2, o2, none⟩) n1 d1] 36)) (.slice (some ⟨b3, o3, none⟩) m2 c2) (.slice (some ⟨b4, o4, none⟩) n2 d2) 36)
  replace X1 := hidden (X1.out.keep A2.out)
  simp only [World.size_alloc] at X2
  have B := hidden (keepB A1.out A2.out)
  have H1 := hidden (h1.keep B.out)
  have H2 := hidden (h2.keep B.out)
  have H3 := hidden (h3.keep B.out)
  have H4 := hidden (h4.keep B.out)
  have HK := hidden hk
  clear h1 h2 h3 h4 hk
  go_enter Try.func40, Try.ntmps40
  go_wp2_with fail
  with_reducible refine (equal_any _ _ _ _ _ _ _ _ L1 L2 _ H1.out H3.out hm).mono ?_
  rintro e w1 ⟨rfl, hb⟩
  replace B := hidden (keepB B.out hb)
  replace H2 := hidden (H2.out.keep hb)
  replace H4 := hidden (H4.out.keep hb)
  replace X1 := hidden (X1.out.keep hb)
  replace X2 := hidden (X2.out.keep hb)
  clear hb H1 H3
  generalize hz : sameI m1 m2 L1 L2 = ib
  cases ib
  · have HR := hidden (show sameBd m1 L1 n1 D1 m2 L2 n2 D2 = false by simp [sameBd, hz])
    clear hz
    go_wp2
    go_ret
    exact ⟨by rw [HR.out]; rfl, B.out⟩
  · have HR := hidden (show sameBd m1 L1 n1 D1 m2 L2 n2 D2 = sameM n1 n2 D1 D2 by simp [sameBd, hz])
    clear hz
    have x1 := X1.out.c1
    have x2 := X2.out.c1
    go_wp2_with fail
    with_reducible refine (equalFuncM_any _ _ _ _ _ _ _ _ D1 D2 _ H2.out H4.out HK.out).mono ?_
    rintro e w2 ⟨rfl, hb⟩
    replace B := hidden (keepB B.out hb)
    clear hb x1 x2
    go_wp2
    go_ret
    exact ⟨by rw [HR.out]; rfl, B.out⟩

end Go.Proofs.Ytmoahjkfcfojoaa
