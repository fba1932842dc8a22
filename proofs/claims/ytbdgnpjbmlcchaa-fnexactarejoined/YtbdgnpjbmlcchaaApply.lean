/- Contracts: a term with what a binding binds: ApplyBinding, as the model and as the program makes it. -/
import Derived.Test.YtbdgnpjbmlcchaaPutIn
namespace Go.Proofs.Ytbdgnpjbmlcchaa
open Go.RowKit

/-- The first of m places at which a number stands. -/
def bdI (V : Nat → Int) (v : Int) : Nat → Option Nat
  | 0 => none
  | k + 1 => match bdI V v k with | some i => some i | none => if V k = v then some k else none

/-- What a binding binds a variable to. -/
def bdM (m : Nat) (V : Nat → Int) (D : LsL) (v : Int) : List Int := match bdI V v m with | some i => upto (D.L i) (D.m i) | none => []

/-- .. of a variable's number. -/
def bdN (m : Nat) (V : Nat → Int) (D : LsL) : Nat → List Int := fun v => bdM m V D (v : Int)

theorem bdI_some {V : Nat → Int} {v : Int} : ∀ k i, bdI V v k = some i → i < k ∧ V i = v
  | 0, i, h => by simp [bdI] at h
  | k + 1, i, h => by
    simp only [bdI] at h
    cases hb : bdI V v k with
    | some j => rw [hb] at h; simp at h; subst h; have := bdI_some k j hb; exact ⟨by omega, this.2⟩
    | none =>
      rw [hb] at h
      simp only at h
      split at h
      · next hv => simp at h; subst h; exact ⟨by omega, hv⟩
      · cases h

theorem bdI_none {V : Nat → Int} {v : Int} : ∀ k, (∀ i, i < k → V i ≠ v) → bdI V v k = none
  | 0, _ => rfl
  | k + 1, h => by simp only [bdI]; rw [bdI_none k (fun i hi => h i (by omega))]; simp [h k (by omega)]

theorem bdI_first {V : Nat → Int} {v : Int} {i : Nat} (h : ∀ j, j < i → V j ≠ v) (hi : V i = v) : ∀ k, i < k → bdI V v k = some i
  | 0, hk => by omega
  | k + 1, hk => by
    simp only [bdI]
    by_cases e : i = k
    · subst e; rw [bdI_none i h]; simp [hi]
    · rw [bdI_first h hi k (by omega)]

theorem bdM_some {m : Nat} {V : Nat → Int} {D : LsL} {v : Int} {i : Nat} (h : bdI V v m = some i) : bdM m V D v = upto (D.L i) (D.m i) := by simp [bdM, h]
theorem bdM_none {m : Nat} {V : Nat → Int} {D : LsL} {v : Int} (h : bdI V v m = none) : bdM m V D v = [] := by simp [bdM, h]

theorem bdM_len {m : Nat} {V : Nat → Int} {D : LsL} (h : ∀ i, i < m → D.m i ≤ 24) (v : Int) : (bdM m V D v).length ≤ 24 := by
  cases hb : bdI V v m with
  | some i => rw [bdM_some hb, upto_length]; exact h i (bdI_some m i hb).1
  | none => rw [bdM_none hb]; simp

theorem upto_getD {f : Nat → Int} {k i : Nat} (hi : i < k) : (upto f k).getD i 0 = f i := by simp [upto, hi]

/-- A list that may be none. -/
def MayL (w : World) (p : Option Addr) (l : List Int) : Prop := l.length = 0 ∨ ∃ b off, p = some ⟨b, off, none⟩ ∧ Ints w b off l.length (fun i => l.getD i 0)

theorem Ints.mayL {w : World} {b off n : Nat} {L : Nat → Int} (h : Ints w b off n L) : MayL w (some ⟨b, off, none⟩) (upto L n) :=
  Or.inr ⟨b, off, rfl, by rw [upto_length]; exact h.blk, fun i hi => by rw [upto_length] at hi; rw [upto_getD hi]; exact h.cell i hi⟩

set_option maxRecDepth 20000 in
set_option maxHeartbeats 1600000 in
theorem l6Term_any (E b1 o1 m c1 b2 o2 c2 : Nat) (V : Nat → Int) (D : LsL) (v : Int) (w : World) (he : Two w E (.slice (some ⟨b1, o1, none⟩) m c1) (.slice (some ⟨b2, o2, none⟩) m c2)) (h1 : Ints w b1 o1 m V) (h2 : Mats w b2 o2 m D) (hm : m ≤ 1048576) :
    Calls Try.prog 72 #[.pointer (some ⟨E, 0, none⟩), .int .i64 v] w fun e w' => (∃ p c, e = .returned (.slice p (bdM m V D v).length c) ∧ MayL w' p (bdM m V D v)) ∧ Below w.heap.size w w' := by
  have X := hidden he
  have I1 := hidden h1
  have I2 := hidden h2
  clear he h1 h2
  go_enter Try.func72, Try.ntmps72
  go_wp2
  go_loopw [5] (fun i wr => ∃ k : Nat, k ≤ m ∧ i = .int .i64 (k : Nat) ∧ Hid ((∀ j, j < k → V j ≠ v) ∧ Below w.heap.size w wr)) (fun i _ => m - (intOf i).toNat)
  case atStart => exact ⟨0, Nat.zero_le _, rfl, hidden ⟨fun j hj => by omega, Below.refl _ _⟩⟩
  case round =>
    obtain ⟨k, hk, rfl, HI⟩ := hrel
    have x0 := (X.out.keep HI.out.2).c0
    have x1 := (X.out.keep HI.out.2).c1
    by_cases hlt : k < m
    · have d1 := (I1.out.keep HI.out.2).cell k hlt
      by_cases hv : V k = v
      · have HB := hidden (bdM_some (D := D) (bdI_first HI.out.1 hv m hlt))
        obtain ⟨g, o, c, e1, i1, _⟩ := (I2.out.keep HI.out.2).row k hlt
        have J := hidden i1
        clear i1
        rw [hv] at d1
        clear hv
        go_wp2
        go_ret
        exact ⟨⟨_, _, by rw [HB.out, upto_length]; rfl, by rw [HB.out]; exact J.out.mayL⟩, HI.out.2⟩
      · have HV := hidden hv
        have hv' : (V k == v) = false := by simpa using hv
        clear hv
        go_wp2
        go_roundw
        case rel => exact ⟨k + 1, by omega, by go_num, hidden ⟨fun j hj => by
          by_cases e : j = k
          · rw [e]; exact HV.out
          · exact HI.out.1 j (by omega), HI.out.2⟩⟩
        case measure => simp [intOf]; omega
    · have HB := hidden (bdM_none (D := D) (bdI_none (V := V) (v := v) m (fun i hi => HI.out.1 i (by omega))))
      go_wp2
      go_ret
      exact ⟨⟨none, 0, by rw [HB.out]; rfl, Or.inl (by rw [HB.out]; rfl)⟩, HI.out.2⟩

set_option maxRecDepth 20000 in
set_option maxHeartbeats 3200000 in
theorem l6Apply_any (E b1 o1 m c1 b2 o2 c2 b off k c : Nat) (V : Nat → Int) (D : LsL) (T : Nat → Int) (w : World) (he : Two w E (.slice (some ⟨b1, o1, none⟩) m c1) (.slice (some ⟨b2, o2, none⟩) m c2)) (h1 : Ints w b1 o1 m V) (h2 : Mats w b2 o2 m D) (hm : m ≤ 1048576) (h : Ints w b off k T) (h24 : k ≤ 24) (hx : ∀ i, i < k → -12 ≤ T i) (hd : ∀ i, i < m → D.m i ≤ 24) :
    Calls Try.prog 56 #[.pointer (some ⟨E, 0, none⟩), .slice (some ⟨b, off, none⟩) k c] w fun e w' => ∃ g d, e = .returned (.slice (some ⟨g, 0, none⟩) (putL (bdN m V D) T k).length d) ∧ OwnL w' w.heap.size g d (putL (bdN m V D) T k) ∧ Below w.heap.size w w' := by
  have HO := hidden (show OwnL (w.alloc (.cells #[] 2)) w.heap.size w.heap.size 0 [] from ⟨Nat.le_refl _, World.ownsRow_made w #[] 0 (Nat.le_refl _) (Nat.zero_le _) rfl⟩)
  have X := hidden he
  have I1 := hidden h1
  have I2 := hidden h2
  have H := hidden h
  have HX := hidden hx
  have HL := hidden (show ∀ v, (bdN m V D v).length ≤ 24 from fun v => bdM_len hd (v : Int))
  clear he h1 h2 h hx hd
  generalize hM : bdN m V D = M at HL ⊢
  have HM := hidden hM
  clear hM
  go_enter Try.func56, Try.ntmps56
  go_wp2
  go_loopw [5, 6] (fun o i wr => ∃ (j g d n : Nat), j ≤ k ∧ i = .int .i64 j ∧ o = .slice (some ⟨g, 0, none⟩) n d ∧ n ≤ 1048576 ∧ Hid (n = (putL M T j).length ∧ OwnL wr w.heap.size g d (putL M T j) ∧ Below w.heap.size w wr)) (fun _ i _ => k - (intOf i).toNat)
  case atStart => exact ⟨0, _, _, _, Nat.zero_le _, rfl, rfl, Nat.zero_le _, hidden ⟨rfl, HO.out, alloc_below _ _⟩⟩
  case round =>
    clear HO
    obtain ⟨j, g, d, n, hj, rfl, rfl, hn, HI⟩ := hrel
    by_cases hlt : j < k
    · have hlen := (putL_len HL.out T j).2
      have hn24 : n ≤ 24 * 24 := by have := HI.out.1; omega
      have hlen1 := (putL_len HL.out T (j + 1)).2
      have HN1 := hidden (show (putL M T (j + 1)).length ≤ 1048576 by omega)
      clear hlen hlen1
      have O1 := hidden (show wr.ownsRow w.heap.size 2 1 (.slice (some ⟨g, 0, none⟩) n d) n ((putL M T j).map (fun x => Value.int .i64 x)) by have h1 := HI.out.2.1.own; rw [← HI.out.1] at h1; exact h1)
      have B1 := hidden HI.out.2.2
      have HNL := hidden HI.out.1
      clear HI
      have ab := alloc_below wr (.cells #[] 2)
      have O2 := hidden (O1.out.alloc (.cells #[] 2))
      have B2 := hidden (keepB B1.out ab)
      have z1 := (H.out.keep B2.out).cell j hlt
      clear ab
      by_cases hv : T j < 0
      · obtain ⟨v, hv'⟩ : ∃ v : Nat, T j = -1 - (v : Int) := ⟨(-1 - T j).toNat, by omega⟩
        have h12 := HX.out j hlt
        have HE := hidden (nodL_var (M := M) (v := v))
        have HTJ := hidden hv'
        rw [hv'] at z1 h12
        rw [← HTJ.out] at HE
        clear hv hv'
        have S := hidden (l6Term_any E b1 o1 m c1 b2 o2 c2 V D (-1 - (-1 - (v : Int))) _ (X.out.keep B2.out) (I1.out.keep B2.out) (I2.out.keep B2.out) hm)
        rw [show bdM m V D (-1 - (-1 - (v : Int))) = M v by rw [← HM.out, show (-1 - (-1 - (v : Int))) = (v : Int) by omega]; rfl] at S
        go_wp2_with fail
        with_reducible refine S.out.mono ?_
        rintro e w3 ⟨⟨p, cc, rfl, hp⟩, hb⟩
        have O3 := hidden (ownsRow_upon O2.out hb)
        have B3 := hidden (keepB B2.out hb)
        have z2 := (H.out.keep B3.out).cell j hlt
        rw [HTJ.out] at z2
        have hl24 := HL.out v
        clear hb z1 S
        by_cases h0 : M v = []
        · replace HE := hidden (HE.out.trans (if_neg (fun x => x h0)))
          have hz : (M v).length = 0 := by rw [h0]; rfl
          rw [hz]
          clear hp hz h0 hl24
          go_wp2_with (at_builtin; refine wpList_append_own _ rfl _ _ 26 rfl w.heap.size 2 _ (.int .i64 0) 1 8 Try.underlying26 rfl rfl rfl rfl rfl (by decide) _ _ _ rfl (O3.out.alloc _) ⟨_, 0, none⟩ 1 1 [.int .i64 (-1 - (v : Int))] rfl (by simp) (one_srcI _ _ _) (oneValI _) (by unfold maxLen; omega) (by omega) (by have := B3.out.size; simp; omega) ?_)
          intro v2 w4 hown hgrow hnil
          obtain ⟨g2, d2, rfl, ho, hb⟩ := ownL_open (l := putL M T (j + 1)) hown (by rw [putL, HE.out, List.length_append, ← HNL.out]; rfl) (by rw [putL, HE.out, HTJ.out]; simp) (by simpa using hnil) ((B3.out.alloc B3.out.size _).grown hgrow (by have := B3.out.size; simp; omega) (ownsRow_le O3.out))
          obtain ⟨n2, hn2⟩ : ∃ n2, n2 = (putL M T (j + 1)).length := ⟨_, rfl⟩
          have HF := hidden (And.intro hn2 (And.intro ho hb))
          rw [← hn2]
          clear hown hgrow hnil ho hb z2 hn2
          go_wp2
          go_roundw
          case rel => exact ⟨j + 1, g2, d2, n2, by omega, by go_num, rfl, by have := HN1.out; have := HF.out.1; omega, HF⟩
          case measure => simp [intOf]; omega
        · replace HE := hidden (HE.out.trans (if_pos h0))
          have hz : 0 < (M v).length := List.length_pos_iff.2 h0
          rcases hp with hp | ⟨b3, o3, rfl, hi⟩
          · omega
          have HI := hidden hi
          obtain ⟨q, hq⟩ : ∃ q, q = (M v).length := ⟨_, rfl⟩
          have HK := hidden hq
          rw [← hq] at hz hl24 ⊢
          have hz' : ((q : Int) == 0) = false := by simp; omega
          clear h0 hi hq
          go_wp2_with (at_builtin; refine wpList_append_own _ rfl _ _ 26 rfl w.heap.size 2 _ (.int .i64 0) 1 8 Try.underlying26 rfl rfl rfl rfl rfl (by decide) _ _ _ rfl O3.out ⟨b3, o3, none⟩ q cc ((M v).map (fun x => Value.int .i64 x)) rfl (by simp [HK.out]) (by rw [← vals_list]; exact HI.out.src0) (by intro u hu; simp at hu; obtain ⟨a, _, rfl⟩ := hu; rfl) (by unfold maxLen; omega) (by omega) B3.out.size ?_)
          intro v2 w4 hown hgrow hnil
          obtain ⟨g2, d2, rfl, ho, hb⟩ := ownL_open (l := putL M T (j + 1)) hown (by rw [putL, HE.out, List.length_append, ← HNL.out, HK.out]) (by rw [putL, HE.out]; simp) (by first | exact hnil | simpa using hnil) (B3.out.grown hgrow B3.out.size (ownsRow_le O3.out))
          obtain ⟨n2, hn2⟩ : ∃ n2, n2 = (putL M T (j + 1)).length := ⟨_, rfl⟩
          have HF := hidden (And.intro hn2 (And.intro ho hb))
          rw [← hn2]
          clear hown hgrow hnil ho hb z2 hn2
          go_wp2
          go_roundw
          case rel => exact ⟨j + 1, g2, d2, n2, by omega, by go_num, rfl, by have := HN1.out; have := HF.out.1; omega, HF⟩
          case measure => simp [intOf]; omega
      · have HE := hidden (nodL_sym (M := M) (x := T j) (by omega))
        go_wp2_with (at_builtin; refine wpList_append_own _ rfl _ _ 26 rfl w.heap.size 2 _ (.int .i64 0) 1 8 Try.underlying26 rfl rfl rfl rfl rfl (by decide) _ _ _ rfl (O2.out.alloc _) ⟨_, 0, none⟩ 1 1 [.int .i64 (T j)] rfl (by simp) (by intro j' u hu; have := one_srcI (wr.alloc (.cells #[] 2)) (.int .i64 (T j)) 2 j' u hu; rw [World.size_alloc] at this; exact this) (oneValI _) (by unfold maxLen; omega) (by omega) (by have := B1.out.size; simp; omega) ?_)
        intro v2 w4 hown hgrow hnil
        obtain ⟨g2, d2, rfl, ho, hb⟩ := ownL_open (l := putL M T (j + 1)) hown (by rw [putL, HE.out, List.length_append, ← HNL.out]; rfl) (by rw [putL, HE.out]; simp) (by simpa using hnil) ((B2.out.alloc B2.out.size _).grown hgrow (by have := B1.out.size; simp; omega) (ownsRow_le O2.out))
        obtain ⟨n2, hn2⟩ : ∃ n2, n2 = (putL M T (j + 1)).length := ⟨_, rfl⟩
        have HF := hidden (And.intro hn2 (And.intro ho hb))
        rw [← hn2]
        clear hown hgrow hnil ho hb z1 hn2
        go_wp2
        go_roundw
        case rel => exact ⟨j + 1, g2, d2, n2, by omega, by go_num, rfl, by have := HN1.out; have := HF.out.1; omega, HF⟩
        case measure => simp [intOf]; omega
    · obtain rfl : k = j := by omega
      go_wp2
      go_ret
      exact ⟨g, d, by rw [← HI.out.1]; rfl, HI.out.2.1, HI.out.2.2⟩

/-- The code of ApplyBinding. -/
noncomputable def apC (n : Nat) (N : Nat → ByteArray) (A : Nat → Int) (m : Nat) (V : Nat → Int) (t : Nat) (D : LsL) (k : Nat) (T : Nat → Int) : Int :=
  if bnF n N A m V t D = 0 then (if lF n A k T = 0 then (if 24 < (putL (bdN m V D) T k).length then 2 else 0) else lF n A k T) else bnF n N A m V t D

section
variable {n : Nat} {N : Nat → ByteArray} {A : Nat → Int} {m : Nat} {V : Nat → Int} {t : Nat} {D : LsL} {k : Nat} {T : Nat → Int}
theorem ap_fault (h : bnF n N A m V t D ≠ 0) : apC n N A m V t D k T = bnF n N A m V t D := by rw [apC, if_neg h]
theorem ap_term (h : bnF n N A m V t D = 0) (hl : lF n A k T ≠ 0) : apC n N A m V t D k T = lF n A k T := by rw [apC, if_pos h, if_neg hl]
theorem ap_put (h : bnF n N A m V t D = 0) (hl : lF n A k T = 0) : apC n N A m V t D k T = if 24 < (putL (bdN m V D) T k).length then 2 else 0 := by rw [apC, if_pos h, if_pos hl]

theorem bn_sig (h : bnF n N A m V t D = 0) : faultF n N A = 0 := by
  refine Classical.byContradiction fun hf => ?_
  rw [bn_fault hf] at h; exact hf h
theorem bn_ok (h : bnF n N A m V t D = 0) : m = t ∧ Bn n A m V D := by
  rw [bn_l (bn_sig h)] at h; exact bn_right h
theorem bn_few (h : Bn n A m V D) (hs : Sound n A) : ∀ i, i < m → D.m i ≤ 24 := fun i hi => (lF_right hs (h.trm i hi)).nods.most
end

end Go.Proofs.Ytbdgnpjbmlcchaa
