/- Several texts as one: CutS, CutT, CutK, UpI, CutI. -/
import Derived.Test.YtcnkkoegfjggaaaUp
import Derived.Test.YtcnkkoegfjggaaaKey
import Derived.Test.YtcnkkoegfjggaaaKeyRes
import Derived.Test.YtcnkkoegfjggaaaRound
import Derived.Sort.CutIn
import Derived.Deep.RegionHeld3
/- Contracts: the two terms of a key: the model's l5Cut and CutKey. -/
namespace Go.Proofs.Ytcnkkoegfjggaaa
open Go.RowKit

/-- Bytes from a place on. -/
def behind (l : Nat → Int) (k : Nat) : Nat → Int := fun i => l (k + i)

theorem Byts.behind {w : World} {b off m : Nat} {l : Nat → Int} (h : Byts w (some ⟨b, off, none⟩) m l) {k : Nat} (hk : k ≤ m) : Byts w (some ⟨b, off + k, none⟩) (m - k) (behind l k) := by
  refine ⟨?_, fun i hi => h.byt (k + i) (by omega)⟩
  rcases h.row with e | ⟨b', off', e, h1, h2⟩
  · exact Or.inl (by omega)
  · cases e
    exact Or.inr ⟨b, off + k, rfl, h1, fun i hi => by rw [Nat.add_assoc]; exact h2 (k + i) (by omega)⟩

/-- How many bytes the second term has. -/
noncomputable def rd2 (n : Nat) (A : Nat → Int) (m : Nat) (l : Nat → Int) : Nat := rdK n A (m - rdK n A m l) (behind l (rdK n A m l))

/-- Bytes are those of two terms that may be a key. -/
structure CutP (n : Nat) (A : Nat → Int) (m : Nat) (l : Nat → Int) : Prop where
  k1 : rdK n A m l ≠ 0
  k2 : rd2 n A m l ≠ 0
  all : rdK n A m l + rd2 n A m l = m
  short : shortC (rdK n A m l) (nodT l) (rd2 n A m l) (nodT (behind l (rdK n A m l))) = 0

/-- What cutting answers: nothing, or two lists of its own. -/
def CutAns (w : World) (P : Prop) (K1 : Nat) (T1 : Nat → Int) (K2 : Nat) (T2 : Nat → Int) (e : Ending) (w' : World) : Prop :=
  (¬ P ∧ e = .returned (.tuple #[.slice none 0 0, .slice none 0 0, .bool false])) ∨
  (P ∧ ∃ g1 d1 g2 d2, e = .returned (.tuple #[.slice (some ⟨g1, 0, none⟩) K1 d1, .slice (some ⟨g2, 0, none⟩) K2 d2, .bool true]) ∧ w.heap.size ≤ g1 ∧ g1 < g2 ∧ OwnI w' w.heap.size g1 K1 d1 T1 K1 ∧ OwnI w' w.heap.size g2 K2 d2 T2 K2)

set_option maxRecDepth 20000 in
set_option maxHeartbeats 1600000 in
theorem l5Cut_any (B b off n c b' off' m c' : Nat) (N : Nat → ByteArray) (A l : Nat → Int) (w : World) (hd : One w B (.slice (some ⟨b, off, none⟩) n c)) (h : Syms w b off n N A) (hs : Sound n A) (hm : m ≤ 1048576) (hmc : m ≤ c') (hl : Byts w (some ⟨b', off', none⟩) m l) :
    Calls Try.prog 49 #[.pointer (some ⟨B, 0, none⟩), .slice (some ⟨b', off', none⟩) m c'] w fun e w' => CutAns w (CutP n A m l) (rdK n A m l) (nodT l) (rd2 n A m l) (nodT (behind l (rdK n A m l))) e w' ∧ Below w.heap.size w w' := by
  have D := hidden hd
  have Q := hidden h
  have HS := hidden hs
  have I := hidden hl
  clear hd h hs hl
  go_enter Try.func49, Try.ntmps49
  go_wp2_with fail
  with_reducible refine (l5Read_any _ _ _ _ _ _ m c' N A l _ D.out Q.out HS.out hm I.out).mono ?_
  rintro r w1 ⟨ha, hb⟩
  have B1 := hidden hb
  replace D := hidden (D.out.keep hb)
  replace Q := hidden (Q.out.keep hb)
  replace I := hidden (I.out.keep hb)
  clear hb
  have hle := (rd_le (n := n) (A := A) (m := m) (l := l))
  rcases ha with ⟨h0, rfl⟩ | ⟨h0, g1, d1, rfl, hg1, ho⟩
  · have HN := hidden (show ¬ CutP n A m l from fun h => h.k1 h0)
    clear h0 hle
    go_wp2
    go_ret3
    exact ⟨Or.inl ⟨HN.out, rfl⟩, B1.out⟩
  · have O1 := hidden ho
    have HB := hidden (I.out.behind hle.1)
    have HK2 := hidden (show rd2 n A m l = rdK n A (m - rdK n A m l) (behind l (rdK n A m l)) from rfl)
    have HP := hidden (fun (a : rdK n A m l ≠ 0) b c d => CutP.mk (n := n) (A := A) (m := m) (l := l) a b c d)
    have HP1 := hidden (fun h : CutP n A m l => h.k2)
    have HP2 := hidden (fun h : CutP n A m l => h.all)
    have HP3 := hidden (fun h : CutP n A m l => h.short)
    generalize hT : nodT (behind l (rdK n A m l)) = T2 at *
    have HT := hidden hT
    clear hT ho
    generalize hk : rdK n A m l = K1 at *
    have HE := hidden hk
    clear hk
    have e1 : ((K1 : Int) == 0) = false := by simp; omega
    have hk1 : K1 ≤ m := hle.1
    have h24 : K1 ≤ 24 := hle.2
    clear hle
    have RD := hidden (show ∀ (p' : Option Addr) (cc : Nat) (ww : World), One ww B (.slice (some ⟨b, off, none⟩) n c) → Syms ww b off n N A → Byts ww p' (m - K1) (behind l K1) → Calls Try.prog 46 #[.pointer (some ⟨B, 0, none⟩), .slice p' (m - K1) cc] ww fun e w' => ReadAns ww (rd2 n A m l) T2 e w' ∧ Below ww.heap.size ww w' from fun p' cc ww a1 a2 a3 => by
      rw [HK2.out, ← HT.out]
      exact l5Read_any B b off n c p' (m - K1) cc N A (behind l K1) ww a1 a2 HS.out (by omega) a3)
    have hle2 := (rd_le (n := n) (A := A) (m := m - K1) (l := behind l K1))
    rw [← HK2.out] at hle2
    generalize hk : rd2 n A m l = K2 at *
    have HE2 := hidden hk
    clear hk HK2
    by_cases hcK : c' = K1
    · obtain rfl : m = K1 := by omega
      have hz : K2 = 0 := by omega
      have HN := hidden (show ¬ CutP n A m l from fun h => HP1.out h hz)
      subst hcK
      have R0 := RD.out (some ⟨b', off', none⟩) 0 w1 D.out Q.out ⟨Or.inl (Nat.sub_self _), fun i hi => by omega⟩
      rw [Nat.sub_self] at R0
      have RZ := hidden R0
      clear R0
      go_wp2_with fail
      with_reducible refine RZ.out.mono ?_
      rintro r w2 ⟨ha, hb⟩
      replace B1 := hidden (keepB B1.out hb)
      clear hb
      rcases ha with ⟨h2, rfl⟩ | ⟨h2, -⟩
      · go_wp2
        go_ret3
        exact ⟨Or.inl ⟨HN.out, rfl⟩, B1.out⟩
      · omega
    · go_wp2_with fail
      with_reducible refine (RD.out _ _ _ D.out Q.out HB.out).mono ?_
      rintro r w2 ⟨ha, hb⟩
      have hlt := O1.out.lt
      replace O1 := hidden (O1.out.keep hb)
      replace B1 := hidden (keepB B1.out hb)
      clear hb
      rcases ha with ⟨h2, rfl⟩ | ⟨h2, g2, d2, rfl, hg2, ho⟩
      · have HN := hidden (show ¬ CutP n A m l from fun h => HP1.out h h2)
        clear h2
        go_wp2
        go_ret3
        exact ⟨Or.inl ⟨HN.out, rfl⟩, B1.out⟩
      · have O2 := hidden ho
        have e2 : ((K2 : Int) == 0) = false := by simp; omega
        clear ho
        by_cases hall : K1 + K2 = m
        · have e3 : ((K1 : Int) + (K2 : Int) != (m : Int)) = false := by simp; omega
          go_wp2_with fail
          with_reducible refine (l5Short_any _ _ _ _ _ _ _ _ (nodT l) T2 _ O1.out.ints O2.out.ints (by omega) (by omega)).mono ?_
          rintro r w3 ⟨rfl, hb⟩
          replace O1 := hidden (O1.out.keep hb)
          replace O2 := hidden (O2.out.keep hb)
          replace B1 := hidden (keepB B1.out hb)
          clear hb
          by_cases hsh : shortC K1 (nodT l) K2 T2 = 0
          · have HY := hidden (HP.out (by omega) (by omega) hall hsh)
            rw [hsh]
            clear hsh
            go_wp2
            go_ret3
            exact ⟨Or.inr ⟨HY.out, g1, d1, g2, d2, by rw [HE.out, HE2.out]; rfl, hg1, by omega, by rw [HE.out]; exact O1.out, by rw [HE2.out, HE.out, HT.out]; exact O2.out.base (by omega)⟩, B1.out⟩
          · have HN := hidden (show ¬ CutP n A m l from fun h => hsh (HP3.out h))
            have hs' : (shortC K1 (nodT l) K2 T2 != 0) = true := by simpa using hsh
            generalize shortC K1 (nodT l) K2 T2 = z at hs' ⊢
            clear hsh
            go_wp2
            go_ret3
            exact ⟨Or.inl ⟨HN.out, rfl⟩, B1.out⟩
        · have HN := hidden (show ¬ CutP n A m l from fun h => hall (HP2.out h))
          have e3 : ((K1 : Int) + (K2 : Int) != (m : Int)) = true := by simp; omega
          clear hall
          go_wp2
          go_ret3
          exact ⟨Or.inl ⟨HN.out, rfl⟩, B1.out⟩

end Go.Proofs.Ytcnkkoegfjggaaa

/- Contracts: the term that bytes begin with, as the program cuts it off. -/
namespace Go.Proofs.Ytcnkkoegfjggaaa
open Go.RowKit Go.Shelf

attribute [local go_sem] Oper.semAt_some

/-- A variable in a box of its own. -/
structure Box1 (w : World) (b : Nat) (v : Value) : Prop where
  blk : b < w.heap.size
  c0 : w.cell? ⟨b, 0, none⟩ = some v
  f0 : w.frozen? ⟨b, 0, none⟩ = false

theorem Box1.new (w : World) (v : Value) (t : TypeId) : Box1 (w.alloc (.cells #[v] t)) w.heap.size v := by
  have h := Boxed.new w t v
  exact ⟨by simp, h.cell, h.frozen⟩
theorem Box1.keep {w w' : World} {b : Nat} {v : Value} (h : Box1 w b v) (hb : Below w.heap.size w w') : Box1 w' b v :=
  ⟨Nat.lt_of_lt_of_le h.blk hb.size, (hb.cell (p := ⟨b, 0, none⟩) h.blk).trans h.c0, (hb.frozen (p := ⟨b, 0, none⟩) h.blk).trans h.f0⟩

theorem wrapK {z : Int} (h0 : 0 ≤ z) (h1 : z ≤ 1048576) : IntKind.i64.wrap z = z := by
  have e : z % 18446744073709551616 = z := Int.emod_eq_of_lt h0 (by omega)
  have h2 : ¬ (9223372036854775808 : Int) ≤ z := by omega
  simp [IntKind.wrap, IntKind.bits, IntKind.signed, e, h2]
theorem Box1.same {w : World} {b : Nat} {v : Value} (h : Box1 w b v) (u : Value) : Box1 (w.setCell ⟨b, 0, none⟩ u) b u :=
  ⟨by rw [World.size_setCell]; exact h.blk, World.cell?_setCell_same' _ _ _ (by rw [h.c0]; rfl), by rw [World.frozen?_setCell]; exact h.f0⟩
theorem Box1.far {w : World} {b : Nat} {v : Value} (h : Box1 w b v) {b' : Nat} (hne : b ≠ b') (u : Value) : Box1 (w.setCell ⟨b', 0, none⟩ u) b v :=
  ⟨by rw [World.size_setCell]; exact h.blk, by rw [World.cell?_setCell_other _ _ _ _ (fun e => hne (congrArg Addr.block e).symm)]; exact h.c0, by rw [World.frozen?_setCell]; exact h.f0⟩

/-- The boxes of the cut while its results are stored. -/
structure St (w V : World) (X : Nat) (vx vd v2 v3 v4 : Value) : Prop where
  cx : V.cell? ⟨X, 0, none⟩ = some vx
  cd : V.cell? ⟨w.heap.size + 1, 0, none⟩ = some vd
  b2 : Box1 V (w.heap.size + 1 + 1) v2
  b3 : Box1 V (w.heap.size + 1 + 1 + 1) v3
  b4 : Box1 V (w.heap.size + 1 + 1 + 1 + 1) v4
  xn : w.heap.size + 5 ≤ X
  bw : Below w.heap.size w V

section
variable {w V V' : World} {X : Nat} {vx vd v2 v3 v4 : Value}
theorem St.call (h : St w V X vx vd v2 v3 v4) (hb : Below V.heap.size V V') : St w V' X vx vd v2 v3 v4 :=
  ⟨(hb.cell (p := ⟨X, 0, none⟩) (World.block_lt_of_cell? V _ h.cx)).trans h.cx, (hb.cell (p := ⟨w.heap.size + 1, 0, none⟩) (World.block_lt_of_cell? V _ h.cd)).trans h.cd, h.b2.keep hb, h.b3.keep hb, h.b4.keep hb, h.xn, keepB h.bw hb⟩
theorem St.set2 (h : St w V X vx vd v2 v3 v4) (u : Value) : St w (V.setCell ⟨w.heap.size + 1 + 1, 0, none⟩ u) X vx vd u v3 v4 := by
  have hx := h.xn
  exact ⟨by rw [World.cell?_setCell_other _ _ _ _ (by simp <;> omega)]; exact h.cx, by rw [World.cell?_setCell_other _ _ _ _ (by simp)]; exact h.cd, h.b2.same u, h.b3.far (by omega) u, h.b4.far (by omega) u, h.xn, h.bw.setCell (by simp <;> omega) u⟩
theorem St.set3 (h : St w V X vx vd v2 v3 v4) (u : Value) : St w (V.setCell ⟨w.heap.size + 1 + 1 + 1, 0, none⟩ u) X vx vd v2 u v4 := by
  have hx := h.xn
  exact ⟨by rw [World.cell?_setCell_other _ _ _ _ (by simp <;> omega)]; exact h.cx, by rw [World.cell?_setCell_other _ _ _ _ (by simp)]; exact h.cd, h.b2.far (by omega) u, h.b3.same u, h.b4.far (by omega) u, h.xn, h.bw.setCell (by simp <;> omega) u⟩
theorem St.set4 (h : St w V X vx vd v2 v3 v4) (u : Value) : St w (V.setCell ⟨w.heap.size + 1 + 1 + 1 + 1, 0, none⟩ u) X vx vd v2 v3 u := by
  have hx := h.xn
  exact ⟨by rw [World.cell?_setCell_other _ _ _ _ (by simp <;> omega)]; exact h.cx, by rw [World.cell?_setCell_other _ _ _ _ (by simp)]; exact h.cd, h.b2.far (by omega) u, h.b3.far (by omega) u, h.b4.same u, h.xn, h.bw.setCell (by simp <;> omega) u⟩
end

theorem Grow.lt {B : Nat} {w : World} {v : Value} {k : Nat} {T : Nat → Int} (h : Grow B w v k T) : ∀ q, v.ownBlock = some q → q < w.heap.size := by
  rcases h with ⟨rfl, rfl⟩ | ⟨_, g, d, rfl, hg, ho⟩
  · intro q hq; cases hq
  · intro q hq; simp [Value.ownBlock] at hq; have := ho.lt; omega

theorem Grow.val {B : Nat} {w : World} {v : Value} {k : Nat} {T : Nat → Int} (h : Grow B w v k T) : ∃ p d, v = .slice p k d := by
  rcases h with ⟨rfl, rfl⟩ | ⟨_, g, d, rfl, _⟩
  · exact ⟨none, 0, rfl⟩
  · exact ⟨_, d, rfl⟩

theorem Grow.set {B X : Nat} {w : World} {v : Value} {k : Nat} {T : Nat → Int} (h : Grow B w v k T) (hne : ∀ q, v.ownBlock = some q → q ≠ X) (u : Value) : Grow B (w.setCell ⟨X, 0, none⟩ u) v k T := by
  refine h.imp id fun ⟨h0, g, d, hv, hg, ho⟩ => ⟨h0, g, d, hv, hg, ho.other _ _ ?_⟩
  have := hne g (by rw [hv]; rfl)
  exact this

theorem ownI_kept {A A' : World} {row : Option Nat} {B g k d : Nat} {T : Nat → Int} (h : OwnI A B g k d T k) (hg : A.grownBy A' row) (hr : ∀ r, row = some r → ∃ o : Obj, A.heap[r]? = some o ∧ o.isCells = false) : OwnI A' B g k d T k := by
  obtain ⟨xs, ho, hx⟩ := h
  refine ⟨xs, ho.kept hg ?_, hx⟩
  rcases ho.2 with ⟨hv, _⟩ | ⟨g', cap, cur, hv, _, hgg, _⟩
  · exact .inl (by rw [hv]; rfl)
  · refine .inr fun e => ?_
    rw [hv] at e
    obtain ⟨o, ho', hc⟩ := hr g' e.symm
    rw [hgg] at ho'
    cases ho'
    cases hc

theorem ownI_cap {A : World} {B g k d : Nat} {T : Nat → Int} (h : OwnI A B g k d T k) : k ≤ d := by
  obtain ⟨xs, ho, hx⟩ := h
  rcases ho.2 with ⟨hv, h0⟩ | ⟨g', cap, cur, hv, _, hgg, hc, _⟩
  · omega
  · injection hv with h1 h2 h3; omega

theorem nods_ok {n : Nat} {A : Nat → Int} {q : Nat} {l : Nat → Int} (hs : Sound n A) (hq : q ≤ 24) (h : ∀ i, i < q → okN (l i) n = true) : Nods n A q (nodT l) := ⟨hs.most, hs.arity, hq, fun i hi => okN_node (h i hi)⟩

/-- What cutting answers: nothing, or a list of its own and the bytes behind it. -/
def CutT (w : World) (K : Nat) (T : Nat → Int) (b' off' m : Nat) (e : Ending) (w' : World) : Prop :=
  (K = 0 ∧ e = .returned (.tuple #[.slice none 0 0, .slice none 0 0, .bool false])) ∨
  (0 < K ∧ ∃ g d o2 c2, e = .returned (.tuple #[.slice (some ⟨g, 0, none⟩) K d, .slice (some ⟨b', o2, none⟩) (m - K) c2, .bool true]) ∧ w.heap.size ≤ g ∧ OwnI w' w.heap.size g K d T K ∧ m - K ≤ c2 ∧ (m = K ∨ o2 = off' + K))

set_option maxRecDepth 100000 in
set_option maxHeartbeats 8000000 in
theorem cutTerm_reg (b off n c b' off' m c' : Nat) (N : Nat → ByteArray) (A l : Nat → Int) (w : World) (h : Syms w b off n N A) (hs : Sound n A) (hm : m ≤ 1048576) (hmc : m ≤ c') (hb' : b' < w.heap.size) (hl : Byts w (some ⟨b', off', none⟩) m l) :
    Calls Try.prog 48 #[.agg #[.slice (some ⟨b, off, none⟩) n c], .slice (some ⟨b', off', none⟩) m c'] w fun e w' => CutT w (rdK n A m l) (nodT l) b' off' m e w' ∧ Below w.heap.size w w' := by
  refine (callsIn_wide (n := 3)).1 ?_
  refine callsIn_of_wp_marks Try.func48 rfl trivial ?_ rfl
  simp only [Try.ntmps48, List.size_toArray, List.length_cons, List.length_nil, Nat.reduceAdd, Nat.reduceSub, Array.replicate_succ, Array.replicate_zero, List.push_toArray, List.append_toArray, List.nil_append, List.cons_append]
  obtain ⟨w0, hw0⟩ : ∃ w0, w0 = ((((w.alloc (.cells #[.slice (some ⟨b, off, none⟩) n c] 32)).alloc (.cells #[.slice (some ⟨b', off', none⟩) m c'] 42)).alloc (.cells #[.slice none 0 0] 25)).alloc (.cells #[.slice none 0 0] 42)).alloc (.cells #[.bool false] 4) := ⟨_, rfl⟩
  have hB0 : Below w.heap.size w w0 := by rw [hw0]; exact (((((Below.refl _ w).alloc (Nat.le_refl _) _).alloc (by simp) _).alloc (by simp; omega) _).alloc (by simp; omega) _).alloc (by simp; omega) _
  have hS0 : w0.heap.size = w.heap.size + 5 := by rw [hw0]; simp
  have r0 : Box1 w0 w.heap.size (.slice (some ⟨b, off, none⟩) n c) := by rw [hw0]; exact ((((Box1.new w _ _).keep (alloc_below _ _)).keep (alloc_below _ _)).keep (alloc_below _ _)).keep (alloc_below _ _)
  have r1 : Box1 w0 (w.heap.size + 1) (.slice (some ⟨b', off', none⟩) m c') := by
    rw [hw0]
    have := Box1.new (w.alloc (.cells #[.slice (some ⟨b, off, none⟩) n c] 32)) (.slice (some ⟨b', off', none⟩) m c') 42
    rw [World.size_alloc] at this
    exact ((this.keep (alloc_below _ _)).keep (alloc_below _ _)).keep (alloc_below _ _)
  have r2 : Box1 w0 (w.heap.size + 2) (.slice none 0 0) := by
    rw [hw0]
    have := Box1.new ((w.alloc (.cells #[.slice (some ⟨b, off, none⟩) n c] 32)).alloc (.cells #[.slice (some ⟨b', off', none⟩) m c'] 42)) (.slice none 0 0) 25
    simp only [World.size_alloc] at this
    exact (this.keep (alloc_below _ _)).keep (alloc_below _ _)
  have r3 : Box1 w0 (w.heap.size + 3) (.slice none 0 0) := by
    rw [hw0]
    have := Box1.new (((w.alloc (.cells #[.slice (some ⟨b, off, none⟩) n c] 32)).alloc (.cells #[.slice (some ⟨b', off', none⟩) m c'] 42)).alloc (.cells #[.slice none 0 0] 25)) (.slice none 0 0) 42
    simp only [World.size_alloc] at this
    exact this.keep (alloc_below _ _)
  have r4 : Box1 w0 (w.heap.size + 4) (.bool false) := by
    rw [hw0]
    have := Box1.new ((((w.alloc (.cells #[.slice (some ⟨b, off, none⟩) n c] 32)).alloc (.cells #[.slice (some ⟨b', off', none⟩) m c'] 42)).alloc (.cells #[.slice none 0 0] 25)).alloc (.cells #[.slice none 0 0] 42)) (.bool false) 4
    simp only [World.size_alloc] at this
    exact this
  have CK := hidden (show ∀ w', Below w0.heap.size w0 w' → (w'.cell? ⟨w.heap.size, 0, none⟩ = some (.slice (some ⟨b, off, none⟩) n c) ∧ w'.cell? ⟨w.heap.size + 1, 0, none⟩ = some (.slice (some ⟨b', off', none⟩) m c')) from fun w' hb => ⟨(r0.keep hb).c0, (r1.keep hb).c0⟩)
  obtain ⟨mm, hmm⟩ : ∃ mm, mm = min m 24 := ⟨_, rfl⟩
  have hm24 : mm ≤ 24 := by omega
  have hmm' : mm ≤ m := by omega
  have SC := hidden (show ∀ wc, Below w0.heap.size w0 wc → Calls Try.prog 74 #[.agg #[.slice (some ⟨b, off, none⟩) n c], .slice (some ⟨b', off', none⟩) mm c'] wc fun e w' => ∃ q pv dv, e = .returned (.slice pv q dv) ∧ q ≤ mm ∧ (∀ i, i < q → okN (l i) n = true) ∧ (q = mm ∨ okN (l q) n = false) ∧ Grow wc.heap.size w' (.slice pv q dv) q (nodT l) ∧ Below w0.heap.size w0 w' ∧ Below wc.heap.size wc w' from fun wc hc => by
    have hbw := keepB hB0 hc
    refine (nodesAhead_any (some ⟨b, off, none⟩) n c b' off' mm c' l wc hm24 (Nat.lt_of_lt_of_le hb' hbw.size) (fun i hi => ?_) (fun i hi => hl.byt i (by omega))).mono ?_
    · rcases hl.row with e | ⟨b2, o2, e, h1, h2⟩
      · omega
      · cases e
        rw [hbw.cell (p := ⟨b', off' + i, none⟩) h1]; exact h2 i (by omega)
    · rintro e w' ⟨⟨q, v, rfl, h1, h2, h3, h4⟩, hb⟩
      obtain ⟨pv, dv, rfl⟩ := h4.val
      exact ⟨q, pv, dv, rfl, h1, h2, h3, h4, keepB hc hb, hb⟩)
  have d0 := r0.c0
  have d1 := r1.c0
  have R0 := hidden r0
  have R1 := hidden r1
  have R2 := hidden r2
  have R3 := hidden r3
  have R4 := hidden r4
  have HB0 := hidden hB0
  have HS0 := hidden hS0
  have HH := hidden h
  have HSD := hidden hs
  have HL := hidden hl
  have HMM := hidden hmm
  have hmc2 : mm ≤ c' := by omega
  have hmin : (if (24 : Int) < (m : Int) then (24 : Int) else (m : Int)) = (mm : Int) := by rw [hmm]; split <;> omega
  clear r0 r1 r2 r3 r4 hB0 hS0 h hs hl hmm
  gi_wp2
  rw [← hw0]
  clear hw0
  gi_cut [7] from 33 (fun t wc => ∃ (X : Nat) (v : Value) (q : Nat), t = .pointer (some ⟨X, 0, none⟩) ∧ Hid (w0.heap.size ≤ X ∧ wc.cell? ⟨X, 0, none⟩ = some v ∧ Grow w0.heap.size wc v q (nodT l) ∧ q ≤ mm ∧ (∀ i, i < q → okN (l i) n = true) ∧ (q = mm ∨ okN (l q) n = false) ∧ Below w0.heap.size w0 wc))
  case first =>
    refine wpIn_no ?_
    refine wpIn_wide.2 ?_
    refine wp_region_held_drew (S := fun wz => wz.cell? ⟨w.heap.size, 0, none⟩ = some (.slice (some ⟨b, off, none⟩) n c) ∧ wz.cell? ⟨w.heap.size + 1, 0, none⟩ = some (.slice (some ⟨b', off', none⟩) m c')) (by kernel_rfl) ⟨d0, d1⟩ (fun hHeld => ?_)
    have bb := (Below.refl w0.heap.size w0).drew
    refine wpAnyH_take (i := 0) (oi := { dst := some 10, op := Op.load 32 (Operand.tmp 2), type := 32, pos := "l05_pack.go:55", after := #[], guard := none }) (v := ?_) rfl (by kernel_rfl) (by kernel_rfl) (by kernel_rfl) (fun _ _ _ h => h) (Or.inl ⟨by rfl, ?_⟩) (by assumption) ?_
    rotate_left
    · (intro wv hSw; (try dsimp only at hSw); go_simp; try with_reducible rfl)
    try simp only [Act.put, List.setIfInBounds_toArray, List.set_cons_zero, List.set_cons_succ]
    refine wpAnyH_take (i := 1) (oi := { dst := some 11, op := Op.load 42 (Operand.tmp 3), type := 42, pos := "l05_pack.go:55", after := #[], guard := none }) (v := ?_) rfl (by kernel_rfl) (by kernel_rfl) (by kernel_rfl) (fun _ _ _ h => h) (Or.inl ⟨by rfl, ?_⟩) (by assumption) ?_
    rotate_left
    · (intro wv hSw; (try dsimp only at hSw); go_simp; try with_reducible rfl)
    try simp only [Act.put, List.setIfInBounds_toArray, List.set_cons_zero, List.set_cons_succ]
    refine wpAnyH_take (i := 2) (oi := { dst := some 12, op := Op.load 42 (Operand.tmp 3), type := 42, pos := "l05_pack.go:55", after := #[], guard := none }) (v := ?_) rfl (by kernel_rfl) (by kernel_rfl) (by kernel_rfl) (fun _ _ _ h => h) (Or.inl ⟨by rfl, ?_⟩) (by assumption) ?_
    rotate_left
    · (intro wv hSw; (try dsimp only at hSw); go_simp; try with_reducible rfl)
    try simp only [Act.put, List.setIfInBounds_toArray, List.set_cons_zero, List.set_cons_succ]
    refine wpAnyH_take (i := 3) (oi := { dst := some 13, op := Op.call { callee := Callee.builtin Builtin.len, args := #[Operand.tmp 12], argTypes := #[42] }, type := 3, pos := "l05_pack.go:55", after := #[{ on := 2, ground := Ground.data }], guard := none }) (v := ?_) rfl (by kernel_rfl) (by kernel_rfl) (by kernel_rfl) (fun _ _ _ h => h) (Or.inl ⟨by rfl, ?_⟩) (by assumption) ?_
    rotate_left
    · (intro wv hSw; (try dsimp only at hSw); go_simp; try with_reducible rfl)
    try simp only [Act.put, List.setIfInBounds_toArray, List.set_cons_zero, List.set_cons_succ]
    refine wpAnyH_take (i := 4) (oi := { dst := some 14, op := Op.call { callee := Callee.builtin Builtin.min, args := #[Operand.tmp 13, Operand.const (Value.int IntKind.i64 24)], argTypes := #[3, 3] }, type := 3, pos := "l05_pack.go:55", after := #[{ on := 3, ground := Ground.data }], guard := none }) (v := ?_) rfl (by kernel_rfl) (by kernel_rfl) (by kernel_rfl) (fun _ _ _ h => h) (Or.inl ⟨by rfl, ?_⟩) (by assumption) ?_
    rotate_left
    · (intro wv hSw; (try dsimp only at hSw); go_simp; try with_reducible rfl)
    try simp only [Act.put, List.setIfInBounds_toArray, List.set_cons_zero, List.set_cons_succ]
    refine wpAnyH_take (i := 5) (oi := { dst := some 15, op := Op.slice 42 (Operand.tmp 11) none (some (Operand.tmp 14)) none, type := 42, pos := "l05_pack.go:55", after := #[{ on := 1, ground := Ground.data }, { on := 4, ground := Ground.data }], guard := none }) (v := ?_) rfl (by kernel_rfl) (by kernel_rfl) (by kernel_rfl) (fun _ _ _ h => h) (Or.inl ⟨by rfl, ?_⟩) (by assumption) ?_
    rotate_left
    · (intro wv hSw; (try dsimp only at hSw); go_simp; try with_reducible rfl)
    try simp only [Act.put, List.setIfInBounds_toArray, List.set_cons_zero, List.set_cons_succ]
    refine wpAnyH_ready (rs := [6, 7]) (by kernel_rfl) (by simp) ?_
    refine AllReadyH.cons (o := { dst := some 16, op := Op.call { callee := Callee.value (Operand.func 74), args := #[Operand.tmp 10, Operand.tmp 15], argTypes := #[32, 42] }, type := 25, pos := "l05_pack.go:55", after := #[{ on := 0, ground := Ground.data }, { on := 5, ground := Ground.data }], guard := none }) rfl (fun K hK => ?_) (AllReadyH.cons (o := { dst := some 7, op := Op.alloc 25, type := 0, pos := "l05_pack.go:55", after := #[], guard := none }) rfl (fun K hK => ?_) AllReadyH.nil)
    · go_simp
      go_at_call 74; with_reducible refine (SC.out _ bb).mono ?_; rintro e v1 ⟨q, pv, dv, rfl, hq1, hq2, hq3, hgr, bb', hb5⟩
      try go_wp2_with fail
      refine hK.out _ _ ?_ (fun hHeld => ?_)
      · exact CK.out _ bb'
      clear hK K
      have hw0s := bb.size
      clear bb hb5
      have bb := bb'
      clear bb'
      try simp only [Act.put, List.setIfInBounds_toArray, List.set_cons_zero, List.set_cons_succ]
      refine wpAnyH_ready (rs := [7]) (by kernel_rfl) (by simp) ?_
      refine AllReadyH.cons (o := { dst := some 7, op := Op.alloc 25, type := 0, pos := "l05_pack.go:55", after := #[], guard := none }) rfl (fun K hK => ?_) AllReadyH.nil
      go_simp
      have hX0 := bb.size
      refine hK.out _ _ ?_ (fun hHeld => ?_)
      · exact CK.out _ (keepB bb (alloc_below _ _))
      clear hK K
      try simp only [Act.put, List.setIfInBounds_toArray, List.set_cons_zero, List.set_cons_succ]
      refine wpAnyH_ready (rs := [8]) (by kernel_rfl) (by simp) ?_
      refine AllReadyH.cons (o := { dst := none, op := Op.store 25 (Operand.tmp 7) (Operand.tmp 16), type := 0, pos := "l05_pack.go:55", after := #[{ on := 7, ground := Ground.data }, { on := 6, ground := Ground.data }, { on := 6, ground := Ground.chain }, { on := 0, ground := Ground.phase }, { on := 1, ground := Ground.phase }, { on := 2, ground := Ground.phase }, { on := 3, ground := Ground.phase }, { on := 4, ground := Ground.phase }, { on := 5, ground := Ground.phase }, { on := 6, ground := Ground.phase }, { on := 7, ground := Ground.phase }], guard := none }) rfl (fun K hK => ?_) AllReadyH.nil
      go_simp
      refine hK.out _ _ ?_ (fun hHeld => ?_)
      · exact CK.out _ (keepB bb (alloc_below _ _))
      clear hK K
      refine wpAnyH_done (by kernel_rfl) ?_ _
      try go_wp2_with fail
      first | go_meet | gi_meet
      exact ⟨_, _, q, rfl, hidden ⟨hX0, (Box1.new v1 (.slice pv q dv) 25).c0, (hgr.base hw0s).keep (alloc_below _ _), hq1, hq2, hq3, keepB bb (alloc_below _ _)⟩⟩
    · go_simp
      have RR := (Box1.new w0 (.slice none 0 0) 25).keep (Below.refl _ _).drew
      have hX0 := bb.size
      refine hK.out _ _ ?_ (fun hHeld => ?_)
      · exact CK.out _ (alloc_below _ _).drew
      clear hK K
      replace bb := (alloc_below w0 (.cells #[.slice none 0 0] 25)).drew
      try simp only [Act.put, List.setIfInBounds_toArray, List.set_cons_zero, List.set_cons_succ]
      refine wpAnyH_ready (rs := [6]) (by kernel_rfl) (by simp) ?_
      refine AllReadyH.cons (o := { dst := some 16, op := Op.call { callee := Callee.value (Operand.func 74), args := #[Operand.tmp 10, Operand.tmp 15], argTypes := #[32, 42] }, type := 25, pos := "l05_pack.go:55", after := #[{ on := 0, ground := Ground.data }, { on := 5, ground := Ground.data }], guard := none }) rfl (fun K hK => ?_) AllReadyH.nil
      go_simp
      go_at_call 74; with_reducible refine (SC.out _ bb).mono ?_; rintro e v1 ⟨q, pv, dv, rfl, hq1, hq2, hq3, hgr, bb', hb5⟩
      try go_wp2_with fail
      refine hK.out _ _ ?_ (fun hHeld => ?_)
      · exact CK.out _ bb'
      clear hK K
      have hXg := RR.blk
      replace RR := RR.keep hb5
      have hgb := fun q0 e0 => Nat.ne_of_gt (Nat.lt_of_lt_of_le hXg (hgr.block q0 e0))
      have hw0s := bb.size
      clear bb hb5
      have bb := bb'
      clear bb'
      try simp only [Act.put, List.setIfInBounds_toArray, List.set_cons_zero, List.set_cons_succ]
      refine wpAnyH_ready (rs := [8]) (by kernel_rfl) (by simp) ?_
      refine AllReadyH.cons (o := { dst := none, op := Op.store 25 (Operand.tmp 7) (Operand.tmp 16), type := 0, pos := "l05_pack.go:55", after := #[{ on := 7, ground := Ground.data }, { on := 6, ground := Ground.data }, { on := 6, ground := Ground.chain }, { on := 0, ground := Ground.phase }, { on := 1, ground := Ground.phase }, { on := 2, ground := Ground.phase }, { on := 3, ground := Ground.phase }, { on := 4, ground := Ground.phase }, { on := 5, ground := Ground.phase }, { on := 6, ground := Ground.phase }, { on := 7, ground := Ground.phase }], guard := none }) rfl (fun K hK => ?_) AllReadyH.nil
      have x0 := RR.c0
      have x1 := RR.f0
      go_simp
      refine hK.out _ _ ?_ (fun hHeld => ?_)
      · exact CK.out _ (bb.setCell (Nat.le_refl _) _)
      clear hK K
      refine wpAnyH_done (by kernel_rfl) ?_ _
      try go_wp2_with fail
      first | go_meet | gi_meet
      exact ⟨_, _, q, rfl, hidden ⟨Nat.le_refl _, World.cell?_setCell_same' _ _ _ (by rw [x0]; rfl), (hgr.base hw0s).set hgb _, hq1, hq2, hq3, bb.setCell (Nat.le_refl _) _⟩⟩
  case rest =>
    obtain ⟨X, v, q, rfl, HC⟩ := hcut
    have BC := hidden HC.out.2.2.2.2.2.2
    have GR := hidden HC.out.2.2.1
    have HQ := hidden (And.intro HC.out.2.2.2.1 HC.out.2.2.2.2.1)
    have HQ2 := hidden HC.out.2.2.2.2.2.1
    have XL := hidden HC.out.1
    have x0 := HC.out.2.1
    have c0 := (R0.out.keep BC.out).c0
    clear HC CK SC d0 d1
    obtain ⟨pv, dv, rfl⟩ := GR.out.val
    gi_wp2_with (refine ⟨trivial, ?_⟩; gi_at_call 75; refine (callsIn_wide.2 (placesOf_any _ _ _ _ _ _ _)).mono ?_; rintro e w' ⟨rfl, rfl⟩)
    obtain ⟨W1, hW1⟩ : ∃ W1, W1 = (wc.alloc (.cells #[.slice (some ⟨b, off, none⟩) n c] 32)).alloc (.cells #[.slice pv q dv] 25) := ⟨_, rfl⟩
    have b1 : Below wc.heap.size wc W1 := by rw [hW1]; exact ((Below.refl _ wc).alloc (Nat.le_refl _) _).alloc (by simp) _
    have s1 : W1.heap.size = wc.heap.size + 2 := by rw [hW1]; simp
    have y0 : Box1 W1 wc.heap.size (.slice (some ⟨b, off, none⟩) n c) := by rw [hW1]; exact (Box1.new wc _ _).keep (alloc_below _ _)
    have y1 : Box1 W1 (wc.heap.size + 1) (.slice pv q dv) := by
      rw [hW1]
      have := Box1.new (wc.alloc (.cells #[.slice (some ⟨b, off, none⟩) n c] 32)) (.slice pv q dv) 25
      rw [World.size_alloc] at this
      exact this
    have bw : Below w.heap.size w W1 := keepB (keepB HB0.out BC.out) b1
    have hw5 : w.heap.size + 5 ≤ wc.heap.size := by have := HS0.out; have := BC.out.size; omega
    have hbs : 0 < q → Nods n A q (nodT l) := fun h0 => nods_ok HSD.out (by have := HQ.out.1; omega) (fun i hi => HQ.out.2 i hi)
    have hbb : b < w.heap.size := HH.out.blk HSD.out.least
    have hvo : ∀ g, (Value.slice pv q dv).ownBlock = some g → g < W1.heap.size ∧ g ≠ W1.heap.size := fun g hg => by have := GR.out.lt g hg; omega
    have K2 := hidden ((R2.out.keep BC.out).keep b1)
    have K3 := hidden ((R3.out.keep BC.out).keep b1)
    have K4 := hidden ((R4.out.keep BC.out).keep b1)
    have K1 := hidden ((R1.out.keep BC.out).keep b1)
    have G1 := hidden (GR.out.keep b1)
    have XW : W1.cell? ⟨X, 0, none⟩ = some (.slice pv q dv) := (b1.cell (p := ⟨X, 0, none⟩) (World.block_lt_of_cell? wc _ x0)).trans x0
    have XB : X < W1.heap.size := by have := World.block_lt_of_cell? wc _ x0; show X < _; simp at this; omega
    have HXW := hidden XW
    have S1 := hidden s1
    have BW := hidden bw
    clear XW
    rw [← hW1]
    clear hW1
    refine wpIn_rangeFunc_ownG rfl (by omega) (gf := 88) (lb := #[.pointer (some ⟨wc.heap.size + 1, 0, none⟩), .pointer (some ⟨wc.heap.size, 0, none⟩)]) rfl trivial (enters_of Try.func88 (by kernel_rfl) rfl)
      (plc_stops _ (by omega) (wc.heap.size + 1) wc.heap.size W1.heap.size W1.heap.size b off n c q w0.heap.size (.slice pv q dv) N A (nodT l) hbs ⟨by omega, by omega⟩ hvo ⟨by omega, by omega⟩ W1 y1.blk (Nat.le_refl _) y1.c0 y0.c0 (HH.out.keep bw) G1.out)
      butK_t (butK_b (Nat.le_refl _)) (Below.refl _ _) (fun _ => rfl)
      (fun pre W => (∀ p ∈ pre, p.1.2 ≠ 0) ∧ Below W1.heap.size W1 W)
      (fun cc pre W => (cc = .ret ∧ ∃ ini last gg dd o2 c2, pre = ini ++ [last] ∧ last.1.2 = 0 ∧ W.cell? ⟨w.heap.size + 2, 0, none⟩ = some (.slice (some ⟨gg, 0, none⟩) (last.1.1 + 1) dd) ∧ W.cell? ⟨w.heap.size + 3, 0, none⟩ = some (.slice (some ⟨b', o2, none⟩) (m - (last.1.1 + 1)) c2) ∧ W.cell? ⟨w.heap.size + 4, 0, none⟩ = some (.bool true) ∧ w.heap.size ≤ gg ∧ OwnI W w.heap.size gg (last.1.1 + 1) dd (nodT l) (last.1.1 + 1) ∧ m - (last.1.1 + 1) ≤ c2 ∧ (m = last.1.1 + 1 ∨ o2 = off' + (last.1.1 + 1))) ∧ Below w.heap.size w W)
      (OwnFrom.and (Own.from (fun s A B row hs hg hr => hs) _) (ownFrom_below (Nat.le_refl _) (Nat.le_refl _)))
      (fun cc => OwnFrom.and (Own.from (fun s A B row hs hg hr => by
        obtain ⟨hc, ini, last, gg, dd, o2, c2, e1, e2, e3, e4, e5, e6, e7, e8, e9⟩ := hs
        exact ⟨hc, ini, last, gg, dd, o2, c2, e1, e2, cell_kept e3 hg hr, cell_kept e4 hg hr, cell_kept e5 hg hr, e6, ownI_kept e7 hg hr, e8, e9⟩) _) (ownFrom_below (Nat.le_refl _) (by omega)))
      ⟨by simp, Below.refl _ _⟩
      (fun x => { tmps := #[.agg #[.slice (some ⟨b, off, none⟩) n c], .slice (some ⟨b', off', none⟩) m c', .pointer (some ⟨w.heap.size, 0, none⟩), .pointer (some ⟨w.heap.size + 1, 0, none⟩), .pointer (some ⟨w.heap.size + 1 + 1, 0, none⟩), .pointer (some ⟨w.heap.size + 1 + 1 + 1, 0, none⟩), .pointer (some ⟨w.heap.size + 1 + 1 + 1 + 1, 0, none⟩), .pointer (some ⟨X, 0, none⟩), .int .i64 (x.1.1 : Int), .int .i64 x.1.2, u10, u11, u12, u13, u14, u15, u16, .agg #[.slice (some ⟨b, off, none⟩) n c], .slice pv q dv, .func (.func 88) #[] #[.pointer (some ⟨wc.heap.size + 1, 0, none⟩), .pointer (some ⟨wc.heap.size, 0, none⟩)], .int .i64 (x.1.1 : Int), .int .i64 x.1.2, undef, undef, undef, undef, undef, undef, undef, undef, undef, undef, undef], defers := [] }) ?assign ?body ?done ?stop
    case assign =>
      intro l x W K hK
      gi_wp2
      exact hK
    case body =>
      rintro l2 pre x W ⟨hp, hB⟩ _
      by_cases hz : x.1.2 = 0
      · have hz' : (x.1.2 == 0) = true := by simpa using hz
        rcases G1.out with ⟨e0, _⟩ | ⟨_, g, d, ev, hgB, ho⟩
        · have := x.2; omega
        obtain ⟨rfl, _, rfl⟩ : pv = some ⟨g, 0, none⟩ ∧ q = q ∧ dv = d := by injection ev with h1 h2 h3; exact ⟨h1, rfl, h3⟩
        have hqd : q ≤ dv := ownI_cap ho
        obtain ⟨⟨i, aw⟩, hi⟩ := x
        have hi' : i < q := hi
        have him : i + 1 ≤ m := by have := HQ.out.1; omega
        have hid : i + 1 ≤ dv := by omega
        have HZ := hidden (show aw = 0 from hz)
        have hic : i + 1 ≤ c' := by omega
        have hmx : Try.prog.follows .mixedOrders = true := by kernel_rfl
        have z1 : (0 : Int) ≤ (i : Int) + 1 := by omega
        have z2 : (i : Int) + 1 ≤ (dv : Int) := by omega
        have z3 : ((i : Int) + 1).toNat = i + 1 := by omega
        have z4 : (i : Int) + 1 ≤ (m : Int) := by omega
        have hi24 : i < 24 := by have := HQ.out.1; omega
        have zw : IntKind.i64.wrap ((i : Int) + 1) = (i : Int) + 1 := wrapK (by omega) (by omega)
        have HI := hidden (ho.keep hB)
        have SC2 := hidden (show ∀ wd, OwnI wd (w.heap.size + 5) g q dv (nodT l) q → Calls Try.prog 40 #[.slice (some ⟨g, 0, none⟩) (i + 1) dv] wd fun e w' => ∃ gg dd, e = .returned (.slice (some ⟨gg, 0, none⟩) (i + 1) dd) ∧ Hid (wd.heap.size ≤ gg) ∧ Hid (OwnI w' wd.heap.size gg (i + 1) dd (nodT l) (i + 1)) ∧ Hid (Below wd.heap.size wd w') from fun wd hd => by
          have hii := hd.ints
          refine (clone_any g 0 (i + 1) dv (nodT l) wd ⟨fun _ => hii.blk (by omega), fun j hj => hii.cell j (by omega)⟩ (by omega)).mono ?_
          rintro e w' ⟨gg, dd, rfl, h1, h2, h3⟩
          exact ⟨gg, dd, rfl, hidden h1, hidden h2, hidden h3⟩)
        have HG5 := hidden (show w.heap.size + 5 ≤ g from HS0.out ▸ hgB)
        have OI := hidden (show OwnI W.drew (w.heap.size + 5) g q dv (nodT l) q from ((HS0.out ▸ ho).keep hB).keep (Below.refl _ _).drew)
        have SS := hidden (St.call (w := w) (V := W) (V' := W.drew) (X := X) (vx := .slice (some ⟨g, 0, none⟩) q dv) (vd := (.slice (some ⟨b', off', none⟩) m c')) (v2 := .slice none 0 0) (v3 := .slice none 0 0) (v4 := .bool false)
          ⟨(hB.cell (p := ⟨X, 0, none⟩) XB).trans HXW.out, (K1.out.keep hB).c0, K2.out.keep hB, K3.out.keep hB, K4.out.keep hB, HS0.out ▸ XL.out, BW.out.trans (hB.mono BW.out.size)⟩ (Below.refl _ _).drew)
        have HB := hidden hB
        clear hp hz hB ev ho hgB
        gi_wp2
        by_cases hce : c' = i + 1
        · have hce' : ((c' : Nat) = i + 1) := hce
          refine wpIn_region_held (S := fun wz => wz.cell? ⟨X, 0, none⟩ = some (.slice (some ⟨g, 0, none⟩) q dv) ∧ wz.cell? ⟨w.heap.size + 1, 0, none⟩ = some (.slice (some ⟨b', off', none⟩) m c')) hmx (by kernel_rfl) ⟨SS.out.cx, SS.out.cd⟩ (fun hHeld => ?_)
          have KF := hidden (show KeepsFrom W1.heap.size W W.drew from keepsFrom_below (Below.refl _ _).drew)
          generalize W.drew = Wd at hHeld SS OI KF ⊢
          refine wpAnyH_take (i := 0) (oi := { dst := some 24, op := Op.load 25 (Operand.tmp 7), type := 25, pos := "l05_pack.go:58", after := #[], guard := none }) (v := ?_) rfl (by kernel_rfl) (by kernel_rfl) (by kernel_rfl) (fun _ _ _ h => h) (Or.inl ⟨by rfl, ?_⟩) (by assumption) ?_
          rotate_left
          · (intro wv hSw; (try dsimp only at hSw); go_simp; try with_reducible rfl)
          try simp only [Act.put, List.setIfInBounds_toArray, List.set_cons_zero, List.set_cons_succ]
          refine wpAnyH_take (i := 1) (oi := { dst := some 25, op := Op.move (Operand.tmp 8), type := 3, pos := "l05_pack.go:58", after := #[], guard := none }) (v := ?_) rfl (by kernel_rfl) (by kernel_rfl) (by kernel_rfl) (fun _ _ _ h => h) (Or.inl ⟨by rfl, ?_⟩) (by assumption) ?_
          rotate_left
          · (intro wv hSw; (try dsimp only at hSw); go_simp; try with_reducible rfl)
          try simp only [Act.put, List.setIfInBounds_toArray, List.set_cons_zero, List.set_cons_succ]
          refine wpAnyH_take (i := 2) (oi := { dst := some 26, op := Op.binOp BinOp.add 3 (Operand.tmp 25) (Operand.const (Value.int IntKind.i64 1)) 3, type := 3, pos := "l05_pack.go:58", after := #[{ on := 1, ground := Ground.data }], guard := none }) (v := ?_) rfl (by kernel_rfl) (by kernel_rfl) (by kernel_rfl) (fun _ _ _ h => h) (Or.inl ⟨by rfl, ?_⟩) (by assumption) ?_
          rotate_left
          · (intro wv hSw; (try dsimp only at hSw); go_simp; try with_reducible rfl)
          try simp only [Act.put, List.setIfInBounds_toArray, List.set_cons_zero, List.set_cons_succ]
          refine wpAnyH_take (i := 3) (oi := { dst := some 27, op := Op.slice 25 (Operand.tmp 24) none (some (Operand.tmp 26)) none, type := 25, pos := "l05_pack.go:58", after := #[{ on := 0, ground := Ground.data }, { on := 2, ground := Ground.data }], guard := none }) (v := ?_) rfl (by kernel_rfl) (by kernel_rfl) (by kernel_rfl) (fun _ _ _ h => h) (Or.inl ⟨by rfl, ?_⟩) (by assumption) ?_
          rotate_left
          · (intro wv hSw; (try dsimp only at hSw); go_simp; try with_reducible rfl)
          try simp only [Act.put, List.setIfInBounds_toArray, List.set_cons_zero, List.set_cons_succ]
          refine wpAnyH_take (i := 5) (oi := { dst := some 29, op := Op.load 42 (Operand.tmp 3), type := 42, pos := "l05_pack.go:58", after := #[], guard := none }) (v := ?_) rfl (by kernel_rfl) (by kernel_rfl) (by kernel_rfl) (fun _ _ _ h => h) (Or.inl ⟨by rfl, ?_⟩) (by assumption) ?_
          rotate_left
          · (intro wv hSw; (try dsimp only at hSw); go_simp; try with_reducible rfl)
          try simp only [Act.put, List.setIfInBounds_toArray, List.set_cons_zero, List.set_cons_succ]
          refine wpAnyH_take (i := 6) (oi := { dst := some 30, op := Op.move (Operand.tmp 8), type := 3, pos := "l05_pack.go:58", after := #[], guard := none }) (v := ?_) rfl (by kernel_rfl) (by kernel_rfl) (by kernel_rfl) (fun _ _ _ h => h) (Or.inl ⟨by rfl, ?_⟩) (by assumption) ?_
          rotate_left
          · (intro wv hSw; (try dsimp only at hSw); go_simp; try with_reducible rfl)
          try simp only [Act.put, List.setIfInBounds_toArray, List.set_cons_zero, List.set_cons_succ]
          refine wpAnyH_take (i := 7) (oi := { dst := some 31, op := Op.binOp BinOp.add 3 (Operand.tmp 30) (Operand.const (Value.int IntKind.i64 1)) 3, type := 3, pos := "l05_pack.go:58", after := #[{ on := 6, ground := Ground.data }], guard := none }) (v := ?_) rfl (by kernel_rfl) (by kernel_rfl) (by kernel_rfl) (fun _ _ _ h => h) (Or.inl ⟨by rfl, ?_⟩) (by assumption) ?_
          rotate_left
          · (intro wv hSw; (try dsimp only at hSw); go_simp; try with_reducible rfl)
          try simp only [Act.put, List.setIfInBounds_toArray, List.set_cons_zero, List.set_cons_succ]
          refine wpAnyH_take (i := 8) (oi := { dst := some 32, op := Op.slice 42 (Operand.tmp 29) (some (Operand.tmp 31)) none none, type := 42, pos := "l05_pack.go:58", after := #[{ on := 5, ground := Ground.data }, { on := 7, ground := Ground.data }], guard := none }) (v := ?_) rfl (by kernel_rfl) (by kernel_rfl) (by kernel_rfl) (fun _ _ _ h => h) (Or.inl ⟨by rfl, ?_⟩) (by assumption) ?_
          rotate_left
          · (intro wv hSw; (try dsimp only at hSw); go_simp; try with_reducible rfl)
          try simp only [Act.put, List.setIfInBounds_toArray, List.set_cons_zero, List.set_cons_succ]
          refine wpAnyH_ready (rs := [4]) (by kernel_rfl) (by simp) ?_
          refine AllReadyH.cons (o := { dst := some 28, op := Op.call { callee := Callee.value (Operand.func 40), args := #[Operand.tmp 27], argTypes := #[25] }, type := 25, pos := "l05_pack.go:58", after := #[{ on := 3, ground := Ground.data }], guard := none }) rfl (fun K hK => ?_) AllReadyH.nil
          go_simp
          go_at_call 40; with_reducible refine (SC2.out _ OI.out).mono ?_; rintro e v1 ⟨gg, dd, rfl, GG, OO, hb1⟩
          try go_wp2_with fail
          have GN := hidden (show w.heap.size + 5 ≤ gg by have h1 : X < _ := World.block_lt_of_cell? _ _ SS.out.cx; have h2 := SS.out.xn; have h3 := GG.out; omega)
          replace KF := hidden (KF.out.trans (keepsFrom_below hb1.out))
          replace OI := hidden (OI.out.keep hb1.out)
          replace SS := hidden (SS.out.call hb1.out)
          refine hK.out _ _ ⟨SS.out.cx, SS.out.cd⟩ (fun hHeld => ?_)
          clear hK K hb1
          replace OO := hidden (OO.out.base (B' := w.heap.size) (by have := GN.out; omega))
          try simp only [Act.put, List.setIfInBounds_toArray, List.set_cons_zero, List.set_cons_succ]
          refine wpAnyH_ready (rs := [9]) (by kernel_rfl) (by simp) ?_
          refine AllReadyH.cons (o := { dst := none, op := Op.store 25 (Operand.tmp 4) (Operand.tmp 28), type := 0, pos := "l05_pack.go:58", after := #[{ on := 4, ground := Ground.data }, { on := 4, ground := Ground.chain }, { on := 0, ground := Ground.phase }, { on := 1, ground := Ground.phase }, { on := 2, ground := Ground.phase }, { on := 3, ground := Ground.phase }, { on := 4, ground := Ground.phase }, { on := 5, ground := Ground.textOnly Departure.lateStores }, { on := 6, ground := Ground.textOnly Departure.lateStores }, { on := 7, ground := Ground.textOnly Departure.lateStores }, { on := 8, ground := Ground.textOnly Departure.lateStoresUnsure }], guard := none }) rfl (fun K hK => ?_) AllReadyH.nil
          have kS := SS.out.b2.c0
          have jS := SS.out.b2.f0
          go_simp
          replace SS := hidden (SS.out.set2 (.slice (some ⟨gg, 0, none⟩) (i + 1) dd))
          refine hK.out _ _ ⟨SS.out.cx, SS.out.cd⟩ (fun hHeld => ?_)
          clear hK K kS jS
          replace KF := hidden (KF.out.trans ((KeepsOthers.setCell _ ⟨w.heap.size + 1 + 1, 0, none⟩ (.slice (some ⟨gg, 0, none⟩) (i + 1) dd)).from _))
          replace OO := hidden (OO.out.other ⟨w.heap.size + 1 + 1, 0, none⟩ (.slice (some ⟨gg, 0, none⟩) (i + 1) dd) (by have := GN.out; simp; omega))
          try simp only [Act.put, List.setIfInBounds_toArray, List.set_cons_zero, List.set_cons_succ]
          refine wpAnyH_ready (rs := [10]) (by kernel_rfl) (by simp) ?_
          refine AllReadyH.cons (o := { dst := none, op := Op.store 42 (Operand.tmp 5) (Operand.tmp 32), type := 0, pos := "l05_pack.go:58", after := #[{ on := 8, ground := Ground.data }, { on := 9, ground := Ground.chain }, { on := 0, ground := Ground.phase }, { on := 1, ground := Ground.phase }, { on := 2, ground := Ground.phase }, { on := 3, ground := Ground.phase }, { on := 4, ground := Ground.phase }, { on := 5, ground := Ground.phase }, { on := 6, ground := Ground.phase }, { on := 7, ground := Ground.phase }, { on := 8, ground := Ground.phase }, { on := 9, ground := Ground.phase }], guard := none }) rfl (fun K hK => ?_) AllReadyH.nil
          have kS := SS.out.b3.c0
          have jS := SS.out.b3.f0
          go_simp
          replace SS := hidden (SS.out.set3 (.slice (some ⟨b', off', none⟩) (m - (i + 1)) 0))
          refine hK.out _ _ ⟨SS.out.cx, SS.out.cd⟩ (fun hHeld => ?_)
          clear hK K kS jS
          replace KF := hidden (KF.out.trans ((KeepsOthers.setCell _ ⟨w.heap.size + 1 + 1 + 1, 0, none⟩ (.slice (some ⟨b', off', none⟩) (m - (i + 1)) 0)).from _))
          replace OO := hidden (OO.out.other ⟨w.heap.size + 1 + 1 + 1, 0, none⟩ (.slice (some ⟨b', off', none⟩) (m - (i + 1)) 0) (by have := GN.out; simp; omega))
          try simp only [Act.put, List.setIfInBounds_toArray, List.set_cons_zero, List.set_cons_succ]
          refine wpAnyH_ready (rs := [11]) (by kernel_rfl) (by simp) ?_
          refine AllReadyH.cons (o := { dst := none, op := Op.store 4 (Operand.tmp 6) (Operand.const (Value.bool true)), type := 0, pos := "l05_pack.go:58", after := #[{ on := 10, ground := Ground.chain }, { on := 0, ground := Ground.phase }, { on := 1, ground := Ground.phase }, { on := 2, ground := Ground.phase }, { on := 3, ground := Ground.phase }, { on := 4, ground := Ground.phase }, { on := 5, ground := Ground.phase }, { on := 6, ground := Ground.phase }, { on := 7, ground := Ground.phase }, { on := 8, ground := Ground.phase }, { on := 9, ground := Ground.phase }, { on := 10, ground := Ground.phase }], guard := none }) rfl (fun K hK => ?_) AllReadyH.nil
          have kS := SS.out.b4.c0
          have jS := SS.out.b4.f0
          go_simp
          replace SS := hidden (SS.out.set4 (.bool true))
          refine hK.out _ _ ⟨SS.out.cx, SS.out.cd⟩ (fun hHeld => ?_)
          clear hK K kS jS
          replace KF := hidden (KF.out.trans ((KeepsOthers.setCell _ ⟨w.heap.size + 1 + 1 + 1 + 1, 0, none⟩ (.bool true)).from _))
          replace OO := hidden (OO.out.other ⟨w.heap.size + 1 + 1 + 1 + 1, 0, none⟩ (.bool true) (by have := GN.out; simp; omega))
          try simp only [Act.put, List.setIfInBounds_toArray, List.set_cons_zero, List.set_cons_succ]
          refine wpAnyH_done (by kernel_rfl) ?_ _
          have E2 := hidden SS.out.b2.c0
          have E3 := hidden SS.out.b3.c0
          have E4 := hidden SS.out.b4.c0
          have EB := hidden SS.out.bw
          clear SS OI GG hHeld
          gi_wp2
          exact ⟨KF.out, ⟨rfl, pre, ⟨(i, aw), hi⟩, gg, dd, _, _, rfl, HZ.out, E2.out, E3.out, E4.out, by have := GN.out; omega, OO.out, by dsimp only; omega, by dsimp only; omega⟩, EB.out⟩
        · have hce' : ¬ ((c' : Nat) = i + 1) := hce
          refine wpIn_region_held (S := fun wz => wz.cell? ⟨X, 0, none⟩ = some (.slice (some ⟨g, 0, none⟩) q dv) ∧ wz.cell? ⟨w.heap.size + 1, 0, none⟩ = some (.slice (some ⟨b', off', none⟩) m c')) hmx (by kernel_rfl) ⟨SS.out.cx, SS.out.cd⟩ (fun hHeld => ?_)
          have KF := hidden (show KeepsFrom W1.heap.size W W.drew from keepsFrom_below (Below.refl _ _).drew)
          generalize W.drew = Wd at hHeld SS OI KF ⊢
          refine wpAnyH_take (i := 0) (oi := { dst := some 24, op := Op.load 25 (Operand.tmp 7), type := 25, pos := "l05_pack.go:58", after := #[], guard := none }) (v := ?_) rfl (by kernel_rfl) (by kernel_rfl) (by kernel_rfl) (fun _ _ _ h => h) (Or.inl ⟨by rfl, ?_⟩) (by assumption) ?_
          rotate_left
          · (intro wv hSw; (try dsimp only at hSw); go_simp; try with_reducible rfl)
          try simp only [Act.put, List.setIfInBounds_toArray, List.set_cons_zero, List.set_cons_succ]
          refine wpAnyH_take (i := 1) (oi := { dst := some 25, op := Op.move (Operand.tmp 8), type := 3, pos := "l05_pack.go:58", after := #[], guard := none }) (v := ?_) rfl (by kernel_rfl) (by kernel_rfl) (by kernel_rfl) (fun _ _ _ h => h) (Or.inl ⟨by rfl, ?_⟩) (by assumption) ?_
          rotate_left
          · (intro wv hSw; (try dsimp only at hSw); go_simp; try with_reducible rfl)
          try simp only [Act.put, List.setIfInBounds_toArray, List.set_cons_zero, List.set_cons_succ]
          refine wpAnyH_take (i := 2) (oi := { dst := some 26, op := Op.binOp BinOp.add 3 (Operand.tmp 25) (Operand.const (Value.int IntKind.i64 1)) 3, type := 3, pos := "l05_pack.go:58", after := #[{ on := 1, ground := Ground.data }], guard := none }) (v := ?_) rfl (by kernel_rfl) (by kernel_rfl) (by kernel_rfl) (fun _ _ _ h => h) (Or.inl ⟨by rfl, ?_⟩) (by assumption) ?_
          rotate_left
          · (intro wv hSw; (try dsimp only at hSw); go_simp; try with_reducible rfl)
          try simp only [Act.put, List.setIfInBounds_toArray, List.set_cons_zero, List.set_cons_succ]
          refine wpAnyH_take (i := 3) (oi := { dst := some 27, op := Op.slice 25 (Operand.tmp 24) none (some (Operand.tmp 26)) none, type := 25, pos := "l05_pack.go:58", after := #[{ on := 0, ground := Ground.data }, { on := 2, ground := Ground.data }], guard := none }) (v := ?_) rfl (by kernel_rfl) (by kernel_rfl) (by kernel_rfl) (fun _ _ _ h => h) (Or.inl ⟨by rfl, ?_⟩) (by assumption) ?_
          rotate_left
          · (intro wv hSw; (try dsimp only at hSw); go_simp; try with_reducible rfl)
          try simp only [Act.put, List.setIfInBounds_toArray, List.set_cons_zero, List.set_cons_succ]
          refine wpAnyH_take (i := 5) (oi := { dst := some 29, op := Op.load 42 (Operand.tmp 3), type := 42, pos := "l05_pack.go:58", after := #[], guard := none }) (v := ?_) rfl (by kernel_rfl) (by kernel_rfl) (by kernel_rfl) (fun _ _ _ h => h) (Or.inl ⟨by rfl, ?_⟩) (by assumption) ?_
          rotate_left
          · (intro wv hSw; (try dsimp only at hSw); go_simp; try with_reducible rfl)
          try simp only [Act.put, List.setIfInBounds_toArray, List.set_cons_zero, List.set_cons_succ]
          refine wpAnyH_take (i := 6) (oi := { dst := some 30, op := Op.move (Operand.tmp 8), type := 3, pos := "l05_pack.go:58", after := #[], guard := none }) (v := ?_) rfl (by kernel_rfl) (by kernel_rfl) (by kernel_rfl) (fun _ _ _ h => h) (Or.inl ⟨by rfl, ?_⟩) (by assumption) ?_
          rotate_left
          · (intro wv hSw; (try dsimp only at hSw); go_simp; try with_reducible rfl)
          try simp only [Act.put, List.setIfInBounds_toArray, List.set_cons_zero, List.set_cons_succ]
          refine wpAnyH_take (i := 7) (oi := { dst := some 31, op := Op.binOp BinOp.add 3 (Operand.tmp 30) (Operand.const (Value.int IntKind.i64 1)) 3, type := 3, pos := "l05_pack.go:58", after := #[{ on := 6, ground := Ground.data }], guard := none }) (v := ?_) rfl (by kernel_rfl) (by kernel_rfl) (by kernel_rfl) (fun _ _ _ h => h) (Or.inl ⟨by rfl, ?_⟩) (by assumption) ?_
          rotate_left
          · (intro wv hSw; (try dsimp only at hSw); go_simp; try with_reducible rfl)
          try simp only [Act.put, List.setIfInBounds_toArray, List.set_cons_zero, List.set_cons_succ]
          refine wpAnyH_take (i := 8) (oi := { dst := some 32, op := Op.slice 42 (Operand.tmp 29) (some (Operand.tmp 31)) none none, type := 42, pos := "l05_pack.go:58", after := #[{ on := 5, ground := Ground.data }, { on := 7, ground := Ground.data }], guard := none }) (v := ?_) rfl (by kernel_rfl) (by kernel_rfl) (by kernel_rfl) (fun _ _ _ h => h) (Or.inl ⟨by rfl, ?_⟩) (by assumption) ?_
          rotate_left
          · (intro wv hSw; (try dsimp only at hSw); go_simp; try with_reducible rfl)
          try simp only [Act.put, List.setIfInBounds_toArray, List.set_cons_zero, List.set_cons_succ]
          refine wpAnyH_ready (rs := [4]) (by kernel_rfl) (by simp) ?_
          refine AllReadyH.cons (o := { dst := some 28, op := Op.call { callee := Callee.value (Operand.func 40), args := #[Operand.tmp 27], argTypes := #[25] }, type := 25, pos := "l05_pack.go:58", after := #[{ on := 3, ground := Ground.data }], guard := none }) rfl (fun K hK => ?_) AllReadyH.nil
          go_simp
          go_at_call 40; with_reducible refine (SC2.out _ OI.out).mono ?_; rintro e v1 ⟨gg, dd, rfl, GG, OO, hb1⟩
          try go_wp2_with fail
          have GN := hidden (show w.heap.size + 5 ≤ gg by have h1 : X < _ := World.block_lt_of_cell? _ _ SS.out.cx; have h2 := SS.out.xn; have h3 := GG.out; omega)
          replace KF := hidden (KF.out.trans (keepsFrom_below hb1.out))
          replace OI := hidden (OI.out.keep hb1.out)
          replace SS := hidden (SS.out.call hb1.out)
          refine hK.out _ _ ⟨SS.out.cx, SS.out.cd⟩ (fun hHeld => ?_)
          clear hK K hb1
          replace OO := hidden (OO.out.base (B' := w.heap.size) (by have := GN.out; omega))
          try simp only [Act.put, List.setIfInBounds_toArray, List.set_cons_zero, List.set_cons_succ]
          refine wpAnyH_ready (rs := [9]) (by kernel_rfl) (by simp) ?_
          refine AllReadyH.cons (o := { dst := none, op := Op.store 25 (Operand.tmp 4) (Operand.tmp 28), type := 0, pos := "l05_pack.go:58", after := #[{ on := 4, ground := Ground.data }, { on := 4, ground := Ground.chain }, { on := 0, ground := Ground.phase }, { on := 1, ground := Ground.phase }, { on := 2, ground := Ground.phase }, { on := 3, ground := Ground.phase }, { on := 4, ground := Ground.phase }, { on := 5, ground := Ground.textOnly Departure.lateStores }, { on := 6, ground := Ground.textOnly Departure.lateStores }, { on := 7, ground := Ground.textOnly Departure.lateStores }, { on := 8, ground := Ground.textOnly Departure.lateStoresUnsure }], guard := none }) rfl (fun K hK => ?_) AllReadyH.nil
          have kS := SS.out.b2.c0
          have jS := SS.out.b2.f0
          go_simp
          replace SS := hidden (SS.out.set2 (.slice (some ⟨gg, 0, none⟩) (i + 1) dd))
          refine hK.out _ _ ⟨SS.out.cx, SS.out.cd⟩ (fun hHeld => ?_)
          clear hK K kS jS
          replace KF := hidden (KF.out.trans ((KeepsOthers.setCell _ ⟨w.heap.size + 1 + 1, 0, none⟩ (.slice (some ⟨gg, 0, none⟩) (i + 1) dd)).from _))
          replace OO := hidden (OO.out.other ⟨w.heap.size + 1 + 1, 0, none⟩ (.slice (some ⟨gg, 0, none⟩) (i + 1) dd) (by have := GN.out; simp; omega))
          try simp only [Act.put, List.setIfInBounds_toArray, List.set_cons_zero, List.set_cons_succ]
          refine wpAnyH_ready (rs := [10]) (by kernel_rfl) (by simp) ?_
          refine AllReadyH.cons (o := { dst := none, op := Op.store 42 (Operand.tmp 5) (Operand.tmp 32), type := 0, pos := "l05_pack.go:58", after := #[{ on := 8, ground := Ground.data }, { on := 9, ground := Ground.chain }, { on := 0, ground := Ground.phase }, { on := 1, ground := Ground.phase }, { on := 2, ground := Ground.phase }, { on := 3, ground := Ground.phase }, { on := 4, ground := Ground.phase }, { on := 5, ground := Ground.phase }, { on := 6, ground := Ground.phase }, { on := 7, ground := Ground.phase }, { on := 8, ground := Ground.phase }, { on := 9, ground := Ground.phase }], guard := none }) rfl (fun K hK => ?_) AllReadyH.nil
          have kS := SS.out.b3.c0
          have jS := SS.out.b3.f0
          go_simp
          replace SS := hidden (SS.out.set3 (.slice (some ⟨b', off' + (i + 1), none⟩) (m - (i + 1)) (c' - (i + 1))))
          refine hK.out _ _ ⟨SS.out.cx, SS.out.cd⟩ (fun hHeld => ?_)
          clear hK K kS jS
          replace KF := hidden (KF.out.trans ((KeepsOthers.setCell _ ⟨w.heap.size + 1 + 1 + 1, 0, none⟩ (.slice (some ⟨b', off' + (i + 1), none⟩) (m - (i + 1)) (c' - (i + 1)))).from _))
          replace OO := hidden (OO.out.other ⟨w.heap.size + 1 + 1 + 1, 0, none⟩ (.slice (some ⟨b', off' + (i + 1), none⟩) (m - (i + 1)) (c' - (i + 1))) (by have := GN.out; simp; omega))
          try simp only [Act.put, List.setIfInBounds_toArray, List.set_cons_zero, List.set_cons_succ]
          refine wpAnyH_ready (rs := [11]) (by kernel_rfl) (by simp) ?_
          refine AllReadyH.cons (o := { dst := none, op := Op.store 4 (Operand.tmp 6) (Operand.const (Value.bool true)), type := 0, pos := "l05_pack.go:58", after := #[{ on := 10, ground := Ground.chain }, { on := 0, ground := Ground.phase }, { on := 1, ground := Ground.phase }, { on := 2, ground := Ground.phase }, { on := 3, ground := Ground.phase }, { on := 4, ground := Ground.phase }, { on := 5, ground := Ground.phase }, { on := 6, ground := Ground.phase }, { on := 7, ground := Ground.phase }, { on := 8, ground := Ground.phase }, { on := 9, ground := Ground.phase }, { on := 10, ground := Ground.phase }], guard := none }) rfl (fun K hK => ?_) AllReadyH.nil
          have kS := SS.out.b4.c0
          have jS := SS.out.b4.f0
          go_simp
          replace SS := hidden (SS.out.set4 (.bool true))
          refine hK.out _ _ ⟨SS.out.cx, SS.out.cd⟩ (fun hHeld => ?_)
          clear hK K kS jS
          replace KF := hidden (KF.out.trans ((KeepsOthers.setCell _ ⟨w.heap.size + 1 + 1 + 1 + 1, 0, none⟩ (.bool true)).from _))
          replace OO := hidden (OO.out.other ⟨w.heap.size + 1 + 1 + 1 + 1, 0, none⟩ (.bool true) (by have := GN.out; simp; omega))
          try simp only [Act.put, List.setIfInBounds_toArray, List.set_cons_zero, List.set_cons_succ]
          refine wpAnyH_done (by kernel_rfl) ?_ _
          have E2 := hidden SS.out.b2.c0
          have E3 := hidden SS.out.b3.c0
          have E4 := hidden SS.out.b4.c0
          have EB := hidden SS.out.bw
          clear SS OI GG hHeld
          gi_wp2
          exact ⟨KF.out, ⟨rfl, pre, ⟨(i, aw), hi⟩, gg, dd, _, _, rfl, HZ.out, E2.out, E3.out, E4.out, by have := GN.out; omega, OO.out, by dsimp only; omega, by dsimp only; omega⟩, EB.out⟩
      · have hz' : (x.1.2 == 0) = false := by simpa using hz
        have HZ := hidden hz
        have HP := hidden hp
        clear hz hp
        gi_wp2
        exact ⟨KeepsFrom.refl _ _, But.refl _ _ _, fun p hp' => (List.mem_append.1 hp').elim (HP.out p) (fun e => by simp at e; subst e; exact HZ.out), hB⟩
    case done =>
      rintro D ys W hD ⟨k, hk, hpos, hend, hys⟩ ⟨hne, hB⟩ hK
      have h1 : 0 < awt (aOf A (nodT l)) 0 k := by
        cases k with
        | zero => simp [awt]
        | succ k =>
          have h2 := (awt_skip (aOf A (nodT l)) (m := q) (p := 0) (k + 1) (by omega) hpos).1
          have h3 : yld (aOf A (nodT l)) 0 k ∈ ys.map (·.1) := by rw [hys, upto_succ]; simp
          obtain ⟨p, hp, e⟩ := List.mem_map.1 h3
          have h4 := hne p hp
          rw [e] at h4
          have h5 : awt (aOf A (nodT l)) 0 (k + 1) ≠ 0 := h4
          omega
      have hkq : k = q := by rcases hend with e | e <;> omega
      have HR := hidden (show rdK n A m l = 0 from rd_none (fun k0 hP => by
        have hk0 : k0 ≤ q := by
          rcases HQ2.out with e | e
          · have := HMM.out; have := hP.le; have := hP.most; omega
          · by_cases hlt : q < k0
            · have := hP.ok q hlt; rw [e] at this; cases this
            · omega
        have h0 := (whole_awt hP.whole).2
        by_cases e : k0 = k
        · rw [e] at h0; omega
        · have := hpos k0 (by omega); omega))
      have k2 : W.cell? ⟨w.heap.size + 1 + 1, 0, none⟩ = some (.slice none 0 0) := (K2.out.keep hB).c0
      have k3 : W.cell? ⟨w.heap.size + 1 + 1 + 1, 0, none⟩ = some (.slice none 0 0) := (K3.out.keep hB).c0
      have k4 : W.cell? ⟨w.heap.size + 1 + 1 + 1 + 1, 0, none⟩ = some (.bool false) := (K4.out.keep hB).c0
      have j2 : W.frozen? ⟨w.heap.size + 1 + 1, 0, none⟩ = false := (K2.out.keep hB).f0
      have j3 : W.frozen? ⟨w.heap.size + 1 + 1 + 1, 0, none⟩ = false := (K3.out.keep hB).f0
      have j4 : W.frozen? ⟨w.heap.size + 1 + 1 + 1 + 1, 0, none⟩ = false := (K4.out.keep hB).f0
      have HB := hidden (BW.out.trans (hB.mono BW.out.size))
      clear hpos hend hys hne h1 hB
      gi_wp2
      have hK' := (((KeepsOthers.setCell W ⟨w.heap.size + 1 + 1, 0, none⟩ (.slice none 0 0)).trans (KeepsOthers.setCell _ ⟨w.heap.size + 1 + 1 + 1, 0, none⟩ (.slice none 0 0))).trans (KeepsOthers.setCell _ ⟨w.heap.size + 1 + 1 + 1 + 1, 0, none⟩ (.bool false))).same D _ hK rfl
      have m4 := World.cell?_setCell_same' ((W.setCell ⟨w.heap.size + 1 + 1, 0, none⟩ (.slice none 0 0)).setCell ⟨w.heap.size + 1 + 1 + 1, 0, none⟩ (.slice none 0 0)) ⟨w.heap.size + 1 + 1 + 1 + 1, 0, none⟩ (.bool false) (by rw [World.cell?_setCell_other _ _ _ _ (by simp), World.cell?_setCell_other _ _ _ _ (by simp), k4]; rfl)
      have m3 : (((W.setCell ⟨w.heap.size + 1 + 1, 0, none⟩ (.slice none 0 0)).setCell ⟨w.heap.size + 1 + 1 + 1, 0, none⟩ (.slice none 0 0)).setCell ⟨w.heap.size + 1 + 1 + 1 + 1, 0, none⟩ (.bool false)).cell? ⟨w.heap.size + 1 + 1 + 1, 0, none⟩ = some (.slice none 0 0) := by
        rw [World.cell?_setCell_other _ _ _ _ (by simp)]; exact World.cell?_setCell_same' _ _ _ (by rw [World.cell?_setCell_other _ _ _ _ (by simp), k3]; rfl)
      have m2 : (((W.setCell ⟨w.heap.size + 1 + 1, 0, none⟩ (.slice none 0 0)).setCell ⟨w.heap.size + 1 + 1 + 1, 0, none⟩ (.slice none 0 0)).setCell ⟨w.heap.size + 1 + 1 + 1 + 1, 0, none⟩ (.bool false)).cell? ⟨w.heap.size + 1 + 1, 0, none⟩ = some (.slice none 0 0) := by
        rw [World.cell?_setCell_other _ _ _ _ (by simp), World.cell?_setCell_other _ _ _ _ (by simp)]; exact World.cell?_setCell_same' _ _ _ (by rw [k2]; rfl)
      have HB4 := hidden (((HB.out.setCell (p := ⟨w.heap.size + 1 + 1, 0, none⟩) (by simp; omega) (.slice none 0 0)).setCell (p := ⟨w.heap.size + 1 + 1 + 1, 0, none⟩) (by simp; omega) (.slice none 0 0)).setCell (p := ⟨w.heap.size + 1 + 1 + 1 + 1, 0, none⟩) (by simp; omega) (.bool false))
      generalize (((W.setCell ⟨w.heap.size + 1 + 1, 0, none⟩ (.slice none 0 0)).setCell ⟨w.heap.size + 1 + 1 + 1, 0, none⟩ (.slice none 0 0)).setCell ⟨w.heap.size + 1 + 1 + 1 + 1, 0, none⟩ (.bool false)) = W4 at *
      refine ⟨by simp, .inl ⟨_, _, rfl, run_takeDeferred hK', ?_⟩⟩
      have n2 := cell_kept m2 (grownBy_putObj' _ D (.deferred none)) (fun r e => by cases e; exact ⟨_, hK', rfl⟩)
      have n3 := cell_kept m3 (grownBy_putObj' _ D (.deferred none)) (fun r e => by cases e; exact ⟨_, hK', rfl⟩)
      have n4 := cell_kept m4 (grownBy_putObj' _ D (.deferred none)) (fun r e => by cases e; exact ⟨_, hK', rfl⟩)
      refine ⟨.tuple #[.slice none 0 0, .slice none 0 0, .bool false], ?_, .inl ⟨HR.out, rfl⟩, HB4.out.trans (belowK_b (w := w) (Nat.le_refl _) _ D _ _ (by omega) hK' rfl rfl)⟩
      simp [results, Try.f48, go_sem, n2, n3, n4]
    case stop =>
      rintro D cc pre W hD ⟨k, hk, hpos, hys⟩ ⟨⟨rfl, ini, last, gg, dd, o2, c2, e1, e2, e3, e4, e5, e6, e7, e8, e9⟩, hB⟩ hK
      rw [e1, List.map_append, upto_succ] at hys
      obtain ⟨_, e10⟩ := List.append_inj' hys rfl
      have e11 : last.1 = yld (aOf A (nodT l)) 0 k := by simpa using e10
      rw [e11] at e2 e3 e4 e7 e8 e9
      have hz : awt (aOf A (nodT l)) 0 (k + 1) = 0 := e2
      have HR := hidden (show rdK n A m l = k + 1 from rd_at ⟨by omega, by have := HQ.out.1; omega, by have := HQ.out.1; omega, fun i hi => HQ.out.2 i (by omega), by
        have := (manyN_at (m := k + 1) (p := 0) (j := k + 1) (by omega) (fun i hi => hpos i (by omega)) hz).1
        rwa [Nat.zero_add] at this⟩)
      have e3' : W.cell? ⟨w.heap.size + 1 + 1, 0, none⟩ = some (.slice (some ⟨gg, 0, none⟩) (k + 1) dd) := e3
      have e4' : W.cell? ⟨w.heap.size + 1 + 1 + 1, 0, none⟩ = some (.slice (some ⟨b', o2, none⟩) (m - (k + 1)) c2) := e4
      have e5' : W.cell? ⟨w.heap.size + 1 + 1 + 1 + 1, 0, none⟩ = some (.bool true) := e5
      have O7 := hidden (show OwnI W w.heap.size gg (k + 1) dd (nodT l) (k + 1) from e7)
      have E8 := hidden (show m - (k + 1) ≤ c2 from e8)
      have E9 := hidden (show m = k + 1 ∨ o2 = off' + (k + 1) from e9)
      clear e1 e2 e3 e4 e5 e7 e8 e9 e10 e11 hz hpos hys
      gi_wp2
      refine ⟨by simp, .inl ⟨_, _, rfl, run_takeDeferred hK, ?_⟩⟩
      have n2 := cell_kept e3' (grownBy_putObj' _ D (.deferred none)) (fun r e => by cases e; exact ⟨_, hK, rfl⟩)
      have n3 := cell_kept e4' (grownBy_putObj' _ D (.deferred none)) (fun r e => by cases e; exact ⟨_, hK, rfl⟩)
      have n4 := cell_kept e5' (grownBy_putObj' _ D (.deferred none)) (fun r e => by cases e; exact ⟨_, hK, rfl⟩)
      refine ⟨.tuple #[.slice (some ⟨gg, 0, none⟩) (k + 1) dd, .slice (some ⟨b', o2, none⟩) (m - (k + 1)) c2, .bool true], ?_, .inr ⟨by rw [HR.out]; omega, gg, dd, o2, c2, by rw [HR.out], e6, by rw [HR.out]; exact ownI_kept O7.out (grownBy_putObj' _ D (.deferred none)) (fun r e => by cases e; exact ⟨_, hK, rfl⟩), by rw [HR.out]; exact E8.out, by rw [HR.out]; exact E9.out⟩, hB.trans (belowK_b (w := w) (Nat.le_refl _) W D _ _ (by omega) hK rfl rfl)⟩
      simp [results, Try.f48, go_sem, n2, n3, n4]

end Go.Proofs.Ytcnkkoegfjggaaa

/- Contracts: the two terms of a key: CutKey of the model. -/
namespace Go.Proofs.Ytcnkkoegfjggaaa
open Go.RowKit

/-- A block of three cells that may be written. -/
structure Res3 (w : World) (b : Nat) (x y z : Value) : Prop where
  blk : b < w.heap.size
  c0 : w.cell? ⟨b, 0, none⟩ = some x
  c1 : w.cell? ⟨b, 1, none⟩ = some y
  c2 : w.cell? ⟨b, 2, none⟩ = some z
  f0 : w.frozen? ⟨b, 0, none⟩ = false
  f1 : w.frozen? ⟨b, 1, none⟩ = false
  f2 : w.frozen? ⟨b, 2, none⟩ = false

theorem Res3.new (w : World) (x y z : Value) (t : TypeId) : Res3 (w.alloc (.cells #[x, y, z] t)) w.heap.size x y z := by
  refine ⟨by simp, ?_, ?_, ?_, ?_, ?_, ?_⟩ <;> simp [go_sem]

theorem Res3.keep {w w' : World} {b : Nat} {x y z : Value} (h : Res3 w b x y z) (hb : Below w.heap.size w w') : Res3 w' b x y z :=
  ⟨Nat.lt_of_lt_of_le h.blk hb.size, by rw [(bcell hb).1 _ _ h.blk]; exact h.c0, by rw [(bcell hb).1 _ _ h.blk]; exact h.c1, by rw [(bcell hb).1 _ _ h.blk]; exact h.c2,
   by rw [(bcell hb).2 _ _ h.blk]; exact h.f0, by rw [(bcell hb).2 _ _ h.blk]; exact h.f1, by rw [(bcell hb).2 _ _ h.blk]; exact h.f2⟩

open Classical in
/-- What CutKey answers: its code. -/
noncomputable def ckC (n : Nat) (N : Nat → ByteArray) (A : Nat → Int) (m : Nat) (l : Nat → Int) : Int :=
  if faultF n N A = 0 then (if CutP n A m l then 0 else 5) else faultF n N A

section
variable {n : Nat} {N : Nat → ByteArray} {A : Nat → Int} {m : Nat} {l : Nat → Int}
theorem ck_fault (h : faultF n N A ≠ 0) : ckC n N A m l = faultF n N A := by rw [ckC, if_neg h]
theorem ck_text (h : faultF n N A = 0) (hk : ¬ CutP n A m l) : ckC n N A m l = 5 := by rw [ckC, if_pos h, if_neg hk]
theorem ck_ok (h : faultF n N A = 0) (hk : CutP n A m l) : ckC n N A m l = 0 := by rw [ckC, if_pos h, if_pos hk]
end

set_option maxRecDepth 20000 in
set_option maxHeartbeats 1600000 in
theorem specCut_any (b off n c b' off' m c' : Nat) (N : Nat → ByteArray) (A l : Nat → Int) (w : World) (h : Syms w b off n N A) (h' : Byts w (some ⟨b', off', none⟩) m l) (hk : Kept n N A) (hm : m ≤ 1048576) (hmc : m ≤ c') :
    Calls Try.prog 24 #[.agg #[.slice (some ⟨b, off, none⟩) n c], .slice (some ⟨b', off', none⟩) m c'] w fun e w' => KeyAns w (ckC n N A m l) (rdK n A m l) (nodT l) (rd2 n A m l) (nodT (behind l (rdK n A m l))) e w' ∧ Below w.heap.size w w' := by
  have D := hidden ((One.new w (.slice (some ⟨b, off, none⟩) n c) 32).keep (alloc_below _ (.cells #[.int .i64 0, .slice none 0 0, .slice none 0 0] 49)))
  have R := hidden (Res3.new (w.alloc (.cells #[.slice (some ⟨b, off, none⟩) n c] 32)) (.int .i64 0) (.slice none 0 0) (.slice none 0 0) 49)
  have B := hidden (keepB (alloc_below w (.cells #[.slice (some ⟨b, off, none⟩) n c] 32)) (alloc_below _ (.cells #[.int .i64 0, .slice none 0 0, .slice none 0 0] 49)))
  have Q := hidden (h.keep B.out)
  have I := hidden (h'.keep B.out)
  have HK := hidden hk
  rw [World.size_alloc] at R
  clear h h' hk
  go_enter Try.func24, Try.ntmps24
  go_wp2_with fail
  with_reducible refine (specFault_all _ _ _ _ N A _ Q.out HK.out).mono ?_
  rintro e w1 ⟨rfl, hb⟩
  replace D := hidden (D.out.keep hb)
  replace R := hidden (R.out.keep hb)
  replace B := hidden (keepB B.out hb)
  replace I := hidden (I.out.keep hb)
  replace Q := hidden (Q.out.keep hb)
  clear hb
  by_cases hf : faultF n N A = 0
  · have HF := hidden hf
    have HS := hidden (fault_sound hf)
    rw [hf]
    clear hf
    go_wp2_with fail
    with_reducible refine (l5Cut_any _ _ _ _ _ _ _ m c' N A l _ D.out Q.out HS.out hm hmc I.out).mono ?_
    rintro r w3 ⟨ha, hb⟩
    have hR := R.out.blk
    have hBs := B.out.size
    replace R := hidden (R.out.keep hb)
    replace B := hidden (keepB B.out hb)
    clear hb D I Q
    rcases ha with ⟨h0, rfl⟩ | ⟨h0, g1, d1, g2, d2, rfl, hg1, hg12, ho1, ho2⟩
    · have HC := hidden (ck_text (m := m) (l := l) HF.out h0)
      clear h0
      obtain ⟨_, q0, q1, q2, f0, f1, f2⟩ := id R.out
      go_wp2
      exact bodyPost_ret (v := .agg #[.int .i64 5, .slice none 0 0, .slice none 0 0]) (by simp [results, Try.results24, go_sem, q0, q1, q2]) rfl ⟨Or.inl ⟨by rw [HC.out]; decide, by rw [HC.out]⟩, ((B.out.setCell (by simp) _).setCell (by simp) _).setCell (by simp) _⟩
    · have HC := hidden (ck_ok (m := m) (l := l) HF.out h0)
      have O1 := hidden ho1
      have O2 := hidden ho2
      generalize hT : nodT (behind l (rdK n A m l)) = T2 at *
      generalize hk1 : rdK n A m l = K1 at *
      generalize hk2 : rd2 n A m l = K2 at *
      have HT := hidden hT
      have H1 := hidden hk1
      have H2 := hidden hk2
      clear h0 ho1 ho2 hT hk1 hk2
      obtain ⟨_, q0, q1, q2, f0, f1, f2⟩ := id R.out
      go_wp2
      exact bodyPost_ret (v := .agg #[.int .i64 0, .slice (some ⟨g1, 0, none⟩) K1 d1, .slice (some ⟨g2, 0, none⟩) K2 d2]) (by simp [results, Try.results24, go_sem, q0, q1, q2]) rfl ⟨Or.inr ⟨HC.out, g1, d1, g2, d2, by rw [H1.out, H2.out], by omega, hg12, by
        rw [H1.out]; exact (((O1.out.other _ _ (by simp; omega)).other _ _ (by simp; omega)).other _ _ (by simp; omega)).base (by omega), by
        rw [H2.out, H1.out, HT.out]; exact (((O2.out.other _ _ (by simp; omega)).other _ _ (by simp; omega)).other _ _ (by simp; omega)).base (by omega)⟩, ((B.out.setCell (by simp) _).setCell (by simp) _).setCell (by simp) _⟩
  · have HN := hidden hf
    have HC := hidden (ck_fault (m := m) (l := l) hf)
    have hf' : (faultF n N A != 0) = true := by simpa using hf
    generalize faultF n N A = z at hf' HN HC ⊢
    clear hf
    obtain ⟨_, q0, q1, q2, f0, f1, f2⟩ := id R.out
    go_wp2
    exact bodyPost_ret (v := .agg #[.int .i64 z, .slice none 0 0, .slice none 0 0]) (by simp [results, Try.results24, go_sem, q0, q1, q2]) rfl ⟨Or.inl ⟨by rw [HC.out]; exact HN.out, by rw [HC.out]⟩, ((B.out.setCell (by simp) _).setCell (by simp) _).setCell (by simp) _⟩

end Go.Proofs.Ytcnkkoegfjggaaa

/- Contracts: UnpackTerm of the program; two terms cut off one behind the other. -/
namespace Go.Proofs.Ytcnkkoegfjggaaa
open Go.RowKit

set_option maxRecDepth 20000 in
set_option maxHeartbeats 1600000 in
theorem implUnpack_any (b off n c b' off' m c' : Nat) (N : Nat → ByteArray) (A l : Nat → Int) (w : World) (h : Syms w b off n N A) (h' : Byts w (some ⟨b', off', none⟩) m l) (hb' : b' < w.heap.size) (hk : Kept n N A) (hm : m ≤ 1048576) (hmc : m ≤ c') :
    Calls Try.prog 21 #[.agg #[.slice (some ⟨b, off, none⟩) n c], .slice (some ⟨b', off', none⟩) m c'] w fun e w' => ListAns w (upC n N A m l) m (nodT l) e w' ∧ Below w.heap.size w w' := by
  have D := hidden ((One.new w (.slice (some ⟨b, off, none⟩) n c) 32).keep (alloc_below _ (.cells #[.int .i64 0, .slice none 0 0] 28)))
  have R := hidden (Res.new (w.alloc (.cells #[.slice (some ⟨b, off, none⟩) n c] 32)) (.int .i64 0) (.slice none 0 0) 28)
  have B := hidden (keepB (alloc_below w (.cells #[.slice (some ⟨b, off, none⟩) n c] 32)) (alloc_below _ (.cells #[.int .i64 0, .slice none 0 0] 28)))
  have Q := hidden (h.keep B.out)
  have I := hidden (h'.keep B.out)
  have LB := hidden (Nat.lt_of_lt_of_le hb' B.out.size)
  have HK := hidden hk
  rw [World.size_alloc] at R
  clear h h' hk hb'
  go_enter Try.func21, Try.ntmps21
  go_wp2_with fail
  with_reducible refine (implFault_all _ _ _ _ N A _ Q.out HK.out).mono ?_
  rintro e w1 ⟨rfl, hb⟩
  replace D := hidden (D.out.keep hb)
  replace R := hidden (R.out.keep hb)
  replace B := hidden (keepB B.out hb)
  replace I := hidden (I.out.keep hb)
  replace Q := hidden (Q.out.keep hb)
  replace LB := hidden (Nat.lt_of_lt_of_le LB.out hb.size)
  clear hb
  by_cases hf : faultF n N A = 0
  · have HF := hidden hf
    have HS := hidden (fault_sound hf)
    rw [hf]
    clear hf
    have d0 := D.out.c0
    go_wp2_with fail
    with_reducible refine (cutTerm_reg _ _ _ _ _ _ m c' N A l _ Q.out HS.out hm hmc LB.out I.out).mono ?_
    rintro r w3 ⟨ha, hb⟩
    have hR := R.out.blk
    have hBs := B.out.size
    replace R := hidden (R.out.keep hb)
    replace B := hidden (keepB B.out hb)
    clear hb D I Q d0 LB
    rcases ha with ⟨h0, rfl⟩ | ⟨h0, g, d, o2, c2, rfl, hgg, ho, hcc, _⟩
    · have HC := hidden (up_text (m := m) (l := l) HF.out (by rw [h0]; simp))
      clear h0
      obtain ⟨_, q0, q1, f0, f1⟩ := id R.out
      go_wp2
      exact bodyPost_ret (v := .agg #[.int .i64 5, .slice none 0 0]) (by simp [results, Try.results21, go_sem, q0, q1]) rfl ⟨Or.inl ⟨by rw [HC.out]; decide, by rw [HC.out]⟩, (B.out.setCell (by simp) _).setCell (by simp) _⟩
    · have hle := (rd_le (n := n) (A := A) (m := m) (l := l)).1
      by_cases hk : rdK n A m l = m
      · have HC := hidden (up_ok (m := m) (l := l) HF.out ⟨by omega, hk⟩)
        rw [hk] at ho hcc ⊢
        have O := hidden ho
        have hm0 : 0 < m := by omega
        have e0 : m - m = 0 := by omega
        rw [e0] at hcc ⊢
        clear hk ho hle h0
        obtain ⟨_, q0, q1, f0, f1⟩ := id R.out
        go_wp2
        exact bodyPost_ret (v := .agg #[.int .i64 0, .slice (some ⟨g, 0, none⟩) m d]) (by simp [results, Try.results21, go_sem, q0, q1]) rfl ⟨Or.inr ⟨HC.out, g, d, rfl, by omega, ((O.out.other _ _ (by simp; omega)).other _ _ (by simp; omega)).base (by omega)⟩, (B.out.setCell (by simp) _).setCell (by simp) _⟩
      · have HC := hidden (up_text (m := m) (l := l) HF.out (fun h => hk h.2))
        generalize rdK n A m l = K at h0 hle hk hcc ⊢
        obtain ⟨r, hr⟩ : ∃ r, r = m - K := ⟨_, rfl⟩
        have hr0 : 0 < r := by omega
        rw [← hr] at hcc ⊢
        clear hk ho hle h0 hr
        obtain ⟨_, q0, q1, f0, f1⟩ := id R.out
        go_wp2
        exact bodyPost_ret (v := .agg #[.int .i64 5, .slice none 0 0]) (by simp [results, Try.results21, go_sem, q0, q1]) rfl ⟨Or.inl ⟨by rw [HC.out]; decide, by rw [HC.out]⟩, (B.out.setCell (by simp) _).setCell (by simp) _⟩
  · have HN := hidden hf
    have HC := hidden (up_fault (m := m) (l := l) hf)
    have hf' : (faultF n N A != 0) = true := by simpa using hf
    generalize faultF n N A = z at hf' HN HC ⊢
    clear hf
    obtain ⟨_, q0, q1, f0, f1⟩ := id R.out
    go_wp2
    exact bodyPost_ret (v := .agg #[.int .i64 z, .slice none 0 0]) (by simp [results, Try.results21, go_sem, q0, q1]) rfl ⟨Or.inl ⟨by rw [HC.out]; exact HN.out, by rw [HC.out]⟩, (B.out.setCell (by simp) _).setCell (by simp) _⟩

end Go.Proofs.Ytcnkkoegfjggaaa

/- Contracts: two terms cut off one behind the other; CutKey of the program. -/
namespace Go.Proofs.Ytcnkkoegfjggaaa
open Go.RowKit

/-- What cutting two terms answers: nothing, or two lists of its own and the bytes behind them. -/
def CutTwo (w : World) (K1 K2 : Nat) (T1 T2 : Nat → Int) (b' off' m : Nat) (e : Ending) (w' : World) : Prop :=
  (¬ (0 < K1 ∧ 0 < K2) ∧ e = .returned (.tuple #[.agg #[.slice none 0 0, .slice none 0 0], .slice none 0 0, .bool false])) ∨
  ((0 < K1 ∧ 0 < K2) ∧ ∃ g1 d1 g2 d2 o2 c2, e = .returned (.tuple #[.agg #[.slice (some ⟨g1, 0, none⟩) K1 d1, .slice (some ⟨g2, 0, none⟩) K2 d2], .slice (some ⟨b', o2, none⟩) (m - K1 - K2) c2, .bool true]) ∧ w.heap.size ≤ g1 ∧ g1 < g2 ∧
    OwnI w' w.heap.size g1 K1 d1 T1 K1 ∧ OwnI w' w.heap.size g2 K2 d2 T2 K2 ∧ m - K1 - K2 ≤ c2 ∧ (m = K1 + K2 ∨ o2 = off' + K1 + K2))

set_option maxRecDepth 20000 in
set_option maxHeartbeats 3200000 in
theorem cutSides_any (b off n c b' off' m c' : Nat) (N : Nat → ByteArray) (A l : Nat → Int) (w : World) (h : Syms w b off n N A) (hs : Sound n A) (hm : m ≤ 1048576) (hmc : m ≤ c') (hb' : b' < w.heap.size) (hl : Byts w (some ⟨b', off', none⟩) m l) :
    Calls Try.prog 50 #[.agg #[.slice (some ⟨b, off, none⟩) n c], .slice (some ⟨b', off', none⟩) m c'] w fun e w' => CutTwo w (rdK n A m l) (rd2 n A m l) (nodT l) (nodT (behind l (rdK n A m l))) b' off' m e w' ∧ Below w.heap.size w w' := by
  have D := hidden ((One.new w (.slice (some ⟨b, off, none⟩) n c) 32).keep (alloc_below _ (.cells #[.slice none 0 0, .slice none 0 0] 76)))
  have R := hidden (Res.new (w.alloc (.cells #[.slice (some ⟨b, off, none⟩) n c] 32)) (.slice none 0 0) (.slice none 0 0) 76)
  have B := hidden (keepB (alloc_below w (.cells #[.slice (some ⟨b, off, none⟩) n c] 32)) (alloc_below _ (.cells #[.slice none 0 0, .slice none 0 0] 76)))
  have Q := hidden (h.keep B.out)
  have I := hidden (hl.keep B.out)
  have LB := hidden (Nat.lt_of_lt_of_le hb' B.out.size)
  have HS := hidden hs
  rw [World.size_alloc] at R
  have hle := (rd_le (n := n) (A := A) (m := m) (l := l))
  have HK2 := hidden (show rd2 n A m l = rdK n A (m - rdK n A m l) (behind l (rdK n A m l)) from rfl)
  obtain ⟨T2, hT⟩ : ∃ T2, T2 = nodT (behind l (rdK n A m l)) := ⟨_, rfl⟩
  obtain ⟨K2, hk2⟩ : ∃ K2, K2 = rd2 n A m l := ⟨_, rfl⟩
  rw [← hT, ← hk2]
  rw [← hk2] at HK2
  obtain ⟨K1, hk1⟩ : ∃ K1, K1 = rdK n A m l := ⟨_, rfl⟩
  rw [← hk1] at hT HK2 hle ⊢
  have HT := hidden hT
  have HE := hidden hk1
  clear h hl hs hb' hT hk1 hk2
  have d0 := D.out.c0
  go_enter Try.func50, Try.ntmps50
  go_wp2_with fail
  with_reducible refine (cutTerm_reg _ _ _ _ _ _ m c' N A l _ Q.out HS.out hm hmc LB.out I.out).mono ?_
  rintro r w1 ⟨ha, hb⟩
  have hR := R.out.blk
  have hBs := B.out.size
  have LW := hidden hb.size
  replace D := hidden (D.out.keep hb)
  replace R := hidden (R.out.keep hb)
  replace B := hidden (keepB B.out hb)
  replace I := hidden (I.out.keep hb)
  replace Q := hidden (Q.out.keep hb)
  replace LB := hidden (Nat.lt_of_lt_of_le LB.out hb.size)
  rw [← HE.out] at ha
  clear hb d0
  rcases ha with ⟨h0, rfl⟩ | ⟨h0, g1, d1, o1, c1, rfl, hg1, ho1, hc1, hp1⟩
  · have HN := hidden (show ¬ (0 < K1 ∧ 0 < K2) from fun h => by omega)
    clear h0
    obtain ⟨_, q0, q1, f0, f1⟩ := id R.out
    go_wp2
    exact bodyPost_ret (v := .tuple #[.agg #[.slice none 0 0, .slice none 0 0], .slice none 0 0, .bool false]) (by simp [results, Try.results50, go_sem, q0, q1]) rfl ⟨Or.inl ⟨HN.out, rfl⟩, (B.out.setCell (by simp) _).setCell (by simp) _⟩
  · have O1 := hidden ho1
    have HB := hidden (I.out.behind hle.1)
    have HPOS := hidden h0
    clear ho1
    have hk1 : K1 ≤ m := hle.1
    have I2 := hidden (show Byts w1 (some ⟨b', o1, none⟩) (m - K1) (behind l K1) from by
      rcases hp1 with e | e
      · exact ⟨Or.inl (by omega), fun i hi => by omega⟩
      · rw [e]; exact HB.out)
    have HP := hidden hp1
    clear hp1 HB hle
    have d0 := D.out.c0
    go_wp2_with fail
    with_reducible refine (cutTerm_reg _ _ _ _ _ _ (m - K1) c1 N A (behind l K1) _ Q.out HS.out (by omega) hc1 LB.out I2.out).mono ?_
    rintro r w2 ⟨ha, hb⟩
    rw [← HK2.out, ← HT.out] at ha
    have hle2 := (rd_le (n := n) (A := A) (m := m - K1) (l := behind l K1)).1
    rw [← HK2.out] at hle2
    have hB2 := B.out.size
    have hW1 := O1.out.lt
    replace R := hidden (R.out.keep hb)
    replace B := hidden (keepB B.out hb)
    replace O1 := hidden (O1.out.keep hb)
    clear hb d0
    rcases ha with ⟨h2, rfl⟩ | ⟨h2, g2, d2, o2, c2, rfl, hg2, ho2, hc2, hp2⟩
    · have HN := hidden (show ¬ (0 < K1 ∧ 0 < K2) from fun h => by omega)
      clear h0 h2
      obtain ⟨_, q0, q1, f0, f1⟩ := id R.out
      go_wp2
      exact bodyPost_ret (v := .tuple #[.agg #[.slice none 0 0, .slice none 0 0], .slice none 0 0, .bool false]) (by simp [results, Try.results50, go_sem, q0, q1]) rfl ⟨Or.inl ⟨HN.out, rfl⟩, (B.out.setCell (by simp) _).setCell (by simp) _⟩
    · have O2 := hidden ho2
      have HN := hidden (show 0 < K1 ∧ 0 < K2 from ⟨h0, h2⟩)
      have HC := hidden hc2
      have HP2 := hidden (show m = K1 + K2 ∨ o2 = off' + K1 + K2 by
        rcases hp2 with e | e
        · exact Or.inl (by omega)
        · rcases HP.out with e1 | e1
          · exact Or.inl (by omega)
          · exact Or.inr (by rw [e, e1]))
      clear h0 h2 ho2 hp2
      obtain ⟨_, q0, q1, f0, f1⟩ := id R.out
      go_wp2
      exact bodyPost_ret (v := .tuple #[.agg #[.slice (some ⟨g1, 0, none⟩) K1 d1, .slice (some ⟨g2, 0, none⟩) K2 d2], .slice (some ⟨b', o2, none⟩) (m - K1 - K2) c2, .bool true]) (by simp [results, Try.results50, go_sem, q0, q1]) rfl ⟨Or.inr ⟨HN.out, g1, d1, g2, d2, o2, c2, rfl, by omega, by omega, ((O1.out.other _ _ (by simp; omega)).other _ _ (by simp; omega)).base (by omega), ((O2.out.other _ _ (by simp; omega)).other _ _ (by simp; omega)).base (by omega), HC.out, HP2.out⟩, (B.out.setCell (by simp) _).setCell (by simp) _⟩

section
variable {n : Nat} {N : Nat → ByteArray} {A : Nat → Int} {m : Nat} {l : Nat → Int}
/-- A term that bytes begin with has no fault. -/
theorem rd_term (hf : faultF n N A = 0) (h : 0 < rdK n A m l) : termF n N A (rdK n A m l) (nodT l) = 0 := by
  have hp := rd_spec (n := n) (A := A) (m := m) (l := l) (by omega)
  rw [term_l hf]
  have := hp.most
  exact lF_ok (by omega) (fun i hi => okN_node (hp.ok i hi)) hp.whole

theorem cut_key (hf : faultF n N A = 0) (h1 : 0 < rdK n A m l) (h2 : 0 < rd2 n A m l) (ha : rdK n A m l + rd2 n A m l = m) :
    CutP n A m l ↔ keyC n N A (rdK n A m l) (nodT l) (rd2 n A m l) (nodT (behind l (rdK n A m l))) = 0 := by
  have t1 := rd_term hf h1
  have t2 : termF n N A (rd2 n A m l) (nodT (behind l (rdK n A m l))) = 0 := rd_term hf h2
  rw [key_short t1 t2]
  exact ⟨fun h => h.short, fun h => ⟨by omega, by omega, ha, h⟩⟩
end

set_option maxRecDepth 20000 in
set_option maxHeartbeats 3200000 in
theorem implCut_any (b off n c b' off' m c' : Nat) (N : Nat → ByteArray) (A l : Nat → Int) (w : World) (h : Syms w b off n N A) (h' : Byts w (some ⟨b', off', none⟩) m l) (hb' : b' < w.heap.size) (hk : Kept n N A) (hm : m ≤ 1048576) (hmc : m ≤ c') :
    Calls Try.prog 25 #[.agg #[.slice (some ⟨b, off, none⟩) n c], .slice (some ⟨b', off', none⟩) m c'] w fun e w' => KeyAns w (ckC n N A m l) (rdK n A m l) (nodT l) (rd2 n A m l) (nodT (behind l (rdK n A m l))) e w' ∧ Below w.heap.size w w' := by
  have D := hidden ((One.new w (.slice (some ⟨b, off, none⟩) n c) 32).keep (alloc_below _ (.cells #[.int .i64 0, .slice none 0 0, .slice none 0 0] 49)))
  have R := hidden (Res3.new (w.alloc (.cells #[.slice (some ⟨b, off, none⟩) n c] 32)) (.int .i64 0) (.slice none 0 0) (.slice none 0 0) 49)
  have B := hidden (keepB (alloc_below w (.cells #[.slice (some ⟨b, off, none⟩) n c] 32)) (alloc_below _ (.cells #[.int .i64 0, .slice none 0 0, .slice none 0 0] 49)))
  have Q := hidden (h.keep B.out)
  have I := hidden (h'.keep B.out)
  have LB := hidden (Nat.lt_of_lt_of_le hb' B.out.size)
  have HK := hidden hk
  rw [World.size_alloc] at R
  obtain ⟨T2, hT⟩ : ∃ T2, T2 = nodT (behind l (rdK n A m l)) := ⟨_, rfl⟩
  have HKY := hidden (cut_key (n := n) (N := N) (A := A) (m := m) (l := l))
  obtain ⟨K2, hk2⟩ : ∃ K2, K2 = rd2 n A m l := ⟨_, rfl⟩
  rw [← hT, ← hk2] at HKY ⊢
  have HC1 := hidden (fun h : CutP n A m l => h.k2)
  have HC2 := hidden (fun h : CutP n A m l => h.all)
  rw [← hk2] at HC1 HC2
  have hle := (rd_le (n := n) (A := A) (m := m) (l := l))
  have HC0 := hidden (fun h : CutP n A m l => h.k1)
  have hle2 : K2 ≤ m - rdK n A m l ∧ K2 ≤ 24 := hk2 ▸ rd_le
  obtain ⟨K1, hk1⟩ : ∃ K1, K1 = rdK n A m l := ⟨_, rfl⟩
  rw [← hk1] at HKY HC0 HC2 hle hle2 hT ⊢
  have HT := hidden hT
  have HE1 := hidden hk1
  have HE2 := hidden hk2
  clear h h' hk hb' hT hk1 hk2
  go_enter Try.func25, Try.ntmps25
  go_wp2_with fail
  with_reducible refine (implFault_all _ _ _ _ N A _ Q.out HK.out).mono ?_
  rintro e w1 ⟨rfl, hb⟩
  replace D := hidden (D.out.keep hb)
  replace R := hidden (R.out.keep hb)
  replace B := hidden (keepB B.out hb)
  replace I := hidden (I.out.keep hb)
  replace Q := hidden (Q.out.keep hb)
  replace LB := hidden (Nat.lt_of_lt_of_le LB.out hb.size)
  clear hb
  by_cases hf : faultF n N A = 0
  · have HF := hidden hf
    have HS := hidden (fault_sound hf)
    rw [hf]
    clear hf
    have d0 := D.out.c0
    go_wp2_with fail
    with_reducible refine (cutSides_any _ _ _ _ _ _ m c' N A l _ Q.out HS.out hm hmc LB.out I.out).mono ?_
    rintro r w3 ⟨ha, hb⟩
    rw [← HE1.out, ← HE2.out, ← HT.out] at ha
    have hR := R.out.blk
    have hBs := B.out.size
    have hw3 := hb.size
    replace D := hidden (D.out.keep hb)
    replace R := hidden (R.out.keep hb)
    replace B := hidden (keepB B.out hb)
    replace Q := hidden (Q.out.keep hb)
    clear hb I LB d0
    rcases ha with ⟨h0, rfl⟩ | ⟨h0, g1, d1, g2, d2, o2, c2, rfl, hg1, hg12, ho1, ho2, hc2, _⟩
    · have HC := hidden (ck_text (m := m) (l := l) HF.out (fun h => h0 ⟨Nat.pos_of_ne_zero (HC0.out h), Nat.pos_of_ne_zero (HC1.out h)⟩))
      clear h0
      replace R := hidden (R.out.keep (alloc_below w3 (.cells #[.slice none 0 0, .slice none 0 0] 76)))
      replace B := hidden (keepB B.out (alloc_below w3 (.cells #[.slice none 0 0, .slice none 0 0] 76)))
      obtain ⟨_, q0, q1, q2, f0, f1, f2⟩ := id R.out
      go_wp2
      exact bodyPost_ret (v := .agg #[.int .i64 5, .slice none 0 0, .slice none 0 0]) (by simp [results, Try.results25, go_sem, q0, q1, q2]) rfl ⟨Or.inl ⟨by rw [HC.out]; decide, by rw [HC.out]⟩, ((B.out.setCell (by simp) _).setCell (by simp) _).setCell (by simp) _⟩
    · have HP := hidden h0
      have A1 := hidden (alloc_below w3 (.cells #[.slice (some ⟨g1, 0, none⟩) K1 d1, .slice (some ⟨g2, 0, none⟩) K2 d2] 76))
      have z0 := hidden (Res.new w3 (.slice (some ⟨g1, 0, none⟩) K1 d1) (.slice (some ⟨g2, 0, none⟩) K2 d2) 76)
      have O1 := hidden (ho1.keep A1.out)
      have O2 := hidden (ho2.keep A1.out)
      replace R := hidden (R.out.keep A1.out)
      replace D := hidden (D.out.keep A1.out)
      replace Q := hidden (Q.out.keep A1.out)
      replace B := hidden (keepB B.out A1.out)
      have hsz : (w3.alloc (.cells #[.slice (some ⟨g1, 0, none⟩) K1 d1, .slice (some ⟨g2, 0, none⟩) K2 d2] 76)).heap.size = w3.heap.size + 1 := by simp
      clear ho1 ho2 A1
      obtain ⟨r, hr⟩ : ∃ r, r = m - K1 - K2 := ⟨_, rfl⟩
      rw [← hr] at hc2 ⊢
      by_cases hr0 : r = 0
      · subst hr0
        have HA := hidden (show K1 + K2 = m by omega)
        obtain ⟨_, q0, q1, q2, f0, f1, f2⟩ := id R.out
        obtain ⟨_, y0, y1, _, _⟩ := id z0.out
        have d0 := D.out.c0
        clear hr
        go_wp2_with fail
        with_reducible refine (keyFault_any _ _ _ _ _ _ _ _ _ _ _ _ N A (nodT l) T2 _ Q.out O1.out.ints O2.out.ints HK.out (by omega) (by omega)).mono ?_
        rintro e w5 ⟨rfl, hb⟩
        clear d0 y0 y1 q0 q1 q2 f0 f1 f2
        have z1 := hidden (z0.out.keep hb)
        replace R := hidden (R.out.keep hb)
        replace B := hidden (keepB B.out hb)
        replace O1 := hidden (O1.out.keep hb)
        replace O2 := hidden (O2.out.keep hb)
        clear hb
        obtain ⟨_, q0, q1, q2, f0, f1, f2⟩ := id R.out
        obtain ⟨_, y0, y1, _, _⟩ := id z1.out
        have HKC := hidden (HKY.out HF.out HP.out.1 HP.out.2 HA.out)
        by_cases hkc : keyC n N A K1 (nodT l) K2 T2 = 0
        · have HC := hidden (ck_ok (m := m) (l := l) HF.out (HKC.out.2 hkc))
          rw [hkc]
          clear hkc
          go_wp2
          exact bodyPost_ret (v := .agg #[.int .i64 0, .slice (some ⟨g1, 0, none⟩) K1 d1, .slice (some ⟨g2, 0, none⟩) K2 d2]) (by simp [results, Try.results25, go_sem, q0, q1, q2]) rfl ⟨Or.inr ⟨HC.out, g1, d1, g2, d2, rfl, by omega, hg12,
            (((O1.out.other _ _ (by simp; omega)).other _ _ (by simp; omega)).other _ _ (by simp; omega)).base (by omega),
            (((O2.out.other _ _ (by simp; omega)).other _ _ (by simp; omega)).other _ _ (by simp; omega)).base (by omega)⟩, ((B.out.setCell (by simp) _).setCell (by simp) _).setCell (by simp) _⟩
        · have HC := hidden (ck_text (m := m) (l := l) HF.out (fun h => hkc (HKC.out.1 h)))
          have hkc' : (keyC n N A K1 (nodT l) K2 T2 != 0) = true := by simpa using hkc
          generalize keyC n N A K1 (nodT l) K2 T2 = z at hkc' ⊢
          clear hkc
          go_wp2
          exact bodyPost_ret (v := .agg #[.int .i64 5, .slice none 0 0, .slice none 0 0]) (by simp [results, Try.results25, go_sem, q0, q1, q2]) rfl ⟨Or.inl ⟨by rw [HC.out]; decide, by rw [HC.out]⟩, ((B.out.setCell (by simp) _).setCell (by simp) _).setCell (by simp) _⟩
      · have HC := hidden (ck_text (m := m) (l := l) HF.out (fun h => hr0 (by have := HC2.out h; omega)))
        have hr1 : 0 < r := by omega
        obtain ⟨_, q0, q1, q2, f0, f1, f2⟩ := id R.out
        clear hr hr0
        go_wp2
        exact bodyPost_ret (v := .agg #[.int .i64 5, .slice none 0 0, .slice none 0 0]) (by simp [results, Try.results25, go_sem, q0, q1, q2]) rfl ⟨Or.inl ⟨by rw [HC.out]; decide, by rw [HC.out]⟩, ((B.out.setCell (by simp) _).setCell (by simp) _).setCell (by simp) _⟩
  · have HN := hidden hf
    have HC := hidden (ck_fault (m := m) (l := l) hf)
    have hf' : (faultF n N A != 0) = true := by simpa using hf
    generalize faultF n N A = z at hf' HN HC ⊢
    clear hf
    obtain ⟨_, q0, q1, q2, f0, f1, f2⟩ := id R.out
    go_wp2
    exact bodyPost_ret (v := .agg #[.int .i64 z, .slice none 0 0, .slice none 0 0]) (by simp [results, Try.results25, go_sem, q0, q1, q2]) rfl ⟨Or.inl ⟨by rw [HC.out]; exact HN.out, by rw [HC.out]⟩, ((B.out.setCell (by simp) _).setCell (by simp) _).setCell (by simp) _⟩

end Go.Proofs.Ytcnkkoegfjggaaa
