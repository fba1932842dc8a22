/- Several texts as one: EqG, EqC. -/
import Derived.Test.YtcnkkoegfjggaaaMEB
import Derived.Test.YtcnkkoegfjggaaaMEC
import Derived.Deep.AppendLies
/- Reading equations off bytes: plain facts; a list of equations that grows; cutEquations. -/
namespace Go.Proofs.Ytcnkkoegfjggaaa
open Go.RowKit

section
variable (n : Nat) (A : Nat → Int) (m : Nat) (l : Nat → Int)
noncomputable def kA (p : Nat) : Nat := rdK n A (m - p) (behind l p)
noncomputable def kB (p : Nat) : Nat := rd2 n A (m - p) (behind l p)

open Classical in
/-- Where the j-th equation begins. -/
noncomputable def rdPos : Nat → Option Nat
  | 0 => some 1
  | j + 1 => match rdPos j with | some p => if 0 < kA n A m l p ∧ 0 < kB n A m l p then some (p + kA n A m l p + kB n A m l p) else none | none => none

noncomputable def rdAt (j : Nat) : Nat := (rdPos n A m l j).getD 0

/-- The equations that are read. -/
noncomputable def rdD : EqL := ⟨fun j => kA n A m l (rdAt n A m l j), fun j => nodT (behind l (rdAt n A m l j)), fun j => kB n A m l (rdAt n A m l j), fun j => nodT (behind (behind l (rdAt n A m l j)) (kA n A m l (rdAt n A m l j)))⟩
end

section
variable {n : Nat} {A : Nat → Int} {m : Nat} {l : Nat → Int}
theorem rdPos_step {j p : Nat} (h : rdPos n A m l j = some p) (hk : 0 < kA n A m l p ∧ 0 < kB n A m l p) : rdPos n A m l (j + 1) = some (p + kA n A m l p + kB n A m l p) := by
  simp only [rdPos, h]; rw [if_pos hk]
theorem rdPos_stop {j p : Nat} (h : rdPos n A m l j = some p) (hk : ¬ (0 < kA n A m l p ∧ 0 < kB n A m l p)) : rdPos n A m l (j + 1) = none := by
  simp only [rdPos, h]; rw [if_neg hk]
theorem rdPos_none {j : Nat} (h : rdPos n A m l j = none) : ∀ d, rdPos n A m l (j + d) = none
  | 0 => h
  | d + 1 => by rw [← Nat.add_assoc]; simp only [rdPos, rdPos_none h d]
theorem rdAt_some {j p : Nat} (h : rdPos n A m l j = some p) : rdAt n A m l j = p := by rw [rdAt, h]; rfl

theorem kAB_le (p : Nat) : kA n A m l p + kB n A m l p ≤ m - p := by
  have h1 := rd_le (n := n) (A := A) (m := m - p) (l := behind l p)
  have h2 := rd_le (n := n) (A := A) (m := m - p - rdK n A (m - p) (behind l p)) (l := behind (behind l p) (rdK n A (m - p) (behind l p)))
  unfold kA kB rd2
  omega

theorem rdPos_le (hm : 1 ≤ m) : ∀ j p, rdPos n A m l j = some p → 1 ≤ p ∧ p ≤ m
  | 0, p, h => by simp only [rdPos, Option.some.injEq] at h; omega
  | j + 1, p, h => by
    cases hp : rdPos n A m l j with
    | none => simp only [rdPos, hp] at h; cases h
    | some q =>
      have ih := rdPos_le hm j q hp
      by_cases hk : 0 < kA n A m l q ∧ 0 < kB n A m l q
      · rw [rdPos_step hp hk] at h
        have := kAB_le (n := n) (A := A) (m := m) (l := l) q
        simp only [Option.some.injEq] at h
        omega
      · rw [rdPos_stop hp hk] at h; cases h

open Classical in
/-- UnpackEquations' code. -/
noncomputable def uaC (n : Nat) (N : Nat → ByteArray) (A : Nat → Int) (m : Nat) (l : Nat → Int) : Int :=
  if faultF n N A = 0 then (if 0 < m ∧ rdPos n A m l (l 0).toNat = some m ∧ eqsF n N A (l 0).toNat (rdD n A m l) = 0 then 0 else 5) else faultF n N A
end

/-- A list of equations that grows: j of them, in memory of its own. -/
structure GrE (w : World) (B : Nat) (v : Value) (j : Nat) (D : EqL) : Prop where
  top : B ≤ w.heap.size
  row : ∃ (xs : List Value) (G : Nat → Nat), w.ownsRow B 76 2 v j xs ∧ (∀ e, e < j * 2 → ∃ d, xs[e]? = some (.slice (some ⟨G e, 0, none⟩) ((fl2 D).m e) d) ∧ (fl2 D).m e ≤ d ∧ B ≤ G e ∧ v.ownBlock ≠ some (G e) ∧ OwnI w B (G e) ((fl2 D).m e) d ((fl2 D).L e) ((fl2 D).m e)) ∧ ∀ i i', i < i' → i' < j * 2 → G i < G i'
  slc : v = .slice none 0 0 ∨ ∃ g c, v = .slice (some ⟨g, 0, none⟩) j c
  full : 0 < j → ¬ v = .slice none 0 0

theorem ownsRow_up2 {w w' : World} {B e s n : Nat} {v : Value} {xs : List Value} (h : w.ownsRow B e s v n xs) (hb : Below w.heap.size w w') : w'.ownsRow B e s v n xs := by
  refine ⟨h.1, h.2.imp id ?_⟩
  rintro ⟨g', cap, cur, h1, h2, h3, h4⟩
  exact ⟨g', cap, cur, h1, h2, by rw [hb.block g' (Array.getElem?_eq_some_iff.1 h3).1]; exact h3, h4⟩

theorem GrE.keep {w w' : World} {B : Nat} {v : Value} {j : Nat} {D : EqL} (h : GrE w B v j D) (hb : Below w.heap.size w w') : GrE w' B v j D := by
  obtain ⟨ht, ⟨xs, G, ho, hx, hm⟩, hs, hf⟩ := h
  refine ⟨Nat.le_trans ht hb.size, ⟨xs, G, ownsRow_up2 ho hb, fun e he => ?_, hm⟩, hs, hf⟩
  obtain ⟨d, a1, a2, a3, a4, a5⟩ := hx e he
  exact ⟨d, a1, a2, a3, a4, a5.keep hb⟩

theorem OwnI.grownV {w w' : World} {B g n c : Nat} {L : Nat → Int} {j : Nat} {row : Option Nat} (h : OwnI w B g n c L j) (hg : w.grownBy w' row) (hne : row ≠ some g) : OwnI w' B g n c L j := by
  obtain ⟨xs, ho, hz⟩ := h
  exact ⟨xs, ho.kept hg (Or.inr (by simp only [Value.ownBlock]; exact fun e => hne e.symm)), hz⟩

/-- One equation more. -/
theorem GrE.put {w wa w' : World} {B : Nat} {v : Value} {j : Nat} {D : EqL} (h : GrE w B v j D) (hb : Below w.heap.size w wa) (hg : wa.grownBy w' v.ownBlock) {g cap g1 d1 g2 d2 B1 B2 : Nat} {xs : List Value} {G : Nat → Nat}
    (hx1 : wa.ownsRow B 76 2 v j xs) (hx2 : ∀ e, e < j * 2 → ∃ d, xs[e]? = some (.slice (some ⟨G e, 0, none⟩) ((fl2 D).m e) d) ∧ (fl2 D).m e ≤ d ∧ B ≤ G e ∧ v.ownBlock ≠ some (G e) ∧ G e < w.heap.size ∧ OwnI wa B (G e) ((fl2 D).m e) d ((fl2 D).L e) ((fl2 D).m e)) (hx3 : ∀ i i', i < i' → i' < j * 2 → G i < G i')
    (l1 : w.heap.size ≤ g1) (l12 : g1 < g2) (o1 : OwnI wa B1 g1 (D.m1 j) d1 (D.L1 j) (D.m1 j)) (o2 : OwnI wa B2 g2 (D.m2 j) d2 (D.L2 j) (D.m2 j)) (c1 : D.m1 j ≤ d1) (c2 : D.m2 j ≤ d2)
    (ho : w'.ownsRow B 76 2 (.slice (some ⟨g, 0, none⟩) (j + 1) cap) (j + 1) (xs ++ [.slice (some ⟨g1, 0, none⟩) (D.m1 j) d1, .slice (some ⟨g2, 0, none⟩) (D.m2 j) d2])) (hat : v.ownBlock = some g ∨ g = wa.heap.size) :
    GrE w' B (.slice (some ⟨g, 0, none⟩) (j + 1) cap) (j + 1) D := by
  have hlen : xs.length = j * 2 := hx1.1
  have htop := h.top
  have hbs := hb.size
  have gV : ∀ q, v.ownBlock = some q → q < w.heap.size := fun q hq => by
    obtain ⟨ys, G', h1, _⟩ := h.row
    exact (h1.lt q hq).2
  have l2 := o2.lt
  have l1' := o1.lt
  have hgg : ∀ e, e < w.heap.size → v.ownBlock ≠ some e → g ≠ e := fun e he hne eg => by
    rcases hat with hh | hh
    · exact hne (by rw [hh, eg])
    · omega
  have hg1 : g ≠ g1 ∧ g ≠ g2 := by
    rcases hat with hh | hh
    · have := gV g hh; omega
    · omega
  refine ⟨Nat.le_trans htop (Nat.le_trans hbs hg.size), ⟨_, fun e => if e = j * 2 then g1 else if e = j * 2 + 1 then g2 else G e, ho, fun e he => ?_, fun i i' hij hi => ?_⟩, Or.inr ⟨_, _, rfl⟩, fun _ => by simp⟩
  · by_cases e0 : e = j * 2
    · subst e0
      simp only [if_true]
      rw [fl2_m0, fl2_L0]
      exact ⟨d1, by rw [List.getElem?_append_right (by omega)]; simp [hlen], c1, by omega, by simp only [Value.ownBlock]; intro ee; exact hg1.1 (by simpa using ee), (o1.grownV hg (fun ee => by have := gV g1 ee; omega)).base (by omega)⟩
    · by_cases e1 : e = j * 2 + 1
      · subst e1
        have : ¬ j * 2 + 1 = j * 2 := by omega
        simp only [this, if_false, if_true]
        rw [fl2_m1, fl2_L1]
        exact ⟨d2, by rw [List.getElem?_append_right (by omega)]; simp [hlen], c2, by omega, by simp only [Value.ownBlock]; intro ee; exact hg1.2 (by simpa using ee), (o2.grownV hg (fun ee => by have := gV g2 ee; omega)).base (by omega)⟩
      · obtain ⟨d, a1, a2, a3, a4, a5, a6⟩ := hx2 e (by omega)
        simp only [e0, e1, if_false]
        exact ⟨d, by rw [List.getElem?_append_left (by omega)]; exact a1, a2, a3, by simp only [Value.ownBlock]; intro ee; exact hgg (G e) a5 a4 (by simpa using ee), a6.grownV hg a4⟩
  · have hi0 : i ≠ j * 2 + 1 := by omega
    by_cases b0 : i = j * 2
    · have b1 : i' = j * 2 + 1 := by omega
      have b2 : ¬ j * 2 + 1 = j * 2 := by omega
      simp only [b0, b1, b2, if_true, if_false]; omega
    · simp only [b0, hi0, if_false]
      obtain ⟨_, _, _, _, _, a5, _⟩ := hx2 i (by omega)
      by_cases b1 : i' = j * 2
      · simp only [b1, if_true]; omega
      · by_cases b2 : i' = j * 2 + 1
        · have b3 : ¬ j * 2 + 1 = j * 2 := by omega
          simp only [b2, b3, if_true, if_false]; omega
        · simp only [b1, b2, if_false]; exact hx3 i i' hij (by omega)

/-- What a list that has grown is, as an answer. -/
theorem GrE.done {w : World} {B : Nat} {v : Value} {j : Nat} {D : EqL} (h : GrE w B v j D) (hj : 0 < j) : ∃ g d, v = .slice (some ⟨g, 0, none⟩) j d ∧ OwnFX w B w.heap.size g j d (fl2 D) := by
  obtain ⟨ht, ⟨xs, G, ho, hx, hm⟩, hs, hf⟩ := h
  rcases hs with e | ⟨g, c, rfl⟩
  · exact absurd e (hf hj)
  · have lg := ho.lt g rfl
    refine ⟨g, c, rfl, lg.1, lg.2, Nat.le_refl _, xs, G, ho, fun e he => ?_, hm⟩
    obtain ⟨d, a1, a2, a3, a4, a5⟩ := hx e he
    exact ⟨d, a1, a2, a3, a5.lt, fun ee => a4 (by simp [Value.ownBlock, ee]), a5⟩

end Go.Proofs.Ytcnkkoegfjggaaa

/- Contract: cutEquations: as many equations as the first byte tells, cut off bytes. -/
namespace Go.Proofs.Ytcnkkoegfjggaaa
open Go.RowKit

theorem bytsFrom {w : World} {b' off' o2 m p : Nat} {l : Nat → Int} (h : Byts w (some ⟨b', off', none⟩) m l) (hp : p ≤ m) (ho : m = p ∨ o2 = off' + p) : Byts w (some ⟨b', o2, none⟩) (m - p) (behind l p) := by
  refine ⟨?_, fun i hi => h.byt (p + i) (by omega)⟩
  rcases ho with e | e
  · exact Or.inl (by omega)
  · rcases h.row with h0 | ⟨b, off, hb, hlt, hc⟩
    · exact Or.inl (by omega)
    · refine Or.inr ⟨b', o2, rfl, ?_, fun i hi => ?_⟩
      · simp at hb; rw [hb.1]; exact hlt
      · simp at hb
        have := hc (p + i) (by omega)
        rw [← hb.1, ← hb.2] at this
        rw [e, Nat.add_assoc]; exact this

theorem two_srcE (W : World) (u v : Value) (t : TypeId) (g : Nat) (hg : g = W.heap.size) : ∀ (j : Nat) (x : Value), [u, v][j]? = some x → (W.alloc (.cells #[u, v] t)).cell? ((⟨g, 0, none⟩ : Addr).add j) = some x := by
  subst hg
  intro j x hj
  match j, hj with
  | 0, hj => simp at hj; subst hj; simp [Addr.add, go_sem]
  | 1, hj => simp at hj; subst hj; simp [Addr.add, go_sem]

/-- What cutEquations answers. -/
def CutE (w : World) (n : Nat) (A : Nat → Int) (m : Nat) (l : Nat → Int) (b' : Nat) (e : Ending) (w' : World) : Prop :=
  ((m = 0 ∨ rdPos n A m l (l 0).toNat = none) ∧ e = .returned (.tuple #[.slice none 0 0, .slice none 0 0, .bool false])) ∨
  (0 < m ∧ ∃ p, rdPos n A m l (l 0).toNat = some p ∧ ∃ v o2 c2 B, e = .returned (.tuple #[v, .slice (some ⟨b', o2, none⟩) (m - p) c2, .bool true]) ∧ w.heap.size ≤ B ∧ GrE w' B v (l 0).toNat (rdD n A m l))

set_option maxRecDepth 20000 in
set_option maxHeartbeats 6400000 in
theorem cutEqs_any (b off n c b' off' m c' : Nat) (N : Nat → ByteArray) (A l : Nat → Int) (w : World) (h : Syms w b off n N A) (hs : Sound n A) (hm : m ≤ 1048576) (hmc : m ≤ c') (hb' : b' < w.heap.size) (hl : Byts w (some ⟨b', off', none⟩) m l) :
    Calls Try.prog 53 #[.agg #[.slice (some ⟨b, off, none⟩) n c], .slice (some ⟨b', off', none⟩) m c'] w fun e w' => CutE w n A m l b' e w' ∧ Below w.heap.size w w' := by
  have D := hidden (One.new w (.slice (some ⟨b, off, none⟩) n c) 32)
  have B := hidden (alloc_below w (.cells #[.slice (some ⟨b, off, none⟩) n c] 32))
  have HQ := hidden h
  have HI := hidden hl
  have HSO := hidden hs
  clear h hl hs
  by_cases hm0 : m = 0
  · subst hm0
    go_enter Try.func53, Try.ntmps53
    go_wp2
    exact bodyPost_ret (v := .tuple #[.slice none 0 0, .slice none 0 0, .bool false]) (by simp [results, Try.results53, go_sem]) rfl ⟨Or.inl ⟨Or.inl rfl, rfl⟩, B.out⟩
  · have hm1 : 1 ≤ m := by omega
    have hmz : ((m : Int) == 0) = false := by simp; omega
    obtain ⟨q, hq, hq255⟩ : ∃ q : Nat, l 0 = (q : Int) ∧ q ≤ 255 := by
      have := HI.out.byt 0 (by omega)
      exact ⟨(l 0).toNat, by omega, by omega⟩
    have hqn : (l 0).toNat = q := by omega
    have c0 : (w.alloc (.cells #[.slice (some ⟨b, off, none⟩) n c] 32)).cell? ⟨b', off', none⟩ = some (.int .u8 (q : Int)) := by
      rcases HI.out.row with h0 | ⟨b1, o1, e1, hlt, hc⟩
      · omega
      · simp at e1
        have := hc 0 (by omega)
        rw [← e1.1, ← e1.2, Nat.add_zero, hq] at this
        rw [(bcell B.out).1 _ _ hb']; exact this
    have HQN := hidden hqn
    have hm1' : (1 : Int) ≤ m := by omega
    have hmc' : (m : Int) ≤ c' := by omega
    clear hq hqn hm0
    go_enter Try.func53, Try.ntmps53
    go_wp2
    go_region
    go_wp2
    all_goals
      have st : GrE (w.alloc (.cells #[.slice (some ⟨b, off, none⟩) n c] 32)).drew (w.heap.size + 1) (.slice none 0 0) 0 (rdD n A m l) :=
        ⟨by simp, ⟨[], fun _ => 0, World.ownsRow_nil _ _ _ _, fun e he => by omega, fun i i' _ hi => by omega⟩, Or.inl rfl, fun hh => by omega⟩
      have HST := hidden st
      clear st c0
      go_loopw [8, 9, 22] (fun r v i wr => ∃ (j p o2 c2 : Nat), j ≤ q ∧ i = .int .u8 (j : Int) ∧ r = .slice (some ⟨b', o2, none⟩) (m - p) c2 ∧ Hid (rdPos n A m l j = some p) ∧ Hid (m - p ≤ c2 ∧ (m = p ∨ o2 = off' + p)) ∧ Hid (GrE wr (w.heap.size + 1) v j (rdD n A m l)) ∧ Hid (One wr w.heap.size (.slice (some ⟨b, off, none⟩) n c)) ∧ Hid (Below w.heap.size w wr)) (fun _ _ i _ => q - (intOf i).toNat)
      case atStart => first | exact ⟨0, 1, off' + 1, c' - 1, Nat.zero_le _, rfl, rfl, hidden rfl, hidden ⟨by omega, Or.inr rfl⟩, HST, hidden (D.out.keep (Below.refl _ _).drew), hidden B.out.drew⟩ | exact ⟨0, 1, off', 0, Nat.zero_le _, rfl, rfl, hidden rfl, hidden ⟨by omega, Or.inl (by omega)⟩, HST, hidden (D.out.keep (Below.refl _ _).drew), hidden B.out.drew⟩
      case round =>
        clear HST D B
        obtain ⟨j, p, o2, c2, hj, rfl, rfl, HP, HC, GR, D, B⟩ := hrel
        have hpl := rdPos_le hm1 j p HP.out
        by_cases hlt : j < q
        · have S := hidden (cutSides_any b off n c b' o2 (m - p) c2 N A (behind l p) wr (HQ.out.keep B.out) HSO.out (by omega) HC.out.1 (Nat.lt_of_lt_of_le hb' B.out.size) ((bytsFrom HI.out hpl.2 HC.out.2).keep B.out))
          have d0 := D.out.c0
          go_wp2_with fail
          with_reducible refine S.out.mono ?_
          rintro e w2 ⟨ha, hb⟩
          clear S d0
          rcases ha with ⟨hk, rfl⟩ | ⟨hk, g1, d1, g2, d2, o3, c3, rfl, hg1, hg12, ho1, ho2, hc3, hoff⟩
          · have HR := hidden (show rdPos n A m l (l 0).toNat = none by
              rw [HQN.out]
              have h1 := rdPos_none (rdPos_stop HP.out hk) (q - (j + 1))
              rw [show j + 1 + (q - (j + 1)) = q by omega] at h1
              exact h1)
            have BB := hidden (keepB B.out (keepB hb (alloc_below w2 (.cells #[.slice none 0 0, .slice none 0 0] 76))))
            clear hb hk
            go_wp2
            exact bodyPost_ret (v := .tuple #[.slice none 0 0, .slice none 0 0, .bool false]) (by simp [results, Try.results53, go_sem]) rfl ⟨Or.inl ⟨Or.inr HR.out, rfl⟩, BB.out⟩
          · have HNX := hidden (rdPos_step HP.out hk)
            have HD1 := hidden (show (rdD n A m l).m1 j = rdK n A (m - p) (behind l p) by simp only [rdD, rdAt_some HP.out]; rfl)
            have HD2 := hidden (show (rdD n A m l).m2 j = rd2 n A (m - p) (behind l p) by simp only [rdD, rdAt_some HP.out]; rfl)
            have HL1 := hidden (show (rdD n A m l).L1 j = nodT (behind l p) by simp only [rdD, rdAt_some HP.out])
            have HL2 := hidden (show (rdD n A m l).L2 j = nodT (behind (behind l p) (rdK n A (m - p) (behind l p))) by simp only [rdD, rdAt_some HP.out]; rfl)
            have HK := hidden (show kA n A m l p = rdK n A (m - p) (behind l p) ∧ kB n A m l p = rd2 n A (m - p) (behind l p) from ⟨rfl, rfl⟩)
            have hkk := kAB_le (n := n) (A := A) (m := m) (l := l) p
            rw [← HL1.out] at ho1
            rw [← HL2.out] at ho2
            obtain ⟨K1, hK1⟩ : ∃ K1, K1 = rdK n A (m - p) (behind l p) := ⟨_, rfl⟩
            obtain ⟨K2, hK2⟩ : ∃ K2, K2 = rd2 n A (m - p) (behind l p) := ⟨_, rfl⟩
            rw [← hK1] at HD1 HK
            rw [← hK2] at HD2 HK
            rw [HK.out.1, HK.out.2] at hkk HNX
            rw [← hK1] at ho1 hc3 hoff ⊢
            rw [← hK2] at ho2 hc3 hoff ⊢
            have HO1 := hidden ho1
            have HO2 := hidden ho2
            have HCC := hidden (And.intro hc3 hoff)
            have HGG := hidden (And.intro hg1 hg12)
            have C1 := hidden (show K1 ≤ d1 from by obtain ⟨xs, hh, _⟩ := ho1; rcases hh.2 with ⟨_, h0⟩ | ⟨g', cap, cur, hv, _, hgg, hc, _⟩; exact (by omega); injection hv with h1 h2 h3; omega)
            have C2 := hidden (show K2 ≤ d2 from by obtain ⟨xs, hh, _⟩ := ho2; rcases hh.2 with ⟨_, h0⟩ | ⟨g', cap, cur, hv, _, hgg, hc, _⟩; exact (by omega); injection hv with h1 h2 h3; omega)
            obtain ⟨xs, G, hx1, hx2, hx3⟩ := GR.out.row
            have bA := keepB hb (alloc_below w2 (.cells #[.slice (some ⟨g1, 0, none⟩) K1 d1, .slice (some ⟨g2, 0, none⟩) K2 d2] 76))
            have bB := keepB bA (alloc_below _ (.cells #[.slice (some ⟨g1, 0, none⟩) K1 d1, .slice (some ⟨g2, 0, none⟩) K2 d2] 76))
            have XO := hidden (ownsRow_up2 hx1 bB)
            have HX2 := hidden hx2
            have HX3 := hidden hx3
            have BB := hidden bB
            have T2 := Two.new w2 (.slice (some ⟨g1, 0, none⟩) K1 d1) (.slice (some ⟨g2, 0, none⟩) K2 d2) 76
            have t0 := T2.c0
            have t1 := T2.c1
            have hws := B.out.size
            have htop := GR.out.top
            have hbsz := bB.size
            clear ho1 ho2 hc3 hoff hx1 hx2 hx3 bA bB hK1 hK2 T2 hb hg1 hg12
            go_wp2_with (at_builtin; refine wpList_append_lies _ rfl _ _ 53 rfl (w.heap.size + 1) 76 _ (.agg #[.slice none 0 0, .slice none 0 0]) 2 48 Try.underlying53 rfl rfl rfl rfl rfl (by decide) _ j xs rfl XO.out ⟨_, 0, none⟩ 1 1 [.slice (some ⟨g1, 0, none⟩) K1 d1, .slice (some ⟨g2, 0, none⟩) K2 d2] rfl rfl (two_srcE _ _ _ _ _ (by simp)) (by intro u hu; simp at hu; rcases hu with rfl | rfl <;> rfl) (by decide) (by unfold maxLen; omega) (by omega) (by simp at hbsz ⊢; omega) _ rfl ?_)
            intro g6 d6 w6 hown hgrow hat hlt6
            replace hgrow : World.grownBy _ w6 u9.ownBlock := hgrow
            replace hat : u9.ownBlock = some g6 ∨ _ := hat
            have NEW := hidden (GR.out.put BB.out hgrow XO.out (fun e he => by
              obtain ⟨d, a1, a2, a3, a4, a5⟩ := HX2.out e he
              exact ⟨d, a1, a2, a3, a4, a5.lt, a5.keep BB.out⟩) HX3.out HGG.out.1 HGG.out.2 (d1 := d1) (d2 := d2) (by rw [HD1.out]; exact (HO1.out.keep (alloc_below _ _)).keep (alloc_below _ _)) (by rw [HD2.out]; exact (HO2.out.keep (alloc_below _ _)).keep (alloc_below _ _)) (by rw [HD1.out]; exact C1.out) (by rw [HD2.out]; exact C2.out) (by rw [HD1.out, HD2.out]; exact hown) (by rcases hat with hh | hh; exact Or.inl hh; exact Or.inr (by rw [hh]; simp)))
            have hbq := keepB B.out BB.out
            have HB6 := hidden (hbq.grown hgrow hbq.size (fun z hz => by have := (XO.out.lt z hz).1; omega))
            have D6 := hidden (show One w6 w.heap.size (.slice (some ⟨b, off, none⟩) n c) from by
              have q1 := D.out.keep BB.out
              have hb6 := hgrow.block w.heap.size q1.blk (fun ee => by have := (XO.out.lt _ ee.symm).1; omega)
              exact ⟨Nat.lt_of_lt_of_le q1.blk hgrow.size, (World.cell?_of_block (a := ⟨w.heap.size, 0, none⟩) hb6).trans q1.c0⟩)
            clear hown hgrow hat hlt6 hbq XO HX2 HX3 BB GR D B t0 t1 hbsz
            go_wp2
            go_roundw
            case rel =>
              refine ⟨j + 1, p + K1 + K2, o3, c3, by omega, by go_num, ?_, HNX, hidden ⟨?_, ?_⟩, NEW, D6, HB6⟩
              · rw [show m - (p + K1 + K2) = m - p - K1 - K2 by omega]
              · have := HCC.out.1; omega
              · have h1 := HCC.out.2; have h2 := HC.out.2; omega
            case measure => simp [intOf]; omega
        · obtain rfl : q = j := by omega
          rcases GR.out.slc with rfl | ⟨g, cc, rfl⟩
          · go_wp2
            exact bodyPost_ret (v := .tuple #[.slice none 0 0, .slice (some ⟨b', o2, none⟩) (m - p) c2, .bool true]) (by simp [results, Try.results53, go_sem]) rfl ⟨Or.inr ⟨by omega, p, by rw [HQN.out]; exact HP.out, _, o2, c2, w.heap.size + 1, rfl, by omega, by rw [HQN.out]; exact GR.out⟩, B.out⟩
          · go_wp2
            exact bodyPost_ret (v := .tuple #[.slice (some ⟨g, 0, none⟩) q cc, .slice (some ⟨b', o2, none⟩) (m - p) c2, .bool true]) (by simp [results, Try.results53, go_sem]) rfl ⟨Or.inr ⟨by omega, p, by rw [HQN.out]; exact HP.out, _, o2, c2, w.heap.size + 1, rfl, by omega, by rw [HQN.out]; exact GR.out⟩, B.out⟩

end Go.Proofs.Ytcnkkoegfjggaaa
