/- Several texts as one: Baso, Pis, Eqs, Gp, Ov, Count, Lbd. -/
import Derived.Test.YtenlogljpgdbpaaMH
import Derived.Test.YtenlogljpgdbpaaEqn
import Derived.Test.YtenlogljpgdbpaaSameT
import Derived.Test.YtenlogljpgdbpaaSub
import Derived.Deep.AppendLies
import Derived.Test.YtenlogljpgdbpaaTermF
/- Contract: the program's bindAlso: one variable more, behind a binding. -/
namespace Go.Proofs.Ytenlogljpgdbpaa
open Go.RowKit

set_option maxRecDepth 20000 in
set_option maxHeartbeats 400000 in
theorem containsU_any (b off m c : Nat) (V : Nat → Int) (v : Int) (w : World) (h : Ints w b off m V) (hm : m ≤ 1048576) :
    Calls Try.prog 95 #[.slice (some ⟨b, off, none⟩) m c, .int .i64 v] w fun e w' => e = .returned (.bool (bdI V v m).isSome) ∧ Below w.heap.size w w' := by
  have H := hidden h
  clear h
  go_enter Try.func95, Try.ntmps95
  go_wp2_with fail
  with_reducible refine (ixAt_any _ _ _ _ V v _ H.out hm).mono ?_
  rintro e w1 ⟨rfl, hb⟩
  have B := hidden hb
  clear hb
  cases hd : bdI V v m with
  | none =>
    have HR := hidden (show (bdI V v m).isSome = false by rw [hd]; rfl)
    rw [ixV_none hd]
    clear hd
    go_wp2
    go_ret
    exact ⟨by rw [HR.out]; rfl, B.out⟩
  | some i =>
    have HR := hidden (show (bdI V v m).isSome = true by rw [hd]; rfl)
    rw [ixV_some hd]
    clear hd
    have h0 : (0 : Int) ≤ i := by omega
    go_wp2
    go_ret
    exact ⟨by rw [HR.out]; rfl, B.out⟩

/-- A binding of one variable. -/
def onD (m : Nat) (T : Nat → Int) : LsL := ⟨fun _ => m, fun _ => T⟩
def onV (v : Nat) : Nat → Int := fun _ => (v : Int)

/-- bindAlso's code. -/
noncomputable def baC (k : Nat) (D1 : LsL) (v m : Nat) (T : Nat → Int) : Int := if (bdI T (-1 - (v : Int)) m).isSome = true then 4 else bhC k (bdN 1 (onV v) (onD m T)) D1
def baM (k : Nat) (V1 : Nat → Int) (D1 : LsL) (v m : Nat) (T : Nat → Int) : Nat → List Int := thnM k V1 D1 1 (onV v) (onD m T)

theorem one_binding {w : World} {x y b o m c v : Nat} {T : Nat → Int} (hx : w.cell? ⟨x, 0, none⟩ = some (.int .i64 (v : Int))) (hy : w.cell? ⟨y, 0, none⟩ = some (.slice (some ⟨b, o, none⟩) m c)) (hT : Ints w b o m T) (hm : 1 ≤ m ∧ m ≤ 24) (hmc : m ≤ c) (hn : ∀ j, j < m → -12 ≤ T j) (hv : v < 12) :
    BnIn w (some ⟨x, 0, none⟩) (some ⟨y, 0, none⟩) 1 (onV v) (onD m T) where
  vars := by
    refine Or.inr ⟨x, 0, rfl, ⟨fun _ => World.block_lt_of_cell? _ _ hx, fun i hi => ?_⟩⟩
    obtain rfl : i = 0 := by omega
    exact hx
  terms := by
    refine Or.inr ⟨y, 0, rfl, ⟨fun _ => World.block_lt_of_cell? _ _ hy, fun i hi => ?_⟩⟩
    obtain rfl : i = 0 := by omega
    exact ⟨b, o, c, hy, hT, hmc⟩
  most := by omega
  low := fun i _ => by simp only [onV]; omega
  inj := fun a b ha hb _ => by omega
  len := fun i _ => hm
  node := fun i _ j hj => hn j hj

theorem BnAns.out {w wc w1 : World} {C : Int} {M : Nat → List Int} {e : Ending} (h : BnAns wc C M e w1) (hw : w.heap.size ≤ wc.heap.size) (s : Nat) (u0 u1 u2 : Value) (hs : s < wc.heap.size) : BnAns w C M e (((w1.setCell ⟨s, 0, none⟩ u0).setCell ⟨s, 1, none⟩ u1).setCell ⟨s, 2, none⟩ u2) := by
  rcases h with h | ⟨h1, h2, lo, g1, d1, g2, d2, he, hlo, ho⟩
  · exact Or.inl h
  · exact Or.inr ⟨h1, h2, lo, g1, d1, g2, d2, he, by omega, ((ho.setLow s 0 u0 (by omega)).setLow s 1 u1 (by omega)).setLow s 2 u2 (by omega)⟩

theorem BnAns.form {w w1 : World} {C : Int} {M : Nat → List Int} {e : Ending} (h : BnAns w C M e w1) : ∃ x q1 r d1 q2 d2, e = .returned (.agg #[.int .i64 x, .slice q1 r d1, .slice q2 r d2]) := by
  rcases h with ⟨_, rfl⟩ | ⟨_, _, lo, g1, d1, g2, d2, rfl, _, _⟩
  · exact ⟨_, _, _, _, _, _, rfl⟩
  · exact ⟨_, _, _, _, _, _, rfl⟩

set_option maxRecDepth 20000 in
set_option maxHeartbeats 6400000 in
theorem bindAlso_any (p1 p2 : Option Addr) (k c1 c2 v b o m c : Nat) (V1 T : Nat → Int) (D1 : LsL) (w : World) (h1 : BnIn w p1 p2 k V1 D1) (hT : Ints w b o m T) (hm : 1 ≤ m ∧ m ≤ 24) (hmc : m ≤ c) (hn : ∀ j, j < m → -12 ≤ T j) (hv : v < 12) :
    Calls Try.prog 78 #[.agg #[.slice p1 k c1, .slice p2 k c2], .int .i64 (-1 - (v : Int)), .slice (some ⟨b, o, none⟩) m c] w fun e w' => BnAns w (baC k D1 v m T) (baM k V1 D1 v m T) e w' ∧ Below w.heap.size w w' := by
  have bA := alloc_below w (.cells #[.slice p1 k c1, .slice p2 k c2] 29)
  have bC := alloc_below (w.alloc (.cells #[.slice p1 k c1, .slice p2 k c2] 29)) (.cells #[.int .i64 0, .slice none 0 0, .slice none 0 0] 31)
  have x1 := (Two.new w (.slice p1 k c1) (.slice p2 k c2) 29).keep bC
  have r1 := Bn3.new (w.alloc (.cells #[.slice p1 k c1, .slice p2 k c2] 29)) (.int .i64 0) (.slice none 0 0) (.slice none 0 0) 31
  simp only [World.size_alloc] at r1
  have X := hidden x1
  have R := hidden r1
  have B := hidden (keepB bA bC)
  have H1 := hidden (h1.keep B.out)
  have HT := hidden (hT.keep B.out)
  have HN := hidden hn
  clear bA bC x1 r1 h1 hT hn
  go_enter Try.func78, Try.ntmps78
  go_wp2_with fail
  with_reducible refine (containsU_any _ _ _ _ T _ _ HT.out (by omega)).mono ?_
  rintro e w1 ⟨rfl, hb⟩
  replace X := hidden (X.out.keep hb)
  replace R := hidden (R.out.keep hb)
  replace B := hidden (keepB B.out hb)
  replace H1 := hidden (H1.out.keep hb)
  replace HT := hidden (HT.out.keep hb)
  clear hb
  have HZ := hidden R.out.blk
  generalize hi : (bdI T (-1 - (v : Int)) m).isSome = ib
  cases ib
  · have HC := hidden (show baC k D1 v m T = bhC k (bdN 1 (onV v) (onD m T)) D1 from by rw [baC, hi]; rfl)
    clear hi
    have BH := hidden (show ∀ (ww : World) (x y : Nat), Below w1.heap.size w1 ww → ww.cell? ⟨x, 0, none⟩ = some (.int .i64 (v : Int)) → ww.cell? ⟨y, 0, none⟩ = some (.slice (some ⟨b, o, none⟩) m c) → Calls Try.prog 51 #[.agg #[.slice p1 k c1, .slice p2 k c2], .agg #[.slice (some ⟨x, 0, none⟩) 1 1, .slice (some ⟨y, 0, none⟩) 1 1]] ww fun e w' => (∃ z q1 r d1 q2 d2, e = .returned (.agg #[.int .i64 z, .slice q1 r d1, .slice q2 r d2]) ∧ Bn3 w' (w.heap.size + 1) (.int .i64 0) (.slice none 0 0) (.slice none 0 0) ∧ w'.cell? ⟨w.heap.size, 0, none⟩ = some (.slice p1 k c1) ∧ w'.cell? ⟨w.heap.size, 1, none⟩ = some (.slice p2 k c2) ∧ Hid (BnAns ww (baC k D1 v m T) (baM k V1 D1 v m T) e w') ∧ Hid (w1.heap.size ≤ ww.heap.size ∧ Below w1.heap.size w1 w')) from fun ww x y hb hx hy => by
      refine (bindBehind_any p1 p2 _ _ k 1 c1 c2 1 1 V1 (onV v) D1 (onD m T) ww (H1.out.keep hb) (one_binding hx hy (HT.out.keep hb) hm hmc HN.out hv)).mono fun e w' h => ?_
      obtain ⟨z, q1, r, d1, q2, d2, rfl⟩ := h.1.form
      exact ⟨z, q1, r, d1, q2, d2, rfl, R.out.keep (keepB hb h.2), (X.out.keep (keepB hb h.2)).c0, (X.out.keep (keepB hb h.2)).c1, hidden (by rw [HC.out]; exact h.1), hidden ⟨hb.size, keepB hb h.2⟩⟩)
    have x0 := X.out.c0
    have x1 := X.out.c1
    go_wp2
    go_region_held3 (fun wz => wz.cell? ⟨w.heap.size, 0, none⟩ = some (.slice p1 k c1) ∧ wz.cell? ⟨w.heap.size, 1, none⟩ = some (.slice p2 k c2)) (first | exact ⟨by assumption, by assumption⟩ | go_keep) (first
      | (go_at_call 91; with_reducible refine (variableOf_any v _ hv).mono ?_; rintro e w9 ⟨rfl, rfl⟩)
      | (go_at_call 51; with_reducible refine (BH.out _ _ _ (by first | exact keepB (keepB (Below.refl _ _).drew (alloc_below _ _)) (alloc_below _ _) | exact keepB (keepB (Below.refl _ _) (alloc_below _ _)) (alloc_below _ _)) (by simp [go_sem]) (by simp [go_sem])).mono ?_; rintro e w9 ⟨z, q1, r, d1, q2, d2, rfl, ⟨z0, z1, z2, z3, z4, z5, z6⟩, y0, y1, HA, HB⟩))
    all_goals
      go_wp2
      exact bodyPost_ret (v := .agg #[.int .i64 z, .slice q1 r d1, .slice q2 r d2]) (by simp [results, Try.results78, go_sem, z1, z2, z3]) rfl ⟨HA.out.out (by have := HB.out.1; have := HZ.out; simp at *; omega) _ _ _ _ (by have := HB.out.1; have := HZ.out; simp at *; omega), (((keepB B.out HB.out.2).setCell (by simp) _).setCell (by simp) _).setCell (by simp) _⟩
  · have HC := hidden (show baC k D1 v m T = 4 from by rw [baC, hi]; rfl)
    clear hi
    obtain ⟨_, q0, q1, q2, f0, f1, f2⟩ := id R.out
    go_wp2
    exact bodyPost_ret (v := .agg #[.int .i64 4, .slice none 0 0, .slice none 0 0]) (by simp [results, Try.results78, go_sem, q0, q1, q2]) rfl ⟨Or.inl ⟨Or.inl (by rw [HC.out]; decide), by rw [HC.out]⟩, ((B.out.setCell (by simp) _).setCell (by simp) _).setCell (by simp) _⟩

end Go.Proofs.Ytenlogljpgdbpaa

/- Contract: the program's putInSides: both sides of a pair with what stands for their variables. -/
namespace Go.Proofs.Ytenlogljpgdbpaa
open Go.RowKit

/-- A list of numbers as a function. -/
def fnL (l : List Int) : Nat → Int := fun i => l.getD i 0

/-- What putInSides answers. -/
def PisAns (w : World) (l1 l2 : List Int) (e : Ending) (w' : World) : Prop :=
  ((24 < l1.length ∨ 24 < l2.length) ∧ e = .returned (.agg #[.int .i64 2, .slice none 0 0, .slice none 0 0])) ∨
  (l1.length ≤ 24 ∧ l2.length ≤ 24 ∧ ∃ g1 d1 g2 d2, e = .returned (.agg #[.int .i64 0, .slice (some ⟨g1, 0, none⟩) l1.length d1, .slice (some ⟨g2, 0, none⟩) l2.length d2]) ∧ w.heap.size ≤ g1 ∧ g1 < g2 ∧ OwnI w' w.heap.size g1 l1.length d1 (fnL l1) l1.length ∧ OwnI w' w.heap.size g2 l2.length d2 (fnL l2) l2.length)

theorem listOr {w w' : World} {l : List Int} {e : Ending} (h : ListAns w (if 24 < l.length then 2 else 0) l.length (fun i => l.getD i 0) e w') :
    (24 < l.length ∧ e = .returned (.agg #[.int .i64 2, .slice none 0 0])) ∨ (l.length ≤ 24 ∧ ∃ g d, e = .returned (.agg #[.int .i64 0, .slice (some ⟨g, 0, none⟩) l.length d]) ∧ w.heap.size ≤ g ∧ OwnI w' w.heap.size g l.length d (fnL l) l.length) := by
  by_cases hl : 24 < l.length
  · rw [if_pos hl] at h
    rcases h with ⟨_, h⟩ | ⟨h, _⟩
    · exact Or.inl ⟨hl, h⟩
    · omega
  · rw [if_neg hl] at h
    rcases h with ⟨h, _⟩ | ⟨_, g, d, h1, h2, h3⟩
    · exact absurd rfl h
    · exact Or.inr ⟨by omega, g, d, h1, h2, h3⟩

set_option maxRecDepth 20000 in
set_option maxHeartbeats 6400000 in
theorem putInSides_any (gf : Nat) (fr : Array Value) (M : Nat → List Int) (b1 o1 m1 c1 b2 o2 m2 c2 : Nat) (L1 L2 : Nat → Int) (w : World) (hM : Mean gf fr M w) (h1 : Ints w b1 o1 m1 L1) (h2 : Ints w b2 o2 m2 L2) (hm1 : 1 ≤ m1 ∧ m1 ≤ 24) (hm2 : 1 ≤ m2 ∧ m2 ≤ 24) (hx1 : ∀ i, i < m1 → -12 ≤ L1 i) (hx2 : ∀ i, i < m2 → -12 ≤ L2 i) (hm : ∀ v, (M v).length ≤ 24) :
    Calls Try.prog 39 #[.agg #[.slice (some ⟨b1, o1, none⟩) m1 c1, .slice (some ⟨b2, o2, none⟩) m2 c2], .func (Fn.func gf) #[] fr] w fun e w' => PisAns w (putL M L1 m1) (putL M L2 m2) e w' ∧ Below w.heap.size w w' := by
  have bA := alloc_below w (.cells #[.slice (some ⟨b1, o1, none⟩) m1 c1, .slice (some ⟨b2, o2, none⟩) m2 c2] 61)
  have bC := alloc_below (w.alloc (.cells #[.slice (some ⟨b1, o1, none⟩) m1 c1, .slice (some ⟨b2, o2, none⟩) m2 c2] 61)) (.cells #[.int .i64 0, .slice none 0 0, .slice none 0 0] 73)
  have x1 := (Two.new w (.slice (some ⟨b1, o1, none⟩) m1 c1) (.slice (some ⟨b2, o2, none⟩) m2 c2) 61).keep bC
  have r1 := Bn3.new (w.alloc (.cells #[.slice (some ⟨b1, o1, none⟩) m1 c1, .slice (some ⟨b2, o2, none⟩) m2 c2] 61)) (.int .i64 0) (.slice none 0 0) (.slice none 0 0) 73
  simp only [World.size_alloc] at r1
  have X := hidden x1
  have R := hidden r1
  have B := hidden (keepB bA bC)
  have HM := hidden (hM.keep B.out)
  have I1 := hidden (h1.keep B.out)
  have I2 := hidden (h2.keep B.out)
  have N1 := hidden hx1
  have N2 := hidden hx2
  have HL := hidden hm
  obtain ⟨l1, hl1⟩ : ∃ l1, l1 = putL M L1 m1 := ⟨_, rfl⟩
  obtain ⟨l2, hl2⟩ : ∃ l2, l2 = putL M L2 m2 := ⟨_, rfl⟩
  have E1 := hidden hl1
  have E2 := hidden hl2
  rw [← hl1, ← hl2]
  clear bA bC x1 r1 h1 h2 hM hx1 hx2 hm hl1 hl2
  have x0 := X.out.c0
  go_enter Try.func39, Try.ntmps39
  go_wp2_with fail
  with_reducible refine (putIn_any _ _ M _ _ _ _ L1 _ HM.out I1.out hm1.1 hm1.2 N1.out HL.out).mono ?_
  rintro e w1 ⟨ha, hb⟩
  rw [← E1.out] at ha
  have hr := R.out.blk
  have hs := hb.size
  replace X := hidden (X.out.keep hb)
  replace R := hidden (R.out.keep hb)
  replace B := hidden (keepB B.out hb)
  replace HM := hidden (HM.out.keep hb)
  replace I2 := hidden (I2.out.keep hb)
  clear hb x0 I1
  rcases listOr ha with ⟨hlen, rfl⟩ | ⟨hlen, g1, d1, rfl, hg1, ho1⟩
  · clear ha
    have bT := alloc_below w1 (.cells #[.int .i64 2, .slice none 0 0] 111)
    have t0 := (Two.new w1 (.int .i64 2) (.slice none 0 0) 111).c0
    obtain ⟨_, q0, q1, q2, f0, f1, f2⟩ := R.out.keep bT
    have BB := hidden (keepB B.out bT)
    clear bT
    go_wp2
    exact bodyPost_ret (v := .agg #[.int .i64 2, .slice none 0 0, .slice none 0 0]) (by simp [results, Try.results39, go_sem, q0, q1, q2]) rfl ⟨Or.inl ⟨Or.inl hlen, rfl⟩, ((BB.out.setCell (by simp) _).setCell (by simp) _).setCell (by simp) _⟩
  · clear ha
    have bT := alloc_below w1 (.cells #[.int .i64 0, .slice (some ⟨g1, 0, none⟩) l1.length d1] 111)
    have T1 := hidden (Two.new w1 (.int .i64 0) (.slice (some ⟨g1, 0, none⟩) l1.length d1) 111)
    have O1 := hidden (ho1.keep bT)
    replace X := hidden (X.out.keep bT)
    replace R := hidden (R.out.keep bT)
    replace B := hidden (keepB B.out bT)
    replace HM := hidden (HM.out.keep bT)
    replace I2 := hidden (I2.out.keep bT)
    have LG := hidden (show g1 < w1.heap.size from ho1.lt)
    have t0 := T1.out.c0
    have x1 := X.out.c1
    clear bT ho1
    go_wp2_with fail
    with_reducible refine (putIn_any _ _ M _ _ _ _ L2 _ HM.out I2.out hm2.1 hm2.2 N2.out HL.out).mono ?_
    rintro e w2 ⟨ha, hb⟩
    rw [← E2.out] at ha
    have hs2 := hb.size
    replace R := hidden (R.out.keep hb)
    replace B := hidden (keepB B.out hb)
    replace O1 := hidden (O1.out.keep hb)
    replace T1 := hidden (T1.out.keep hb)
    clear hb t0 x1 I2 HM X
    rcases listOr ha with ⟨hlen2, rfl⟩ | ⟨hlen2, g2, d2, rfl, hg2, ho2⟩
    · clear ha
      have bT := alloc_below w2 (.cells #[.int .i64 2, .slice none 0 0] 111)
      have t0 := (Two.new w2 (.int .i64 2) (.slice none 0 0) 111).c0
      obtain ⟨_, q0, q1, q2, f0, f1, f2⟩ := R.out.keep bT
      have BB := hidden (keepB B.out bT)
      clear bT
      go_wp2
      exact bodyPost_ret (v := .agg #[.int .i64 2, .slice none 0 0, .slice none 0 0]) (by simp [results, Try.results39, go_sem, q0, q1, q2]) rfl ⟨Or.inl ⟨Or.inr hlen2, rfl⟩, ((BB.out.setCell (by simp) _).setCell (by simp) _).setCell (by simp) _⟩
    · clear ha
      have bT := alloc_below w2 (.cells #[.int .i64 0, .slice (some ⟨g2, 0, none⟩) l2.length d2] 111)
      have T2 := Two.new w2 (.int .i64 0) (.slice (some ⟨g2, 0, none⟩) l2.length d2) 111
      obtain ⟨_, q0, q1, q2, f0, f1, f2⟩ := R.out.keep bT
      have BB := hidden (keepB B.out bT)
      have P1 := hidden (O1.out.keep bT)
      have P2 := hidden (ho2.keep bT)
      have t0 := T2.c0
      have t1 := T2.c1
      have s1 := (T1.out.keep bT).c1
      have HSS := hidden (show w.heap.size + 1 < g1 ∧ g1 < g2 from by simp at *; have := LG.out; omega)
      clear bT T2 ho2
      go_wp2
      exact bodyPost_ret (v := .agg #[.int .i64 0, .slice (some ⟨g1, 0, none⟩) l1.length d1, .slice (some ⟨g2, 0, none⟩) l2.length d2]) (by simp [results, Try.results39, go_sem, q0, q1, q2]) rfl ⟨Or.inr ⟨hlen, hlen2, g1, d1, g2, d2, rfl, by have := HSS.out; omega, HSS.out.2, (((P1.out.other _ _ (by have := HSS.out; simp; omega)).other _ _ (by have := HSS.out; simp; omega)).other _ _ (by have := HSS.out; simp; omega)).base (by have := HSS.out; omega), (((P2.out.other _ _ (by have := HSS.out; simp; omega)).other _ _ (by have := HSS.out; simp; omega)).other _ _ (by have := HSS.out; simp; omega)).base (by have := HSS.out; omega)⟩, ((BB.out.setCell (by simp) _).setCell (by simp) _).setCell (by simp) _⟩

end Go.Proofs.Ytenlogljpgdbpaa

/- Contracts: lists of equations: how great they are, their copies and their comparison. -/
namespace Go.Proofs.Ytenlogljpgdbpaa
open Go.RowKit

/-- The equations of a list: how long the sides are, and their nodes. -/
structure EqL where
  m1 : Nat → Nat
  L1 : Nat → Nat → Int
  m2 : Nat → Nat
  L2 : Nat → Nat → Int

/-- Equations that came in, in a row. -/
structure RowE (w : World) (b off n : Nat) (D : EqL) : Prop where
  blk : 0 < n → b < w.heap.size
  row : ∀ i, i < n → ∃ p1 c1 p2 c2, w.cell? ⟨b, off + i * 2, none⟩ = some (.slice p1 (D.m1 i) c1) ∧ w.cell? ⟨b, off + i * 2 + 1, none⟩ = some (.slice p2 (D.m2 i) c2) ∧ SrcI w p1 (D.m1 i) (D.L1 i) ∧ SrcI w p2 (D.m2 i) (D.L2 i) ∧ D.m1 i ≤ maxLen ∧ D.m2 i ≤ maxLen

theorem RowE.keep {w w' : World} {b off n : Nat} {D : EqL} (h : RowE w b off n D) (hb : Below w.heap.size w w') : RowE w' b off n D :=
  ⟨fun h0 => Nat.lt_of_lt_of_le (h.blk h0) hb.size, fun i hi => by
    obtain ⟨p1, c1, p2, c2, h1, h2, h3, h4, h5⟩ := h.row i hi
    have hk := h.blk (by omega)
    exact ⟨p1, c1, p2, c2, by rw [(bcell hb).1 _ _ hk]; exact h1, by rw [(bcell hb).1 _ _ hk]; exact h2, h3.keep hb, h4.keep hb, h5⟩⟩

/-- What came in: no equation, or a row of them. -/
def SrcE (w : World) (p : Option Addr) (n : Nat) (D : EqL) : Prop :=
  n ≤ maxLen ∧ (n = 0 ∨ ∃ b off, p = some ⟨b, off, none⟩ ∧ RowE w b off n D)

theorem SrcE.keep {w w' : World} {p : Option Addr} {n : Nat} {D : EqL} (h : SrcE w p n D) (hb : Below w.heap.size w w') : SrcE w' p n D :=
  ⟨h.1, h.2.imp id fun ⟨b, off, hp, hs⟩ => ⟨b, off, hp, hs.keep hb⟩⟩

/-- Copies of equations, in a row. -/
structure Eqs (w : World) (b off n : Nat) (D : EqL) : Prop where
  blk : 0 < n → b < w.heap.size
  row : ∀ i, i < n → ∃ g1 o1 c1 g2 o2 c2, w.cell? ⟨b, off + i * 2, none⟩ = some (.slice (some ⟨g1, o1, none⟩) (D.m1 i) c1) ∧ w.cell? ⟨b, off + i * 2 + 1, none⟩ = some (.slice (some ⟨g2, o2, none⟩) (D.m2 i) c2) ∧ Ints w g1 o1 (D.m1 i) (D.L1 i) ∧ Ints w g2 o2 (D.m2 i) (D.L2 i)

theorem Eqs.keep {w w' : World} {b off n : Nat} {D : EqL} (h : Eqs w b off n D) (hb : Below w.heap.size w w') : Eqs w' b off n D :=
  ⟨fun h0 => Nat.lt_of_lt_of_le (h.blk h0) hb.size, fun i hi => by
    obtain ⟨g1, o1, c1, g2, o2, c2, h1, h2, h3, h4⟩ := h.row i hi
    have hk := h.blk (by omega)
    exact ⟨g1, o1, c1, g2, o2, c2, by rw [(bcell hb).1 _ _ hk]; exact h1, by rw [(bcell hb).1 _ _ hk]; exact h2, h3.keep hb, h4.keep hb⟩⟩

/-- What a law copies. -/
structure KeptE (n : Nat) (D : EqL) : Prop where
  most : n ≤ 1048576
  m1 : ∀ i, i < n → D.m1 i ≤ 1048576
  m2 : ∀ i, i < n → D.m2 i ≤ 1048576

theorem Ints.other {w : World} {b off n : Nat} {L : Nat → Int} (h : Ints w b off n L) (a : Addr) (v : Value) (hne : b ≠ a.block) : Ints (w.setCell a v) b off n L :=
  ⟨fun h0 => by simpa using h.blk h0, fun i hi => by rw [World.cell?_setCell_other _ _ _ _ (by intro e; exact hne (by rw [e]))]; exact h.cell i hi⟩

/-- A row of copies in memory of its own, of which the first k are known. -/
def OwnE (w : World) (B g n : Nat) (D : EqL) (k : Nat) : Prop :=
  ∃ xs, w.ownsRow B 61 2 (.slice (some ⟨g, 0, none⟩) n n) n xs ∧ ∀ i, i < k → ∃ g1 g2, xs[i * 2]? = some (.slice (some ⟨g1, 0, none⟩) (D.m1 i) (D.m1 i)) ∧ xs[i * 2 + 1]? = some (.slice (some ⟨g2, 0, none⟩) (D.m2 i) (D.m2 i)) ∧ g < g1 ∧ g < g2 ∧ Ints w g1 0 (D.m1 i) (D.L1 i) ∧ Ints w g2 0 (D.m2 i) (D.L2 i)

theorem OwnE.lt {w : World} {B g n : Nat} {D : EqL} {k : Nat} (h : OwnE w B g n D k) : g < w.heap.size := by
  obtain ⟨xs, ho, _⟩ := h; exact (ho.lt g rfl).2

theorem OwnE.keep {w w' : World} {B g n : Nat} {D : EqL} {k : Nat} (h : OwnE w B g n D k) (hb : Below w.heap.size w w') : OwnE w' B g n D k := by
  have hl := h.lt
  obtain ⟨xs, ho, hx⟩ := h
  refine ⟨xs, ownsRow_later ho hb hl, fun i hi => ?_⟩
  obtain ⟨g1, g2, a1, a2, a3, a4, a5, a6⟩ := hx i hi
  exact ⟨g1, g2, a1, a2, a3, a4, a5.keep hb, a6.keep hb⟩

theorem OwnE.eqs {w : World} {B g n : Nat} {D : EqL} (h : OwnE w B g n D n) : Eqs w g 0 n D := by
  have hl := h.lt
  obtain ⟨xs, ho, hx⟩ := h
  refine ⟨fun _ => hl, fun i hi => ?_⟩
  obtain ⟨g1, g2, a1, a2, _, _, a5, a6⟩ := hx i hi
  exact ⟨g1, 0, _, g2, 0, _, by rw [Nat.zero_add, ho.cellAt _ (by omega)]; exact a1, by rw [Nat.zero_add, ho.cellAt _ (by omega)]; exact a2, a5, a6⟩

theorem OwnE.put {w : World} {B g n : Nat} {D : EqL} {k : Nat} (h : OwnE w B g n D k) (hk : k < n) {g1 g2 : Nat} (l1 : g < g1) (l2 : g < g2) (i1 : Ints w g1 0 (D.m1 k) (D.L1 k)) (i2 : Ints w g2 0 (D.m2 k) (D.L2 k)) :
    (∃ u0, w.cell? ⟨g, 0 + k * 2, none⟩ = some u0) ∧ (∃ u1, (w.setCell ⟨g, 0 + k * 2, none⟩ (.slice (some ⟨g1, 0, none⟩) (D.m1 k) (D.m1 k))).cell? ⟨g, 0 + k * 2 + 1, none⟩ = some u1) ∧
    w.frozen? ⟨g, 0 + k * 2, none⟩ = false ∧ (w.setCell ⟨g, 0 + k * 2, none⟩ (.slice (some ⟨g1, 0, none⟩) (D.m1 k) (D.m1 k))).frozen? ⟨g, 0 + k * 2 + 1, none⟩ = false ∧
    OwnE ((w.setCell ⟨g, 0 + k * 2, none⟩ (.slice (some ⟨g1, 0, none⟩) (D.m1 k) (D.m1 k))).setCell ⟨g, 0 + k * 2 + 1, none⟩ (.slice (some ⟨g2, 0, none⟩) (D.m2 k) (D.m2 k))) B g n D (k + 1) ∧
    w.grownBy ((w.setCell ⟨g, 0 + k * 2, none⟩ (.slice (some ⟨g1, 0, none⟩) (D.m1 k) (D.m1 k))).setCell ⟨g, 0 + k * 2 + 1, none⟩ (.slice (some ⟨g2, 0, none⟩) (D.m2 k) (D.m2 k))) (some g) := by
  obtain ⟨xs, ho, hx⟩ := h
  rw [Nat.zero_add]
  obtain ⟨o1, e1⟩ := ho.stored (k * 2) (.slice (some ⟨g1, 0, none⟩) (D.m1 k) (D.m1 k))
  obtain ⟨o2, e2⟩ := o1.stored (k * 2 + 1) (.slice (some ⟨g2, 0, none⟩) (D.m2 k) (D.m2 k))
  have hl : xs.length = n * 2 := ho.1
  refine ⟨⟨_, (ho.cellAt (k * 2) (by omega)).trans (List.getElem?_eq_getElem (by omega))⟩, ⟨_, (o1.cellAt (k * 2 + 1) (by omega)).trans (List.getElem?_eq_getElem (by simp; omega))⟩,
    ho.frozenAt _, o1.frozenAt _, ⟨_, o2, fun i hi => ?_⟩, ⟨e2.os.trans e1.os, e2.tape.trans e1.tape, e2.output.trans e1.output, Nat.le_trans e1.size e2.size, fun j hj hr => (e2.block j (Nat.lt_of_lt_of_le hj e1.size) hr).trans (e1.block j hj hr)⟩⟩
  by_cases e : i = k
  · subst e
    refine ⟨g1, g2, ?_, ?_, l1, l2, (i1.other _ _ (by simp; omega)).other _ _ (by simp; omega), (i2.other _ _ (by simp; omega)).other _ _ (by simp; omega)⟩
    · rw [List.getElem?_set_ne (by omega), List.getElem?_set_self (by omega)]
    · rw [List.getElem?_set_self (by simp; omega)]
  · obtain ⟨h1, h2, a1, a2, a3, a4, a5, a6⟩ := hx i (by omega)
    refine ⟨h1, h2, ?_, ?_, a3, a4, (a5.other _ _ (by simp; omega)).other _ _ (by simp; omega), (a6.other _ _ (by simp; omega)).other _ _ (by simp; omega)⟩
    · rw [List.getElem?_set_ne (by omega), List.getElem?_set_ne (by omega)]; exact a1
    · rw [List.getElem?_set_ne (by omega), List.getElem?_set_ne (by omega)]; exact a2

set_option maxRecDepth 20000 in
theorem makeEqs (w : World) (n : Nat) (hn : n ≤ 1048576) : ∃ w', (Instr.makeSlice 71 (.int .i64 (n : Int)) (.int .i64 (n : Int))).run Try.prog w = .ok (.slice (some ⟨w.heap.size, 0, none⟩) n n) w' ∧
      w'.ownsRow w.heap.size 61 2 (.slice (some ⟨w.heap.size, 0, none⟩) n n) n (madeCells (Value.agg #[.slice none 0 0, .slice none 0 0]).cells (n * 2)).toList ∧ w.grownBy w' none :=
  run_make_full (P := Try.prog) w w.heap.size 71 61 _ (.agg #[.slice none 0 0, .slice none 0 0]) 2 Try.underlying71 rfl rfl rfl .i64 .i64 n (by show 48 * n ≤ _; omega) (by unfold maxLen; omega) (Nat.le_refl _)

end Go.Proofs.Ytenlogljpgdbpaa

/- Contracts: lists of pairs that grow; the model's l6Args: the arguments of two terms, in pairs. -/
namespace Go.Proofs.Ytenlogljpgdbpaa
open Go.RowKit

def fl2 (D : EqL) : LsL := ⟨fun e => if e % 2 = 0 then D.m1 (e / 2) else D.m2 (e / 2), fun e => if e % 2 = 0 then D.L1 (e / 2) else D.L2 (e / 2)⟩

theorem fl2_m0 (D : EqL) (k : Nat) : (fl2 D).m (k * 2) = D.m1 k := by simp [fl2]
theorem fl2_m1 (D : EqL) (k : Nat) : (fl2 D).m (k * 2 + 1) = D.m2 k := by
  have h1 : (k * 2 + 1) % 2 = 1 := by omega
  have h2 : (k * 2 + 1) / 2 = k := by omega
  simp [fl2, h1, h2]
theorem fl2_L0 (D : EqL) (k : Nat) : (fl2 D).L (k * 2) = D.L1 k := by simp [fl2]
theorem fl2_L1 (D : EqL) (k : Nat) : (fl2 D).L (k * 2 + 1) = D.L2 k := by
  have h1 : (k * 2 + 1) % 2 = 1 := by omega
  have h2 : (k * 2 + 1) / 2 = k := by omega
  simp [fl2, h1, h2]

/-- A list of pairs that grows: j of them, in memory of its own. -/
structure GrP (t : TypeId) (w : World) (B : Nat) (v : Value) (j : Nat) (D : EqL) : Prop where
  top : B ≤ w.heap.size
  row : ∃ (xs : List Value) (G : Nat → Nat), w.ownsRow B t 2 v j xs ∧ (∀ e, e < j * 2 → ∃ d, xs[e]? = some (.slice (some ⟨G e, 0, none⟩) ((fl2 D).m e) d) ∧ (fl2 D).m e ≤ d ∧ B ≤ G e ∧ v.ownBlock ≠ some (G e) ∧ OwnI w B (G e) ((fl2 D).m e) d ((fl2 D).L e) ((fl2 D).m e)) ∧ ∀ i i', i < i' → i' < j * 2 → G i < G i'
  slc : v = .slice none 0 0 ∨ ∃ g c, v = .slice (some ⟨g, 0, none⟩) j c
  full : 0 < j → ¬ v = .slice none 0 0

theorem ownsRow_up2 {w w' : World} {B e s n : Nat} {v : Value} {xs : List Value} (h : w.ownsRow B e s v n xs) (hb : Below w.heap.size w w') : w'.ownsRow B e s v n xs := by
  refine ⟨h.1, h.2.imp id ?_⟩
  rintro ⟨g', cap, cur, h1, h2, h3, h4⟩
  exact ⟨g', cap, cur, h1, h2, by rw [hb.block g' (Array.getElem?_eq_some_iff.1 h3).1]; exact h3, h4⟩

theorem GrP.keep {t : TypeId} {w w' : World} {B : Nat} {v : Value} {j : Nat} {D : EqL} (h : GrP t w B v j D) (hb : Below w.heap.size w w') : GrP t w' B v j D := by
  obtain ⟨ht, ⟨xs, G, ho, hx, hm⟩, hs, hf⟩ := h
  refine ⟨Nat.le_trans ht hb.size, ⟨xs, G, ownsRow_up2 ho hb, fun e he => ?_, hm⟩, hs, hf⟩
  obtain ⟨d, a1, a2, a3, a4, a5⟩ := hx e he
  exact ⟨d, a1, a2, a3, a4, a5.keep hb⟩

theorem OwnI.grownV {w w' : World} {B g n c : Nat} {L : Nat → Int} {j : Nat} {row : Option Nat} (h : OwnI w B g n c L j) (hg : w.grownBy w' row) (hne : row ≠ some g) : OwnI w' B g n c L j := by
  obtain ⟨xs, ho, hz⟩ := h
  exact ⟨xs, ho.kept hg (Or.inr (by simp only [Value.ownBlock]; exact fun e => hne e.symm)), hz⟩

/-- One equation more. -/
theorem GrP.put {t : TypeId} {w wa w' : World} {B : Nat} {v : Value} {j : Nat} {D : EqL} (h : GrP t w B v j D) (hb : Below w.heap.size w wa) (hg : wa.grownBy w' v.ownBlock) {g cap g1 d1 g2 d2 B1 B2 : Nat} {xs : List Value} {G : Nat → Nat}
    (hx1 : wa.ownsRow B t 2 v j xs) (hx2 : ∀ e, e < j * 2 → ∃ d, xs[e]? = some (.slice (some ⟨G e, 0, none⟩) ((fl2 D).m e) d) ∧ (fl2 D).m e ≤ d ∧ B ≤ G e ∧ v.ownBlock ≠ some (G e) ∧ G e < w.heap.size ∧ OwnI wa B (G e) ((fl2 D).m e) d ((fl2 D).L e) ((fl2 D).m e)) (hx3 : ∀ i i', i < i' → i' < j * 2 → G i < G i')
    (l1 : w.heap.size ≤ g1) (l12 : g1 < g2) (o1 : OwnI wa B1 g1 (D.m1 j) d1 (D.L1 j) (D.m1 j)) (o2 : OwnI wa B2 g2 (D.m2 j) d2 (D.L2 j) (D.m2 j)) (c1 : D.m1 j ≤ d1) (c2 : D.m2 j ≤ d2)
    (ho : w'.ownsRow B t 2 (.slice (some ⟨g, 0, none⟩) (j + 1) cap) (j + 1) (xs ++ [.slice (some ⟨g1, 0, none⟩) (D.m1 j) d1, .slice (some ⟨g2, 0, none⟩) (D.m2 j) d2])) (hat : v.ownBlock = some g ∨ g = wa.heap.size) :
    GrP t w' B (.slice (some ⟨g, 0, none⟩) (j + 1) cap) (j + 1) D := by
  have hlen : xs.length = j * 2 := hx1.1
  have htop := h.top
  have hbs := hb.size
  have gV : ∀ q, v.ownBlock = some q → q < w.heap.size := fun q hq => by
    obtain ⟨ys, G', h1, _⟩ := h.row
    exact (h1.lt q hq).2
  have l2 := o2.lt
  have l1' := o1.lt
  have hgg : ∀ e, e < w.heap.size → v.ownBlock ≠ some e → g ≠ e := fun e he hne eg => by
    rcases hat with hh | hh
    · exact hne (by rw [hh, eg])
    · omega
  have hg1 : g ≠ g1 ∧ g ≠ g2 := by
    rcases hat with hh | hh
    · have := gV g hh; omega
    · omega
  refine ⟨Nat.le_trans htop (Nat.le_trans hbs hg.size), ⟨_, fun e => if e = j * 2 then g1 else if e = j * 2 + 1 then g2 else G e, ho, fun e he => ?_, fun i i' hij hi => ?_⟩, Or.inr ⟨_, _, rfl⟩, fun _ => by simp⟩
  · by_cases e0 : e = j * 2
    · subst e0
      simp only [if_true]
      rw [fl2_m0, fl2_L0]
      exact ⟨d1, by rw [List.getElem?_append_right (by omega)]; simp [hlen], c1, by omega, by simp only [Value.ownBlock]; intro ee; exact hg1.1 (by simpa using ee), (o1.grownV hg (fun ee => by have := gV g1 ee; omega)).base (by omega)⟩
    · by_cases e1 : e = j * 2 + 1
      · subst e1
        have : ¬ j * 2 + 1 = j * 2 := by omega
        simp only [this, if_false, if_true]
        rw [fl2_m1, fl2_L1]
        exact ⟨d2, by rw [List.getElem?_append_right (by omega)]; simp [hlen], c2, by omega, by simp only [Value.ownBlock]; intro ee; exact hg1.2 (by simpa using ee), (o2.grownV hg (fun ee => by have := gV g2 ee; omega)).base (by omega)⟩
      · obtain ⟨d, a1, a2, a3, a4, a5, a6⟩ := hx2 e (by omega)
        simp only [e0, e1, if_false]
        exact ⟨d, by rw [List.getElem?_append_left (by omega)]; exact a1, a2, a3, by simp only [Value.ownBlock]; intro ee; exact hgg (G e) a5 a4 (by simpa using ee), a6.grownV hg a4⟩
  · have hi0 : i ≠ j * 2 + 1 := by omega
    by_cases b0 : i = j * 2
    · have b1 : i' = j * 2 + 1 := by omega
      have b2 : ¬ j * 2 + 1 = j * 2 := by omega
      simp only [b0, b1, b2, if_true, if_false]; omega
    · simp only [b0, hi0, if_false]
      obtain ⟨_, _, _, _, _, a5, _⟩ := hx2 i (by omega)
      by_cases b1 : i' = j * 2
      · simp only [b1, if_true]; omega
      · by_cases b2 : i' = j * 2 + 1
        · have b3 : ¬ j * 2 + 1 = j * 2 := by omega
          simp only [b2, b3, if_true, if_false]; omega
        · simp only [b1, b2, if_false]; exact hx3 i i' hij (by omega)

theorem two_srcP (W : World) (u v : Value) (t : TypeId) (g : Nat) (hg : g = W.heap.size) : ∀ (j : Nat) (x : Value), [u, v][j]? = some x → (W.alloc (.cells #[u, v] t)).cell? ((⟨g, 0, none⟩ : Addr).add j) = some x := by
  subst hg
  intro j x hj
  match j, hj with
  | 0, hj => simp at hj; subst hj; simp [Addr.add, go_sem]
  | 1, hj => simp at hj; subst hj; simp [Addr.add, go_sem]

/-- Where the k-th argument stands. -/
def agP (a : Nat → Nat) (m k : Nat) : Nat := (skip a m 1 k).getD 0
theorem agP_some {a : Nat → Nat} {m k q : Nat} (h : skip a m 1 k = some q) : agP a m k = q := by rw [agP, h]; rfl

/-- The pairs of arguments of two terms. -/
def agD (A : Nat → Int) (m1 : Nat) (L1 : Nat → Int) (m2 : Nat) (L2 : Nat → Int) : EqL :=
  ⟨fun k => agP (aOf A L1) m1 (k + 1) - agP (aOf A L1) m1 k, fun k i => L1 (agP (aOf A L1) m1 k + i), fun k => agP (aOf A L2) m2 (k + 1) - agP (aOf A L2) m2 k, fun k i => L2 (agP (aOf A L2) m2 k + i)⟩

set_option maxRecDepth 20000 in
set_option maxHeartbeats 12800000 in
theorem l6Args_any (B b off n c b1 o1 m1 c1 b2 o2 m2 c2 j : Nat) (N : Nat → ByteArray) (A L1 L2 : Nat → Int) (w : World) (hd : One w B (.slice (some ⟨b, off, none⟩) n c)) (h : Syms w b off n N A) (h1 : Ints w b1 o1 m1 L1) (h2 : Ints w b2 o2 m2 L2) (hg1 : Trm n A m1 L1) (hg2 : Trm n A m2 L2) (hc1 : m1 ≤ c1) (hc2 : m2 ≤ c2) (hj : j < n) (e1 : L1 0 = j) (e2 : L2 0 = j) :
    Calls Try.prog 73 #[.pointer (some ⟨B, 0, none⟩), .slice (some ⟨b1, o1, none⟩) m1 c1, .slice (some ⟨b2, o2, none⟩) m2 c2] w fun e w' => ∃ v, e = .returned v ∧ GrP 106 w' w.heap.size v (aOf A L1 0) (agD A m1 L1 m2 L2) ∧ Below w.heap.size w w' := by
  have HA := hg1.nods.ar j hj
  have hm1 := hg1.nods.most
  have hm2 := hg2.nods.most
  have hp1 := hg1.pos
  have hp2 := hg2.pos
  have hn6 := hg1.nods.few
  obtain ⟨ar, har⟩ : ∃ ar : Nat, A j = ar := ⟨(A j).toNat, by omega⟩
  have EA := hidden (show aOf A L1 0 = ar by rw [aOf_sym e1, har]; rfl)
  have EA2 := hidden (show aOf A L2 0 = ar by rw [aOf_sym e2, har]; rfl)
  have ar2 : ar ≤ 2 := by omega
  have S1 := hidden (show skip (aOf A L1) m1 1 ar = some m1 by rw [← EA.out, ← skip_one _ hp1]; exact hg1.whole)
  have S2 := hidden (show skip (aOf A L2) m2 1 ar = some m2 by rw [← EA2.out, ← skip_one _ hp2]; exact hg2.whole)
  have c1' := h1.cell 0 hp1
  rw [Nat.add_zero, e1] at c1'
  have c3' := h.arity j hj
  rw [har] at c3'
  have C1 := hidden c1'
  have C3 := hidden c3'
  have D := hidden hd
  have Q := hidden h
  have I1 := hidden h1
  have I2 := hidden h2
  have G1 := hidden hg1.nods
  have G2 := hidden hg2.nods
  have HB1 := hidden (h1.blk (by omega))
  have HBS := hidden (h.blk (by omega))
  rw [EA.out]
  clear HA har e1 e2 hd h h1 h2 hg1 hg2 c1' c3'
  go_enter Try.func73, Try.ntmps73
  go_wp2
  have st : GrP 106 (w.alloc (.cells #[] 106)) w.heap.size (.slice (some ⟨w.heap.size, 0, none⟩) 0 0) 0 (agD A m1 L1 m2 L2) :=
    ⟨by simp, ⟨[], fun _ => 0, World.ownsRow_made w #[] 0 (Nat.le_refl _) (Nat.zero_le _) rfl, fun e he => by omega, fun i i' _ hi => by omega⟩, Or.inr ⟨_, _, rfl⟩, fun hh => by omega⟩
  have HST := hidden st
  clear st
  go_loopw [7, 8, 9, 10] (fun o x y i wr => ∃ (k q1 q2 : Nat), k ≤ ar ∧ q1 ≤ m1 ∧ q2 ≤ m2 ∧ x = .int .i64 (q1 : Int) ∧ y = .int .i64 (q2 : Int) ∧ i = .int .i64 (k : Int) ∧ Hid (skip (aOf A L1) m1 1 k = some q1) ∧ Hid (skip (aOf A L2) m2 1 k = some q2) ∧ Hid (GrP 106 wr w.heap.size o k (agD A m1 L1 m2 L2)) ∧ Hid (Below w.heap.size w wr)) (fun _ _ _ i _ => ar - (intOf i).toNat)
  case atStart => exact ⟨0, 1, 1, Nat.zero_le _, by omega, by omega, rfl, rfl, rfl, hidden (skip_zero _ _ _), hidden (skip_zero _ _ _), HST, hidden (alloc_below _ _)⟩
  case round =>
    clear HST
    obtain ⟨k, q1, q2, hk, hq1, hq2, rfl, rfl, rfl, P1, P2, GR, BL⟩ := hrel
    have cB := (D.out.keep BL.out).c0
    have c1 : wr.cell? ⟨b1, o1, none⟩ = some (.int .i64 (j : Int)) := by rw [(bcell BL.out).1 _ _ HB1.out]; exact C1.out
    have c3 : wr.cell? ⟨b, off + j * 2 + 1, none⟩ = some (.int .i64 (ar : Int)) := by rw [(bcell BL.out).1 _ _ HBS.out]; exact C3.out
    by_cases hlt : k < ar
    · have hkl : (k : Int) < ar := by omega
      go_wp2
      go_cut [25] (fun t wc => t = .bool true ∧ Below wr.heap.size wr wc)
      case first =>
        go_region_held3 (fun wz => wz.cell? ⟨B, 0, none⟩ = some (.slice (some ⟨b, off, none⟩) n c) ∧ wz.cell? ⟨b1, o1, none⟩ = some (.int .i64 (j : Int)) ∧ wz.cell? ⟨b, off + j * 2 + 1, none⟩ = some (.int .i64 (ar : Int))) (first | exact ⟨by assumption, by assumption, by assumption⟩ | go_keep) (fail)
        all_goals (go_wp2_with fail; go_meet)
        all_goals exact ⟨rfl, (Below.refl _ _).drew⟩
      case rest =>
        rename World => w1
        obtain ⟨rfl, hb⟩ := hcut
        have BW1 := hidden hb
        obtain ⟨qa, r1, ha1, ha2, ha3⟩ := skip_arg S1.out hlt
        obtain rfl : q1 = qa := by have := P1.out.symm.trans ha1; simpa using this
        obtain ⟨qb, r2, hb1, hb2, hb3⟩ := skip_arg S2.out hlt
        obtain rfl : q2 = qb := by have := P2.out.symm.trans hb1; simpa using this
        have hl1 := (skip_le ha2).2 (by omega)
        have hl2 := (skip_le hb2).2 (by omega)
        have A2 := hidden ha2
        have A3 := hidden ha3
        have B2 := hidden hb2
        have B3 := hidden hb3
        clear hb ha1 ha2 ha3 hb1 hb2 hb3 cB c1 c3
        go_wp2_with fail
        with_reducible refine (l3Sub_any B b off n c b1 o1 m1 c1 q1 r1 N A L1 _ (D.out.keep (keepB BL.out BW1.out)) (Q.out.keep (keepB BL.out BW1.out)) (I1.out.keep (keepB BL.out BW1.out)) G1.out (by omega) hc1 A2.out).mono ?_
        rintro e w2 ⟨g1, d1, rfl, lg1, ho1, hb⟩
        have BW2 := hidden (keepB BW1.out hb)
        have LW := hidden (And.intro BW1.out.size hb.size)
        have LG1 := hidden (And.intro lg1 ho1.lt)
        have O1 := hidden ho1
        clear hb lg1 ho1
        go_wp2_with fail
        with_reducible refine (l3Sub_any B b off n c b2 o2 m2 c2 q2 r2 N A L2 _ (D.out.keep (keepB BL.out BW2.out)) (Q.out.keep (keepB BL.out BW2.out)) (I2.out.keep (keepB BL.out BW2.out)) G2.out (by omega) hc2 B2.out).mono ?_
        rintro e w3 ⟨g2, d2, rfl, lg2, ho2, hb⟩
        have BW3 := hidden (keepB BW2.out hb)
        have P1' := hidden (O1.out.keep hb)
        have HGG := hidden (show wr.heap.size ≤ g1 ∧ g1 < g2 from by have := LW.out; have := LG1.out; omega)
        have OG1 := P1'.out
        have OG2 := ho2
        have K1 := hidden (show r1 - q1 ≤ d1 from by obtain ⟨xs, hh, _⟩ := OG1; rcases hh.2 with ⟨_, h0⟩ | ⟨g', cap, cur, hv, _, hgg, hc, _⟩; exact (by omega); injection hv with h1 h2 h3; omega)
        have K2 := hidden (show r2 - q2 ≤ d2 from by obtain ⟨xs, hh, _⟩ := OG2; rcases hh.2 with ⟨_, h0⟩ | ⟨g', cap, cur, hv, _, hgg, hc, _⟩; exact (by omega); injection hv with h1 h2 h3; omega)
        have P2' := hidden ho2
        have HD1 := hidden (show (agD A m1 L1 m2 L2).m1 k = r1 - q1 ∧ (agD A m1 L1 m2 L2).L1 k = fun i => L1 (q1 + i) by simp only [agD, agP_some A3.out, agP_some P1.out]; exact ⟨trivial, trivial⟩)
        have HD2 := hidden (show (agD A m1 L1 m2 L2).m2 k = r2 - q2 ∧ (agD A m1 L1 m2 L2).L2 k = fun i => L2 (q2 + i) by simp only [agD, agP_some B3.out, agP_some P2.out]; exact ⟨trivial, trivial⟩)
        obtain ⟨x1, hx1'⟩ : ∃ x1, x1 = r1 - q1 := ⟨_, rfl⟩
        obtain ⟨x2, hx2'⟩ : ∃ x2, x2 = r2 - q2 := ⟨_, rfl⟩
        have X1 := hidden (show q1 + x1 = r1 by omega)
        have X2 := hidden (show q2 + x2 = r2 by omega)
        have hx24 : x1 ≤ 24 ∧ x2 ≤ 24 := by omega
        rw [← hx1'] at HD1 K1 P1' ⊢
        rw [← hx2'] at HD2 K2 P2' ⊢
        obtain ⟨xs, G, hx1, hx2, hx3⟩ := GR.out.row
        have bB := keepB BW3.out (alloc_below w3 (.cells #[.slice (some ⟨g1, 0, none⟩) x1 d1, .slice (some ⟨g2, 0, none⟩) x2 d2] 106))
        have XO := hidden (ownsRow_up2 hx1 bB)
        have HX2 := hidden hx2
        have HX3 := hidden hx3
        have BB := hidden bB
        have hws := BL.out.size
        have htop := GR.out.top
        have hbsz := bB.size
        clear hx1 hx2 hx3 bB OG1 OG2 lg2 ho2 hb LG1 hx1' hx2' O1 LW
        go_wp2_with (at_builtin; refine (fun h => h trivial : (True → _) → _) ?_)
        intro _
        refine wpList_append_lies _ rfl _ _ 107 rfl w.heap.size 106 _ (.agg #[.slice none 0 0, .slice none 0 0]) 2 48 Try.underlying107 rfl rfl rfl rfl rfl (by decide) _ k xs rfl XO.out ⟨_, 0, none⟩ 1 1 [.slice (some ⟨g1, 0, none⟩) x1 d1, .slice (some ⟨g2, 0, none⟩) x2 d2] rfl rfl (two_srcP _ _ _ _ _ (by simp)) (by intro u hu; simp at hu; rcases hu with rfl | rfl <;> rfl) (by decide) (by unfold maxLen; omega) (by omega) (by simp at hbsz ⊢; omega) _ rfl ?_
        intro g6 d6 w6 hown hgrow hat hlt6
        replace hgrow : World.grownBy _ w6 u7.ownBlock := hgrow
        replace hat : u7.ownBlock = some g6 ∨ _ := hat
        have NEW := hidden (GR.out.put BB.out hgrow XO.out (fun e he => by
          obtain ⟨d, a1, a2, a3, a4, a5⟩ := HX2.out e he
          exact ⟨d, a1, a2, a3, a4, a5.lt, a5.keep BB.out⟩) HX3.out HGG.out.1 HGG.out.2 (d1 := d1) (d2 := d2) (by rw [HD1.out.1, HD1.out.2]; exact P1'.out.keep (alloc_below _ _)) (by rw [HD2.out.1, HD2.out.2]; exact P2'.out.keep (alloc_below _ _)) (by rw [HD1.out.1]; exact K1.out) (by rw [HD2.out.1]; exact K2.out) (by rw [HD1.out.1, HD2.out.1]; exact hown) (by rcases hat with hh | hh; exact Or.inl hh; exact Or.inr (by rw [hh]; try simp)))
        have hbq := keepB BL.out BB.out
        have HB6 := hidden (hbq.grown hgrow hbq.size (fun z hz => by have := (XO.out.lt z hz).1; omega))
        clear hown hgrow hat hlt6 hbq XO HX2 HX3 BB GR BL hbsz
        go_wp2
        go_roundw
        case rel => exact ⟨k + 1, r1, r2, by omega, by omega, by omega, by have := X1.out; go_num, by have := X2.out; go_num, by go_num, A3, B3, NEW, HB6⟩
        case measure => simp [intOf]; omega
    · obtain rfl : k = ar := by omega
      have hkl : ¬ (k : Int) < k := by omega
      go_wp2
      go_cut [25] (fun t wc => t = .bool false ∧ Below wr.heap.size wr wc)
      case first =>
        go_region_held3 (fun wz => wz.cell? ⟨B, 0, none⟩ = some (.slice (some ⟨b, off, none⟩) n c) ∧ wz.cell? ⟨b1, o1, none⟩ = some (.int .i64 (j : Int)) ∧ wz.cell? ⟨b, off + j * 2 + 1, none⟩ = some (.int .i64 (k : Int))) (first | exact ⟨by assumption, by assumption, by assumption⟩ | go_keep) (fail)
        all_goals (go_wp2_with fail; go_meet)
        all_goals exact ⟨rfl, (Below.refl _ _).drew⟩
      case rest =>
        rename World => w1
        obtain ⟨rfl, hb⟩ := hcut
        have BW1 := hidden hb
        clear hb cB c1 c3
        go_wp2
        go_ret
        exact ⟨_, rfl, GR.out.keep BW1.out, keepB BL.out BW1.out⟩

end Go.Proofs.Ytenlogljpgdbpaa

/- Contracts: a binding in which a variable is put; lists of lists that grow; l1Ints of nothing. -/
namespace Go.Proofs.Ytenlogljpgdbpaa
open Go.RowKit

/-- What is bound, with what M1 tells in its terms. -/
def ovM (M1 M : Nat → List Int) : Nat → List Int := fun x => if M x = [] then [] else putL M1 (fnL (M x)) (M x).length

theorem ovM_ne {M1 M : Nat → List Int} (h1 : ∀ v, (M1 v).length ≤ 24) (x : Nat) : ovM M1 M x = [] ↔ M x = [] := by
  unfold ovM
  by_cases h : M x = []
  · simp [h]
  · rw [if_neg h]
    have h2 := (putL_len h1 (fnL (M x)) (M x).length).1
    have h3 : 0 < (M x).length := List.length_pos_iff.2 h
    constructor
    · intro e; rw [e] at h2; simp at h2; omega
    · intro e; exact absurd e h

theorem ovM_has {M1 M : Nat → List Int} (h1 : ∀ v, (M1 v).length ≤ 24) : hasB (ovM M1 M) = hasB M := by
  funext x
  have h := ovM_ne (M := M) h1 x
  exact Bool.eq_iff_iff.2 (by rw [hasB_true, hasB_true]; exact not_congr h)

theorem ovM_cnL {M1 M : Nat → List Int} (h1 : ∀ v, (M1 v).length ≤ 24) (k : Nat) : cnL (ovM M1 M) k = cnL M k := by
  unfold cnL; rw [ovM_has h1]
theorem ovM_cR {M1 M : Nat → List Int} (h1 : ∀ v, (M1 v).length ≤ 24) : cR (ovM M1 M) = cR M := by unfold cR; rw [ovM_cnL h1]
theorem ovM_cV {M1 M : Nat → List Int} (h1 : ∀ v, (M1 v).length ≤ 24) (i : Nat) : cV (ovM M1 M) i = cV M i := by unfold cV; rw [ovM_cnL h1]

/-- The terms of what is bound, one by one. -/
theorem ovM_at {M1 M : Nat → List Int} (h1 : ∀ v, (M1 v).length ≤ 24) {i : Nat} (hi : i < cR M) : (cnD (ovM M1 M) 12).m i = (putL M1 ((cnD M 12).L i) ((cnD M 12).m i)).length ∧ (cnD (ovM M1 M) 12).L i = fun j => (putL M1 ((cnD M 12).L i) ((cnD M 12).m i)).getD j 0 := by
  obtain ⟨x, hx, hx12, hne⟩ := cV_get hi
  have hx' : cV (ovM M1 M) i = x := by rw [ovM_cV h1]; exact hx
  have a := cnD_m hx
  have b := cnD_m hx'
  have e : ovM M1 M x = putL M1 (fnL (M x)) (M x).length := by unfold ovM; rw [if_neg hne]
  rw [b.1, b.2, a.1, a.2, e]
  exact ⟨rfl, rfl⟩

set_option maxRecDepth 20000 in
set_option maxHeartbeats 800000 in
theorem l1Ints_nil (c : Nat) (w : World) :
    Calls Try.prog 71 #[.slice none 0 c] w fun e w' => ∃ p d, e = .returned (.slice p 0 d) ∧ Below w.heap.size w w' := by
  go_enter Try.func71, Try.ntmps71
  go_wp2
  go_ret
  exact ⟨_, _, rfl, alloc_below _ _⟩

/-- A list of lists that grows: k of them, in memory of its own. -/
structure GrM (w : World) (B : Nat) (v : Value) (k : Nat) (D : LsL) : Prop where
  top : B ≤ w.heap.size
  row : ∃ (xs : List Value) (G : Nat → Nat), w.ownsRow B 25 1 v k xs ∧ ∀ e, e < k → ∃ d, xs[e]? = some (.slice (some ⟨G e, 0, none⟩) (D.m e) d) ∧ D.m e ≤ d ∧ B ≤ G e ∧ v.ownBlock ≠ some (G e) ∧ OwnI w B (G e) (D.m e) d (D.L e) (D.m e)
  slc : (k = 0 ∧ v = .slice none 0 0) ∨ ∃ g c, v = .slice (some ⟨g, 0, none⟩) k c

theorem GrM.keep {w w' : World} {B : Nat} {v : Value} {k : Nat} {D : LsL} (h : GrM w B v k D) (hb : Below w.heap.size w w') : GrM w' B v k D := by
  obtain ⟨ht, ⟨xs, G, ho, hx⟩, hs⟩ := h
  refine ⟨Nat.le_trans ht hb.size, ⟨xs, G, ownsRow_up2 ho hb, fun e he => ?_⟩, hs⟩
  obtain ⟨d, a1, a2, a3, a4, a5⟩ := hx e he
  exact ⟨d, a1, a2, a3, a4, a5.keep hb⟩

theorem GrM.nil (w : World) (B : Nat) (D : LsL) (hB : B ≤ w.heap.size) : GrM w B (.slice none 0 0) 0 D :=
  ⟨hB, ⟨[], fun _ => 0, World.ownsRow_nil _ _ _ _, fun e he => by omega⟩, Or.inl ⟨rfl, rfl⟩⟩

theorem GrM.block {w : World} {B : Nat} {v : Value} {k : Nat} {D : LsL} (h : GrM w B v k D) : ∀ q, v.ownBlock = some q → B ≤ q ∧ q < w.heap.size := fun q hq => by
  obtain ⟨xs, G, ho, _⟩ := h.row
  exact ho.lt q hq

/-- A cell below is written. -/
theorem GrM.setLow {w : World} {B : Nat} {v : Value} {k : Nat} {D : LsL} (h : GrM w B v k D) (a : Addr) (u : Value) (ha : a.block < B) : GrM (w.setCell a u) B v k D := by
  obtain ⟨ht, ⟨xs, G, ho, hx⟩, hs⟩ := h
  refine ⟨by simpa using ht, ⟨xs, G, ownsRow_setX ho a u ha, fun e he => ?_⟩, hs⟩
  obtain ⟨d, a1, a2, a3, a4, a5⟩ := hx e he
  exact ⟨d, a1, a2, a3, a4, a5.other a u (by omega)⟩

/-- One list more. -/
theorem GrM.put {w w' : World} {B : Nat} {v : Value} {k : Nat} {D : LsL} (h : GrM w B v k D) (hg : w.grownBy w' v.ownBlock) {g cap g1 d1 B1 : Nat} {xs : List Value} {G : Nat → Nat}
    (hx1 : w.ownsRow B 25 1 v k xs) (hx2 : ∀ e, e < k → ∃ d, xs[e]? = some (.slice (some ⟨G e, 0, none⟩) (D.m e) d) ∧ D.m e ≤ d ∧ B ≤ G e ∧ v.ownBlock ≠ some (G e) ∧ OwnI w B (G e) (D.m e) d (D.L e) (D.m e))
    (l1 : B ≤ g1) (hne : v.ownBlock ≠ some g1) (o1 : OwnI w B1 g1 (D.m k) d1 (D.L k) (D.m k)) (c1 : D.m k ≤ d1)
    (ho : w'.ownsRow B 25 1 (.slice (some ⟨g, 0, none⟩) (k + 1) cap) (k + 1) (xs ++ [.slice (some ⟨g1, 0, none⟩) (D.m k) d1])) (hat : v.ownBlock = some g ∨ g = w.heap.size) :
    GrM w' B (.slice (some ⟨g, 0, none⟩) (k + 1) cap) (k + 1) D := by
  have hlen : xs.length = k := by have := hx1.1; omega
  have hgg : ∀ e, e < w.heap.size → v.ownBlock ≠ some e → g ≠ e := fun e he hn eg => by
    rcases hat with hh | hh
    · exact hn (by rw [hh, eg])
    · omega
  refine ⟨Nat.le_trans h.top hg.size, ⟨_, fun e => if e = k then g1 else G e, ho, fun e he => ?_⟩, Or.inr ⟨_, _, rfl⟩⟩
  by_cases ek : e = k
  · subst ek
    simp only [if_true]
    exact ⟨d1, by rw [List.getElem?_append_right (by omega)]; simp [hlen], c1, l1, by simp only [Value.ownBlock]; intro ee; exact hgg g1 o1.lt hne (by simpa using ee), (o1.grownV hg hne).base l1⟩
  · obtain ⟨d, a1, a2, a3, a4, a5⟩ := hx2 e (by omega)
    simp only [ek, if_false]
    exact ⟨d, by rw [List.getElem?_append_left (by omega)]; exact a1, a2, a3, by simp only [Value.ownBlock]; intro ee; exact hgg (G e) a5.lt a4 (by simpa using ee), a5.grownV hg a4⟩

/-- The row that has grown, as a list of lists. -/
theorem GrM.mats {w : World} {B g k c : Nat} {D : LsL} (h : GrM w B (.slice (some ⟨g, 0, none⟩) k c) k D) : Mats w g 0 k D := by
  obtain ⟨xs, G, ho, hx⟩ := h.row
  refine ⟨fun _ => (ho.lt g rfl).2, fun i hi => ?_⟩
  obtain ⟨d, a1, a2, _, _, a5⟩ := hx i hi
  exact ⟨G i, 0, d, by rw [Nat.zero_add, ho.cellAt _ (by omega)]; exact a1, a5.ints, a2⟩

end Go.Proofs.Ytenlogljpgdbpaa

/- Contracts: how many nodes are a given one: CountOf, as the model and as the program tells it. -/
namespace Go.Proofs.Ytenlogljpgdbpaa
open Go.RowKit

/-- How many of the first k nodes are x. -/
def cntN (T : Nat → Int) (x : Int) : Nat → Nat
  | 0 => 0
  | k + 1 => cntN T x k + (if T k = x then 1 else 0)

theorem cnt_le (T : Nat → Int) (x : Int) : ∀ k, cntN T x k ≤ k
  | 0 => Nat.le_refl _
  | k + 1 => by have := cnt_le T x k; simp only [cntN]; split <;> omega

noncomputable def ctC (n : Nat) (N : Nat → ByteArray) (A : Nat → Int) (m : Nat) (T : Nat → Int) (x : Int) : Int := if termF n N A m T = 0 then (if nodeB x n = true then 0 else 3) else termF n N A m T
noncomputable def ctV (n : Nat) (N : Nat → ByteArray) (A : Nat → Int) (m : Nat) (T : Nat → Int) (x : Int) : Int := if termF n N A m T = 0 ∧ nodeB x n = true then (cntN T x m : Int) else 0

section
variable {n : Nat} {N : Nat → ByteArray} {A : Nat → Int} {m : Nat} {T : Nat → Int} {x : Int}
theorem ct_fault (h : termF n N A m T ≠ 0) : ctC n N A m T x = termF n N A m T ∧ ctV n N A m T x = 0 := by simp [ctC, ctV, h]
theorem ct_range (h : termF n N A m T = 0) (hx : nodeB x n = false) : ctC n N A m T x = 3 ∧ ctV n N A m T x = 0 := by simp [ctC, ctV, h, hx]
theorem ct_ok (h : termF n N A m T = 0) (hx : nodeB x n = true) : ctC n N A m T x = 0 ∧ ctV n N A m T x = (cntN T x m : Int) := by simp [ctC, ctV, h, hx]
end

set_option maxRecDepth 20000 in
set_option maxHeartbeats 400000 in
theorem l3Count_any (b off m c : Nat) (T : Nat → Int) (x : Int) (w : World) (h : Ints w b off m T) (hm : m ≤ 1048576) :
    Calls Try.prog 92 #[.slice (some ⟨b, off, none⟩) m c, .int .i64 x] w fun e w' => e = .returned (.int .i64 (cntN T x m)) ∧ Below w.heap.size w w' := by
  go_enter Try.func92, Try.ntmps92
  go_wp2
  go_loopw [5, 6] (fun z i wr => ∃ k r : Nat, k ≤ m ∧ i = .int .i64 k ∧ z = .int .i64 r ∧ r ≤ k ∧ Hid (r = cntN T x k) ∧ ∃ q, wr = w.drewN q) (fun _ i _ => m - (intOf i).toNat)
  case atStart => exact ⟨0, 0, Nat.zero_le _, rfl, rfl, Nat.zero_le _, hidden rfl, 0, rfl⟩
  case round =>
    obtain ⟨k, r, hk, rfl, rfl, hr, HE, q, rfl⟩ := hrel
    by_cases hlt : k < m
    · have c1 := h.cell k hlt
      by_cases he : T k = x
      · have HR := hidden (show r + 1 = cntN T x (k + 1) by simp only [cntN, if_pos he]; rw [HE.out])
        rw [he] at c1
        clear he HE
        go_wp2
        go_roundw
        case rel => exact ⟨k + 1, r + 1, by omega, by go_num, by go_num, by omega, HR, _, rfl⟩
        case measure => simp [intOf]; omega
      · have he' : (T k == x) = false := by simpa using he
        have HR := hidden (show r = cntN T x (k + 1) by simp only [cntN, if_neg he]; rw [HE.out]; rfl)
        clear he HE
        go_wp2
        go_roundw
        case rel => exact ⟨k + 1, r, by omega, by go_num, rfl, by omega, HR, _, rfl⟩
        case measure => simp [intOf]; omega
    · obtain rfl : m = k := by omega
      go_wp2
      go_ret
      exact ⟨by rw [← HE.out]; rfl, below_drewN (Below.refl _ _) _⟩

end Go.Proofs.Ytenlogljpgdbpaa

/- Contract: the model's l6Bind: one variable more is bound. -/
namespace Go.Proofs.Ytenlogljpgdbpaa
open Go.RowKit

theorem l1Ints_row (p : Option Addr) (k c : Nat) (L : Nat → Int) (w : World) (hz : k = 0 → p = none) (h : 0 < k → ∃ b o, p = some ⟨b, o, none⟩ ∧ Ints w b o k L) (hk : k ≤ 1048576) :
    Calls Try.prog 71 #[.slice p k c] w fun e w' => ∃ p' d, e = .returned (.slice p' k d) ∧ (0 < k → ∃ g, p' = some ⟨g, 0, none⟩ ∧ w.heap.size ≤ g ∧ Ints w' g 0 k L) ∧ Below w.heap.size w w' := by
  by_cases h0 : k = 0
  · subst h0
    rw [hz rfl]
    refine (l1Ints_nil c w).mono fun e w' hh => ?_
    obtain ⟨q, d, e1, hb⟩ := hh
    exact ⟨q, d, e1, fun h => by omega, hb⟩
  · obtain ⟨b, o, rfl, hi⟩ := h (by omega)
    refine (l1Ints_any b o k c L w hi hk).mono fun e w' hh => ?_
    obtain ⟨g, d, e1, hg, ho, hb⟩ := hh
    exact ⟨_, d, e1, fun _ => ⟨g, rfl, hg, ho.ints⟩, hb⟩

theorem one_srcV (W : World) (u : Value) (t : TypeId) (g : Nat) (hg : g = W.heap.size) : ∀ (j : Nat) (x : Value), [u][j]? = some x → (W.alloc (.cells #[u] t)).cell? ((⟨g, 0, none⟩ : Addr).add j) = some x := by
  subst hg
  intro j x hj
  match j, hj with
  | 0, hj => simp at hj; subst hj; simp [Addr.add, go_sem]

theorem Own2.grownV {w w' : World} {b : Nat} {x y : Value} {row : Option Nat} (h : Own2 w b x y) (hg : w.grownBy w' row) (hne : row ≠ some b) : Own2 w' b x y := by
  have hb := hg.block b h.two.blk (fun e => hne e.symm)
  exact ⟨⟨Nat.lt_of_lt_of_le h.two.blk hg.size, (World.cell?_of_block (a := ⟨b, 0, none⟩) hb).trans h.two.c0, (World.cell?_of_block (a := ⟨b, 1, none⟩) hb).trans h.two.c1⟩, by rw [World.frozen?_of_block hb]; exact h.f0, by rw [World.frozen?_of_block hb]; exact h.f1⟩

/-- What l6Bind answers. -/
def LbAns (w : World) (M : Nat → List Int) (v m : Nat) (T : Nat → Int) (e : Ending) (w' : World) : Prop :=
  (0 < cntN T (-1 - (v : Int)) m ∧ e = .returned (.tuple #[.agg #[.slice none 0 0, .slice none 0 0], .int .i64 4])) ∨
  (cntN T (-1 - (v : Int)) m = 0 ∧ (∃ i, i < cR M ∧ 24 < (cnD (ovM (bdN 1 (onV v) (onD m T)) M) 12).m i) ∧ e = .returned (.tuple #[.agg #[.slice none 0 0, .slice none 0 0], .int .i64 2])) ∨
  (cntN T (-1 - (v : Int)) m = 0 ∧ (∀ i, i < cR M → ¬ 24 < (cnD (ovM (bdN 1 (onV v) (onD m T)) M) 12).m i) ∧ ∃ va ta B X, e = .returned (.tuple #[.agg #[va, ta], .int .i64 0]) ∧ w.heap.size ≤ X ∧ BySt w' B X (updM (ovM (bdN 1 (onV v) (onD m T)) M) v (upto T m)) 12 va ta)

set_option maxRecDepth 20000 in
set_option maxHeartbeats 12800000 in
theorem l6Bind_any (E : Nat) (p1 : Option Addr) (c1 : Nat) (p2 : Option Addr) (c2 : Nat) (M : Nat → List Int) (v b o m c : Nat) (T : Nat → Int) (w : World) (he : Two w E (.slice p1 (cR M) c1) (.slice p2 (cR M) c2)) (hbd : BdAt w p1 c1 p2 c2 M) (hz : cR M = 0 → p1 = none) (hT : Ints w b o m T) (hm : 1 ≤ m ∧ m ≤ 24) (hmc : m ≤ c) (hn : ∀ j, j < m → -12 ≤ T j) (hv : v < 12) (hM0 : M v = []) (hM12 : ∀ x, 12 ≤ x → M x = []) (hl : ∀ x, (M x).length ≤ 24) (hx : ∀ x y, y ∈ M x → -12 ≤ y) :
    Calls Try.prog 72 #[.pointer (some ⟨E, 0, none⟩), .int .i64 (v : Int), .slice (some ⟨b, o, none⟩) m c] w fun e w' => LbAns w M v m T e w' ∧ Below w.heap.size w w' := by
  have bR := alloc_below w (.cells #[.slice none 0 0, .slice none 0 0] 29)
  have R := hidden (Own2.new w (.slice none 0 0) (.slice none 0 0) 29)
  have B := hidden bR
  have HE := hidden (he.keep bR)
  have HBD := hidden (hbd.keep bR)
  have HT := hidden (hT.keep bR)
  have HZ := hidden hz
  have HN := hidden hn
  have HL := hidden hl
  have HX := hidden hx
  have HM0 := hidden hM0
  have HM12 := hidden hM12
  have hr12 := cR_le M
  clear bR he hbd hT hz hn hl hx hM0 hM12
  have hv' : (v : Int) < 12 := by omega
  go_enter Try.func72, Try.ntmps72
  go_wp2_with fail
  with_reducible refine (l3Count_any _ _ _ _ T (-1 - (v : Int)) _ HT.out (by omega)).mono ?_
  rintro e w1 ⟨rfl, hb⟩
  replace R := hidden (R.out.keep hb)
  replace B := hidden (keepB B.out hb)
  replace HE := hidden (HE.out.keep hb)
  replace HBD := hidden (HBD.out.keep hb)
  replace HT := hidden (HT.out.keep hb)
  clear hb
  have hcl := cnt_le T (-1 - (v : Int)) m
  obtain ⟨z, hzz⟩ : ∃ z, z = cntN T (-1 - (v : Int)) m := ⟨_, rfl⟩
  have HC := hidden hzz
  rw [← hzz] at hcl ⊢
  clear hzz
  by_cases h0 : 0 < z
  · have h0' : (0 : Int) < z := by omega
    obtain ⟨⟨_, q0, q1⟩, f0, f1⟩ := id R.out
    go_wp2
    exact bodyPost_ret (v := .tuple #[.agg #[.slice none 0 0, .slice none 0 0], .int .i64 4]) (by simp [results, Try.results72, go_sem, q0, q1]) rfl ⟨Or.inl ⟨by rw [← HC.out]; exact h0, rfl⟩, (B.out.setCell (by simp) _).setCell (by simp) _⟩
  · obtain rfl : z = 0 := by omega
    have HC0 := hidden HC.out.symm
    obtain ⟨M1, hM1⟩ : ∃ M1, M1 = bdN 1 (onV v) (onD m T) := ⟨_, rfl⟩
    have EM1 := hidden hM1
    have HM1L := hidden (show ∀ x, (M1 x).length ≤ 24 from fun x => by rw [hM1]; exact bdM_len (fun i _ => hm.2) (x : Int))
    clear hM1 hcl HC h0
    have b1 := alloc_below w1 (.cells #[.int .i64 (v : Int)] 2)
    have b2 := alloc_below (w1.alloc (.cells #[.int .i64 (v : Int)] 2)) (.cells #[.slice (some ⟨b, o, none⟩) m c] 25)
    have b3 := alloc_below ((w1.alloc (.cells #[.int .i64 (v : Int)] 2)).alloc (.cells #[.slice (some ⟨b, o, none⟩) m c] 25)) (.cells #[.slice (some ⟨w1.heap.size, 0, none⟩) 1 1, .slice (some ⟨w1.heap.size + 1, 0, none⟩) 1 1] 29)
    have bb := keepB (keepB b1 b2) b3
    have x8 := Two.new ((w1.alloc (.cells #[.int .i64 (v : Int)] 2)).alloc (.cells #[.slice (some ⟨b, o, none⟩) m c] 25)) (.slice (some ⟨w1.heap.size, 0, none⟩) 1 1) (.slice (some ⟨w1.heap.size + 1, 0, none⟩) 1 1) 29
    simp only [World.size_alloc] at x8
    obtain ⟨W2, hW2⟩ : ∃ W2, W2 = ((w1.alloc (.cells #[.int .i64 (v : Int)] 2)).alloc (.cells #[.slice (some ⟨b, o, none⟩) m c] 25)).alloc (.cells #[.slice (some ⟨w1.heap.size, 0, none⟩) 1 1, .slice (some ⟨w1.heap.size + 1, 0, none⟩) 1 1] 29) := ⟨_, rfl⟩
    have ONE := hidden (show BnIn W2 (some ⟨w1.heap.size, 0, none⟩) (some ⟨w1.heap.size + 1, 0, none⟩) 1 (onV v) (onD m T) from one_binding (b := b) (o := o) (c := c) (by rw [hW2]; simp [go_sem]) (by rw [hW2]; simp [go_sem]) (by rw [hW2]; exact HT.out.keep bb) hm hmc HN.out hv)
    rw [← hW2] at bb x8
    have X8 := hidden x8
    have B2 := hidden bb
    have hsz : W2.heap.size = w1.heap.size + 1 + 1 + 1 := by rw [hW2]; simp
    have HE2 := hidden (HE.out.keep bb)
    have HBD2 := hidden (HBD.out.keep bb)
    have e0 := HE2.out.c0
    rw [hW2] at e0
    clear b1 b2 b3 bb x8
    go_wp2_with fail
    rw [← hW2]
    clear hW2 e0
    with_reducible refine (l1Ints_row p1 (cR M) c1 (cV M) _ HZ.out (fun h => by
      rcases HBD2.out.rows with h' | ⟨b1, o1, b2, o2, e1, e2, h1, h2⟩
      · omega
      · exact ⟨b1, o1, e1, h1⟩) (by omega)).mono ?_
    rintro e w3 ⟨p9, d9, rfl, hp9, hb⟩
    have LSZ := hidden (show w1.heap.size + 3 ≤ w3.heap.size by have := hb.size; omega)
    have X9 := hidden (Own2.new w3 (.slice p9 (cR M) d9) (.slice none 0 0) 29)
    have HB1 := hidden B2.out.size
    have HBS := hidden B.out.size
    replace X8 := hidden (X8.out.keep hb)
    have O1 := hidden (show Ints w3 w1.heap.size 0 1 (onV v) from by
      rcases (ONE.out.keep hb).vars with h | ⟨b', o', e, h⟩
      · omega
      · simp at e; rw [← e.1, ← e.2] at h; exact h)
    have O2 := hidden (show Mats w3 (w1.heap.size + 1) 0 1 (onD m T) from by
      rcases (ONE.out.keep hb).terms with h | ⟨b', o', e, h⟩
      · omega
      · simp at e; rw [← e.1, ← e.2] at h; exact h)
    have HE3 := hidden (HE2.out.keep hb)
    have HBD3 := hidden (HBD2.out.keep hb)
    have R3 := hidden (R.out.keep (keepB B2.out hb))
    have B3 := hidden (keepB B.out (keepB B2.out hb))
    have HT3 := hidden (HT.out.keep (keepB B2.out hb))
    have HP9 := hidden hp9
    have HON := hidden (show ∀ i, i < 1 → (onD m T).m i ≤ 24 from fun _ _ => hm.2)
    have GM := hidden (GrM.nil (w3.alloc (.cells #[.slice p9 (cR M) d9, .slice none 0 0] 29)) (w3.heap.size + 1) (cnD (ovM M1 M) 12) (by simp))
    have EK := hidden (show ∀ i, i < cR M → (cnD M 12).m i ≤ 24 ∧ (∀ j, j < (cnD M 12).m i → -12 ≤ (cnD M 12).L i j) from fun i hi => by
      obtain ⟨x, hx, _, _⟩ := cV_get hi
      rw [(cnD_m hx).1, (cnD_m hx).2]
      refine ⟨HL.out x, fun j hj => HX.out x _ ?_⟩
      show (M x).getD j 0 ∈ M x
      rw [List.getD_eq_getElem?_getD, List.getElem?_eq_getElem hj]
      exact List.getElem_mem _)
    have b4 := hidden (alloc_below w3 (.cells #[.slice p9 (cR M) d9, .slice none 0 0] 29))
    clear hb hp9 HE HE2 HBD HBD2 R B HT B2 ONE
    go_wp2
    go_loopw [10] (fun i wr => ∃ (k : Nat) (tv : Value), k ≤ cR M ∧ i = .int .i64 (k : Int) ∧ Hid (GrM wr (w3.heap.size + 1) tv k (cnD (ovM M1 M) 12)) ∧ Hid (Own2 wr w3.heap.size (.slice p9 (cR M) d9) tv) ∧ Hid (∀ i, i < k → ¬ 24 < (cnD (ovM M1 M) 12).m i) ∧ Hid (Below w3.heap.size w3 wr)) (fun i _ => cR M - (intOf i).toNat)
    case atStart => exact ⟨0, _, Nat.zero_le _, rfl, GM, X9, hidden (fun i hi => by omega), b4⟩
    case round =>
      clear GM X9 b4
      obtain ⟨k, tv, hk, rfl, GM, X9, HS, BL⟩ := hrel
      have e1 := (HE3.out.keep BL.out).c1
      by_cases hlt : k < cR M
      · have hkl : (k : Int) < cR M := by omega
        obtain ⟨b1, o1, b2, o2, -, rfl, -, hmt⟩ : ∃ b1 o1 b2 o2, p1 = some ⟨b1, o1, none⟩ ∧ p2 = some ⟨b2, o2, none⟩ ∧ Ints w3 b1 o1 (cR M) (cV M) ∧ Mats w3 b2 o2 (cR M) (cnD M 12) := by
          rcases HBD3.out.rows with h | h
          · omega
          · exact h
        obtain ⟨g, og, cc, hcell, hig, hle⟩ := (hmt.keep BL.out).row k hlt
        have IG := hidden hig
        have hek := EK.out k hlt
        have HEK := hidden hek.2
        have hek1 := hek.1
        have HAT := hidden (ovM_at (M := M) HM1L.out hlt)
        clear hmt hig hek
        go_wp2_with fail
        with_reducible refine (l6Apply_any _ _ _ _ _ _ _ _ _ _ _ _ (onV v) (onD m T) ((cnD M 12).L k) _ (X8.out.keep BL.out) (O1.out.keep BL.out) (O2.out.keep BL.out) (by omega) IG.out hek1 HEK.out HON.out).mono ?_
        rintro e w5 ⟨g3, d3, rfl, ho3, hb⟩
        rw [← EM1.out] at ho3 ⊢
        obtain ⟨K3, hK3⟩ : ∃ K3, K3 = (putL M1 ((cnD M 12).L k) ((cnD M 12).m k)).length := ⟨_, rfl⟩
        have O3 := hidden ho3.ownI
        have hg3 := hidden (And.intro ho3.1 ho3.lt)
        rw [← hK3] at O3 HAT ⊢
        clear hK3 ho3
        have B5 := hidden (keepB BL.out hb)
        have X5 := hidden (X9.out.keep hb)
        have G5 := hidden (GM.out.keep hb)
        have R5 := hidden (R3.out.keep B5.out)
        have HTV := hidden (show tv.ownBlock ≠ some g3 from fun e => by have := (GM.out.block g3 e).2; have := hg3.out.1; omega)
        have HGT := hidden GM.out.top
        clear hb e1 hcell IG HEK GM X9
        by_cases h24 : 24 < K3
        · have HBAD := hidden (show ∃ i, i < cR M ∧ 24 < (cnD (ovM M1 M) 12).m i from ⟨k, hlt, by rw [HAT.out.1]; exact h24⟩)
          have h24' : (24 : Int) < K3 := by omega
          obtain ⟨⟨_, q0, q1⟩, f0, f1⟩ := id R5.out
          go_wp2
          exact bodyPost_ret (v := .tuple #[.agg #[.slice none 0 0, .slice none 0 0], .int .i64 2]) (by simp [results, Try.results72, go_sem, q0, q1]) rfl ⟨Or.inr (Or.inl ⟨HC0.out, by rw [← EM1.out]; exact HBAD.out, rfl⟩), ((keepB B3.out B5.out).setCell (by simp) _).setCell (by simp) _⟩
        · have h24' : ¬ (24 : Int) < K3 := by omega
          have HS2 := hidden (show ∀ i, i < k + 1 → ¬ 24 < (cnD (ovM M1 M) 12).m i from fun i hi => by
            by_cases e : i = k
            · rw [e, HAT.out.1]; exact h24
            · exact HS.out i (by omega))
          have K5 := hidden (show K3 ≤ d3 from by obtain ⟨xs, hh, _⟩ := O3.out; rcases hh.2 with ⟨_, h0⟩ | ⟨g', cap, cur, hv, _, hgg, hc, _⟩; exact (by omega); injection hv with h1 h2 h3; omega)
          obtain ⟨xs, G, hx1, hx2⟩ := G5.out.row
          have bE := alloc_below w5 (.cells #[.slice (some ⟨g3, 0, none⟩) K3 d3] 25)
          have XO := hidden (ownsRow_up2 hx1 bE)
          have HX2 := hidden hx2
          have BE := hidden bE
          have y1 := (X5.out.keep bE).two.c1
          have y0 := X5.out.two.c1
          have hws := B5.out.size
          have h5 := bE.size
          have X6' := hidden (X5.out.keep bE)
          have G6 := hidden (G5.out.keep bE)
          clear hx1 hx2 bE
          go_wp2_with (at_builtin; refine (fun h => h trivial : (True → _) → _) ?_)
          intro _
          refine wpList_append_lies _ rfl _ _ 27 rfl (w3.heap.size + 1) 25 _ (.slice none 0 0) 1 24 Try.underlying27 rfl rfl rfl rfl rfl (by decide) _ k xs rfl XO.out ⟨_, 0, none⟩ 1 1 [.slice (some ⟨g3, 0, none⟩) K3 d3] rfl rfl (one_srcV _ _ _ _ (by simp)) (by intro u hu; simp at hu; rcases hu with rfl; rfl) (by decide) (by unfold maxLen; omega) (by omega) (by have := G6.out.top; exact this) _ rfl ?_
          intro g6 d6 w6 hown hgrow hat hlt6
          replace hgrow : World.grownBy _ w6 tv.ownBlock := hgrow
          replace hat : tv.ownBlock = some g6 ∨ _ := hat
          have NEW := hidden (G6.out.put hgrow XO.out (fun e he => by
            obtain ⟨d, a1, a2, a3, a4, a5⟩ := HX2.out e he
            exact ⟨d, a1, a2, a3, a4, a5.keep BE.out⟩) (by have := hg3.out.1; have := HGT.out; omega) HTV.out (d1 := d3) (by rw [HAT.out.1, HAT.out.2]; exact O3.out.keep BE.out) (by rw [HAT.out.1]; exact K5.out) (by rw [HAT.out.1]; exact hown) (by rcases hat with hh | hh; exact Or.inl hh; exact Or.inr (by rw [hh]; try simp)))
          have X7 := hidden (X6'.out.grownV hgrow (fun e => by have := (G6.out.block _ e).1; omega))
          have hbq := keepB B5.out BE.out
          have HB6 := hidden (hbq.grown hgrow hbq.size (fun z hz => by have := (G6.out.block z hz).1; omega))
          have z0 := X7.out.two.c1
          have z1 := X7.out.f1
          clear hown hgrow hat hlt6 hbq XO HX2 BE G5 G6 X5 X6' B5 BL y0 y1 h5
          go_wp2
          go_roundw
          case rel =>
            exact ⟨k + 1, _, by omega, by go_num, hidden (NEW.out.setLow ⟨w3.heap.size, 1, none⟩ _ (by simp)), hidden (X7.out.set1 _), HS2, hidden (HB6.out.setCell (by simp) _)⟩
          case measure => simp [intOf]; omega
      · obtain rfl : k = cR M := by omega
        have hkl : ¬ ((cR M : Int) < cR M) := by omega
        have HBA : ∃ qt ct, tv = .slice qt (cR M) ct ∧ BdAt wr p9 d9 qt ct (ovM M1 M) := by
          rcases GM.out.slc with ⟨h0, rfl⟩ | ⟨g, c, rfl⟩
          · exact ⟨none, 0, by rw [h0], ⟨Or.inl (by rw [ovM_cR HM1L.out]; exact h0)⟩⟩
          · refine ⟨_, c, rfl, ⟨?_⟩⟩
            rw [ovM_cR HM1L.out]
            by_cases h0 : cR M = 0
            · exact Or.inl h0
            · obtain ⟨gg, e, _, hi⟩ := HP9.out (by omega)
              exact Or.inr ⟨gg, 0, g, 0, e, rfl, (hi.keep BL.out).same (fun i _ => (ovM_cV HM1L.out i).symm), GM.out.mats⟩
        obtain ⟨qt, ct, rfl, hba⟩ := HBA
        have S := hidden (l6With_any w3.heap.size p9 d9 qt ct (ovM M1 M) v b o c (upto T m) wr (by rw [ovM_cR HM1L.out]; exact X9.out.two) hba (by rw [upto_length]; exact (HT3.out.keep BL.out).same (fun i hi => (upto_getD hi).symm)) hv ((ovM_ne HM1L.out v).2 HM0.out) (by intro e; have := upto_length T m; rw [e] at this; simp at this; omega) (fun x => by
          unfold updM
          split
          · rw [upto_length]; exact hm.2
          · by_cases hx : M x = []
            · rw [(ovM_ne HM1L.out x).2 hx]; simp
            · have hx12 : x < 12 := by
                by_cases h : x < 12
                · exact h
                · exact absurd (HM12.out x (by omega)) hx
              obtain ⟨j, hj, e⟩ := cV_all hx12 hx
              have h1 := HS.out j hj
              rw [(cnD_m (show cV (ovM M1 M) j = x by rw [ovM_cV HM1L.out]; exact e)).1] at h1
              omega))
        simp only [upto_length] at S
        clear hba
        go_wp2_with fail
        with_reducible refine S.out.mono ?_
        rintro e w6 ⟨va, ta, Bx, Xx, rfl, hX, hby, hb⟩
        have hpos : 0 < cR (updM (ovM M1 M) v (upto T m)) := by
          obtain ⟨j, hj, _⟩ := cV_all (M := updM (ovM M1 M) v (upto T m)) hv (by simp only [updM, if_true]; intro e; have := upto_length T m; rw [e] at this; simp at this; omega)
          omega
        obtain ⟨qa, ca, qb, cb, rfl, rfl, _⟩ := (show Bd w6 0 (updM (ovM M1 M) v (upto T m)) va ta from Or.inr ⟨hpos, Bx, Xx, Nat.zero_le _, hby⟩).at
        clear hpos
        have BY := hidden hby
        have HXX := hidden (show w.heap.size < Xx ∧ Xx < Bx from by have := hby.low; have := BL.out.size; have := R3.out.two.blk; omega)
        have BF := hidden (keepB B3.out (keepB BL.out hb))
        obtain ⟨⟨_, q0, q1⟩, f0, f1⟩ := R3.out.keep (keepB BL.out hb)
        clear hb hby S hX e1
        go_wp2
        exact bodyPost_ret (v := .tuple #[.agg #[.slice qa (cR (updM (ovM M1 M) v (upto T m))) ca, .slice qb (cR (updM (ovM M1 M) v (upto T m))) cb], .int .i64 0]) (by simp [results, Try.results72, go_sem, q0, q1]) rfl ⟨Or.inr (Or.inr ⟨HC0.out, by rw [← EM1.out]; exact HS.out, _, _, Bx, Xx, rfl, by have := HXX.out; omega, by rw [← EM1.out]; exact (BY.out.farY ⟨w.heap.size, 0, none⟩ _ (by show w.heap.size < Bx; have := HXX.out; omega) (by show Xx ≠ w.heap.size; have := HXX.out; omega)).farY ⟨w.heap.size, 1, none⟩ _ (by show w.heap.size < Bx; have := HXX.out; omega) (by show Xx ≠ w.heap.size; have := HXX.out; omega)⟩), (BF.out.setCell (by simp) _).setCell (by simp) _⟩

end Go.Proofs.Ytenlogljpgdbpaa
