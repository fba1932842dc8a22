/- Several texts as one: PlnKey, DrawPl, PlKit. -/
import Derived.Test.YtbgemmhkfbfooaaMP
import Derived.Test.YtbgemmhkfbfooaaMS
import Derived.Test.YtbgemmhkfbfooaaM3
import Derived.Test.YtbgemmhkfbfooaaMA
import Derived.Deep.RegionHeld3
import Derived.Test.YtbgemmhkfbfooaaME
/- Plain facts: an equation that is plain is told as it is, and so is one with all its variables greater. -/
namespace Go.Proofs.Ytbgemmhkfbfooaa
open Go.RowKit

theorem ix_map {g : Int → Int} : ∀ (V : List Int) (x : Int), (∀ y ∈ V, g y = g x → y = x) → ixL (V.map g) (g x) = ixL V x
  | [], _, _ => rfl
  | y :: V, x, h => by
    simp only [List.map_cons, ixL]
    by_cases e : y = x
    · rw [if_pos (by rw [e]), if_pos e]
    · rw [if_neg (fun h2 => e (h y (by simp) h2)), if_neg e, ix_map V x (fun z hz => h z (by simp [hz]))]

theorem pv_lt {L : Nat → Int} : ∀ k x, x ∈ pv L k → ∃ i, i < k ∧ L i = x ∧ x < 0
  | 0, x, h => by simp [pv] at h
  | k + 1, x, h => by
    rw [pv] at h
    split at h
    · next hh =>
      rcases List.mem_append.1 h with h | h
      · obtain ⟨i, hi, e⟩ := pv_lt k x h; exact ⟨i, by omega, e⟩
      · have e : x = L k := by simpa using h
        exact ⟨k, by omega, e.symm, by rw [e]; exact hh.1⟩
    · obtain ⟨i, hi, e⟩ := pv_lt k x h; exact ⟨i, by omega, e⟩

/-- A turn of nodes that leaves symbols and parts variables. -/
structure Turn (g : Int → Int) (k : Nat) (L : Nat → Int) : Prop where
  pos : ∀ i, i < k → 0 ≤ L i → g (L i) = L i
  neg : ∀ i, i < k → L i < 0 → g (L i) < 0
  inj : ∀ i j, i < k → j < k → L i < 0 → L j < 0 → g (L i) = g (L j) → L i = L j

theorem pv_map {g : Int → Int} {L : Nat → Int} : ∀ k, Turn g k L → pv (fun i => g (L i)) k = (pv L k).map g
  | 0, _ => rfl
  | k + 1, h => by
    have ih := pv_map k ⟨fun i hi => h.pos i (by omega), fun i hi => h.neg i (by omega), fun i j hi hj => h.inj i j (by omega) (by omega)⟩
    simp only [pv]
    rw [ih]
    by_cases h0 : L k < 0
    · have h1 := h.neg k (by omega) h0
      by_cases hm : L k ∈ pv L k
      · rw [if_neg (fun x => x.2 (List.mem_map_of_mem hm)), if_neg (fun x => x.2 hm)]
      · have hq : ¬ g (L k) ∈ (pv L k).map g := fun hx => hm (by
          obtain ⟨y, hy, e⟩ := List.mem_map.1 hx
          obtain ⟨i, hi, e2, hn⟩ := pv_lt k y hy
          have := h.inj i k (by omega) (by omega) (by omega) h0 (by rw [e2]; exact e)
          rw [← this, e2]; exact hy)
        rw [if_pos ⟨h1, hq⟩, if_pos ⟨h0, hm⟩, List.map_append]
        rfl
    · rw [if_neg (fun x => by have := h.pos k (by omega) (by omega); omega), if_neg (fun x => h0 x.1)]

theorem both_map (g : Int → Int) (m1 : Nat) (L1 L2 : Nat → Int) : both m1 (fun i => g (L1 i)) (fun i => g (L2 i)) = fun i => g (both m1 L1 L2 i) := by
  funext i
  simp only [both]
  split <;> rfl

section
variable {m1 m2 : Nat} {L1 L2 : Nat → Int} {g : Int → Int}
theorem eqV_map (h : Turn g (m1 + m2) (both m1 L1 L2)) : eqV m1 (fun i => g (L1 i)) m2 (fun i => g (L2 i)) = (eqV m1 L1 m2 L2).map g := by
  unfold eqV
  rw [both_map]
  exact pv_map _ h

theorem rn_map (h : Turn g (m1 + m2) (both m1 L1 L2)) {j : Nat} (hj : j < m1 + m2) {x : Int} (hx : both m1 L1 L2 j = x) : rn ((eqV m1 L1 m2 L2).map g) (g x) = rn (eqV m1 L1 m2 L2) x := by
  by_cases h0 : x < 0
  · have h1 : g x < 0 := by rw [← hx]; exact h.neg j hj (by omega)
    rw [rn_var h1, rn_var h0, ix_map]
    intro y hy e
    obtain ⟨i, hi, e2, hn⟩ := pv_lt _ y hy
    rw [← e2, ← hx]
    exact h.inj i j hi hj (by omega) (by omega) (by rw [e2, hx]; exact e)
  · have h1 : g x = x := by rw [← hx]; exact h.pos j hj (by omega)
    rw [h1, rn_pos (by omega), rn_pos (by omega)]

theorem both_1 {i : Nat} (hi : i < m1) : both m1 L1 L2 i = L1 i := by simp [both, hi]
theorem both_2 {i : Nat} : both m1 L1 L2 (m1 + i) = L2 i := by
  have : ¬ m1 + i < m1 := by omega
  simp only [both, if_neg this, Nat.add_sub_cancel_left]

theorem turn_rn : Turn (rn (eqV m1 L1 m2 L2)) (m1 + m2) (both m1 L1 L2) := by
  have hin : ∀ i, i < m1 + m2 → both m1 L1 L2 i < 0 → both m1 L1 L2 i ∈ eqV m1 L1 m2 L2 := fun i hi h0 => by
    obtain ⟨r, hr⟩ := pv_more (both m1 L1 L2) (m1 + m2 - (i + 1)) (i + 1)
    rw [show i + 1 + (m1 + m2 - (i + 1)) = m1 + m2 by omega] at hr
    unfold eqV
    rw [hr]
    exact List.mem_append_left _ (pv_mem h0)
  refine ⟨fun i hi h0 => rn_pos h0, fun i hi h0 => by rw [rn_var h0]; omega, fun i j hi hj h0 h1 e => ?_⟩
  rw [rn_var h0, rn_var h1] at e
  have e2 : ixL (eqV m1 L1 m2 L2) (both m1 L1 L2 i) = ixL (eqV m1 L1 m2 L2) (both m1 L1 L2 j) := by omega
  rw [← ixL_at (hin i hi h0), ← ixL_at (hin j hj h1), e2]

theorem turn_sh {y : Int} (hy : 0 ≤ y) : Turn (fun x => if x < 0 then x - y else x) (m1 + m2) (both m1 L1 L2) := by
  refine ⟨fun i hi h0 => by rw [if_neg (by omega)], fun i hi h0 => by rw [if_pos h0]; omega, fun i j hi hj h0 h1 e => ?_⟩
  rw [if_pos h0, if_pos h1] at e
  omega
end

/-- The sides of an equation that was made plain. -/
def plU (m1 : Nat) (L1 : Nat → Int) (m2 : Nat) (L2 : Nat → Int) (L : Nat → Int) : Nat → Int := fun i => rn (eqV m1 L1 m2 L2) (L i)

section
variable {n : Nat} {N : Nat → ByteArray} {A : Nat → Int} {m1 : Nat} {L1 : Nat → Int} {m2 : Nat} {L2 : Nat → Int}
theorem plC_zero (h : plC n N A m1 L1 m2 L2 = 0) : sdF n N A m1 L1 m2 L2 = 0 ∧ (eqV m1 L1 m2 L2).length ≤ 6 := by
  by_cases hz : sdF n N A m1 L1 m2 L2 = 0
  · refine ⟨hz, ?_⟩
    by_cases h6 : 6 < (eqV m1 L1 m2 L2).length
    · rw [plC_many hz h6] at h; omega
    · omega
  · rw [plC_fault hz] at h; exact absurd h hz

theorem ix_lt1 (h6 : (eqV m1 L1 m2 L2).length ≤ 6) {x : Int} (hx : x ∈ eqV m1 L1 m2 L2) : ixL (eqV m1 L1 m2 L2) x ≤ 5 := by
  have := ixL_lt hx; omega

theorem rn_node {n : Nat} {V : List Int} {x : Int} (hx : nodeB x n = true) (hV : x < 0 → ixL V x ≤ 5) : nodeB (rn V x) n = true ∧ -6 ≤ rn V x := by
  rcases nodeB_cases hx with ⟨j, rfl, hj⟩ | hv
  · rw [rn_pos (by omega)]; exact ⟨hx, by omega⟩
  · have h0 : x < 0 := by omega
    have := hV h0
    rw [rn_var h0]
    constructor
    · simp only [nodeB, inB, varB, Bool.or_eq_true, decide_eq_true_eq]
      right; omega
    · omega

theorem rn_aOf {V : List Int} (L : Nat → Int) : aOf A (fun i => rn V (L i)) = aOf A L := by
  funext p
  by_cases h : L p < 0
  · rw [aOf_var h, aOf_var (show rn V (L p) < 0 by rw [rn_var h]; omega)]
  · have e : rn V (L p) = L p := rn_pos (by omega)
    simp only [aOf, e]

theorem rn_term {m : Nat} {L : Nat → Int} {V : List Int} (ht : termF n N A m L = 0) (hV : ∀ i, i < m → L i < 0 → ixL V (L i) ≤ 5) : termF n N A m (fun i => rn V (L i)) = 0 ∧ lowB m (fun i => rn V (L i)) = true := by
  have T := term_right ht
  have hf : faultF n N A = 0 := by
    by_cases hf : faultF n N A = 0
    · exact hf
    · rw [term_fault hf] at ht; exact absurd ht hf
  constructor
  · rw [term_l hf]
    exact lF_ok (by have := T.pos; have := T.nods.most; omega) (fun i hi => (rn_node (T.nods.node i hi) (hV i hi)).1) (by rw [rn_aOf]; exact T.whole)
  · simp only [lowB, decide_eq_true_eq]
    exact fun i hi => (rn_node (T.nods.node i hi) (hV i hi)).2

/-- All that the law asks of an equation that was made plain. -/
structure PlnFine (n : Nat) (N : Nat → ByteArray) (A : Nat → Int) (m1 : Nat) (U1 : Nat → Int) (m2 : Nat) (U2 : Nat → Int) : Prop where
  fault : eqF n N A m1 U1 m2 U2 = 0
  code : plC n N A m1 U1 m2 U2 = 0
  same1 : ∀ i, i < m1 → rn (eqV m1 U1 m2 U2) (U1 i) = U1 i
  same2 : ∀ i, i < m2 → rn (eqV m1 U1 m2 U2) (U2 i) = U2 i
  sh1 : ∀ y : Int, 0 ≤ y → y ≤ 5 → shC n N A m1 U1 y = 0
  sh2 : ∀ y : Int, 0 ≤ y → y ≤ 5 → shC n N A m2 U2 y = 0
  codeS : ∀ y : Int, 0 ≤ y → y ≤ 5 → plC n N A m1 (shT y U1) m2 (shT y U2) = 0
  sameS1 : ∀ y : Int, 0 ≤ y → y ≤ 5 → ∀ i, i < m1 → rn (eqV m1 (shT y U1) m2 (shT y U2)) (shT y U1 i) = U1 i
  sameS2 : ∀ y : Int, 0 ≤ y → y ≤ 5 → ∀ i, i < m2 → rn (eqV m1 (shT y U1) m2 (shT y U2)) (shT y U2 i) = U2 i

theorem sh_term {m : Nat} {U : Nat → Int} {y : Int} (ht : termF n N A m U = 0) (hl : lowB m U = true) (h0 : 0 ≤ y) (h5 : y ≤ 5) : shC n N A m U y = 0 ∧ termF n N A m (shT y U) = 0 := by
  have T := term_right ht
  have hf : faultF n N A = 0 := by
    by_cases hf : faultF n N A = 0
    · exact hf
    · rw [term_fault hf] at ht; exact absurd ht hf
  simp only [lowB, decide_eq_true_eq] at hl
  have ho : ¬ shOut y m U := by rintro ⟨i, hi, _, h⟩; have := hl i hi; omega
  exact ⟨sh_ok ht ⟨h0, by omega⟩ ho, by rw [term_l hf]; exact (sh_lF T ⟨h0, by omega⟩).2 ho⟩

theorem pln_fine (h : plC n N A m1 L1 m2 L2 = 0) : PlnFine n N A m1 (plU m1 L1 m2 L2 L1) m2 (plU m1 L1 m2 L2 L2) := by
  obtain ⟨hz, h6⟩ := plC_zero h
  obtain ⟨t1, t2⟩ := sdF_both hz
  have r1 := rn_term (V := eqV m1 L1 m2 L2) t1 (fun i hi h0 => ix_lt1 h6 (both_in1 i hi h0))
  have r2 := rn_term (V := eqV m1 L1 m2 L2) t2 (fun i hi h0 => ix_lt1 h6 (both_in2 i hi h0))
  have eV : eqV m1 (plU m1 L1 m2 L2 L1) m2 (plU m1 L1 m2 L2 L2) = (eqV m1 L1 m2 L2).map (rn (eqV m1 L1 m2 L2)) := eqV_map turn_rn
  have hsd : sdF n N A m1 (plU m1 L1 m2 L2 L1) m2 (plU m1 L1 m2 L2 L2) = 0 := (sdF_right (L1 := plU m1 L1 m2 L2 L1) (L2 := plU m1 L1 m2 L2 L2) r1.1).trans r2.1
  have s1 : ∀ i, i < m1 → rn (eqV m1 (plU m1 L1 m2 L2 L1) m2 (plU m1 L1 m2 L2 L2)) (plU m1 L1 m2 L2 L1 i) = plU m1 L1 m2 L2 L1 i := fun i hi => by
    rw [eV]; exact rn_map turn_rn (j := i) (by omega) (both_1 hi)
  have s2 : ∀ i, i < m2 → rn (eqV m1 (plU m1 L1 m2 L2 L1) m2 (plU m1 L1 m2 L2 L2)) (plU m1 L1 m2 L2 L2 i) = plU m1 L1 m2 L2 L2 i := fun i hi => by
    rw [eV]; exact rn_map turn_rn (j := m1 + i) (by omega) both_2
  refine ⟨eqF_low r1.1 r2.1 r1.2 r2.2, plC_ok hsd (by rw [eV, List.length_map]; omega), s1, s2, fun y h0 h5 => (sh_term r1.1 r1.2 h0 h5).1, fun y h0 h5 => (sh_term r2.1 r2.2 h0 h5).1, fun y h0 h5 => ?_, fun y h0 h5 i hi => ?_, fun y h0 h5 i hi => ?_⟩
  · have eS : eqV m1 (shT y (plU m1 L1 m2 L2 L1)) m2 (shT y (plU m1 L1 m2 L2 L2)) = _ := eqV_map (turn_sh h0)
    refine plC_ok ((sdF_right (L1 := shT y (plU m1 L1 m2 L2 L1)) (L2 := shT y (plU m1 L1 m2 L2 L2)) (sh_term r1.1 r1.2 h0 h5).2).trans (sh_term r2.1 r2.2 h0 h5).2) ?_
    rw [eS, List.length_map, eV, List.length_map]; omega
  · have eS : eqV m1 (shT y (plU m1 L1 m2 L2 L1)) m2 (shT y (plU m1 L1 m2 L2 L2)) = _ := eqV_map (turn_sh h0)
    rw [eS, ← s1 i hi]
    refine (rn_map (turn_sh h0) (j := i) (by omega) (x := plU m1 L1 m2 L2 L1 i) (both_1 hi)).trans ?_
    rw [s1 i hi]
  · have eS : eqV m1 (shT y (plU m1 L1 m2 L2 L1)) m2 (shT y (plU m1 L1 m2 L2 L2)) = _ := eqV_map (turn_sh h0)
    rw [eS, ← s2 i hi]
    refine (rn_map (turn_sh h0) (j := m1 + i) (by omega) (x := plU m1 L1 m2 L2 L2 i) both_2).trans ?_
    rw [s2 i hi]
end

end Go.Proofs.Ytbgemmhkfbfooaa

/- Contracts: a signature and an equation are drawn for the law on plain equations. -/
namespace Go.Proofs.Ytbgemmhkfbfooaa
open Go.RowKit

/-- What was drawn: a signature and two lists of numbers. -/
structure KeyDr (w w' : World) (q : Option Addr) (n d0 g m d g2 m2 d2 : Nat) : Prop where
  few : m ≤ 25
  cap : m ≤ d
  row : ∃ L, Ints w' g 0 m L
  few2 : m2 ≤ 25
  cap2 : m2 ≤ d2
  row2 : ∃ L, Ints w' g2 0 m2 L
  sig : SigV w' (.slice q n d0)
  below : Below w.heap.size w w'

/-- Where the source is turned alone, and how much of it was read at most. -/
structure Rs (W wc : World) (s : Nat) (p : Option Addr) (nn c k : Nat) : Prop where
  grw : W.grownBy wc (some s)
  gen : ∃ a, a ≤ k ∧ Byt.Gen wc s p nn c a

theorem Rs.alloc {W wc : World} {s nn c k : Nat} {p : Option Addr} (h : Rs W wc s p nn c k) (o : Obj) : Rs W (wc.alloc o) s p nn c k :=
  ⟨grownBy_trans h.grw (World.grownBy_alloc _ _ (some s)), h.gen.imp fun _ h => ⟨h.1, h.2.alloc o⟩⟩

theorem Rs.drew {W : World} {s nn c a k : Nat} {p : Option Addr} (h : Byt.Gen W s p nn c a) (ha : a ≤ k) : Rs W W.drew s p nn c k :=
  ⟨⟨rfl, rfl, rfl, Nat.le_refl _, fun _ _ _ => rfl⟩, a, ha, h.grown (show W.grownBy W.drew (some (s + 1)) from ⟨rfl, rfl, rfl, Nat.le_refl _, fun _ _ _ => rfl⟩) (by omega)⟩

theorem numsK {W : World} {b k : Nat} {xs : List Int} (h : Byt.Nums W b k xs) (o : Obj) (hb : b < W.heap.size) : Byt.Nums (W.alloc o) b k xs :=
  ⟨h.len, fun i hi => ((alloc_below W o).cell (p := ⟨b, i, none⟩) hb).trans (h.cell i hi)⟩

theorem Rs.drw {W wc : World} {s nn c k : Nat} {p : Option Addr} (h : Rs W wc s p nn c k) : Rs W wc.drew s p nn c k :=
  ⟨grownBy_trans h.grw ⟨rfl, rfl, rfl, Nat.le_refl _, fun _ _ _ => rfl⟩, h.gen.imp fun _ h => ⟨h.1, h.2.grown (show wc.grownBy wc.drew (some (s + 1)) from ⟨rfl, rfl, rfl, Nat.le_refl _, fun _ _ _ => rfl⟩) (by omega)⟩⟩

theorem numsD {W : World} {b k : Nat} {xs : List Int} (h : Byt.Nums W b k xs) : Byt.Nums W.drew b k xs := ⟨h.len, h.cell⟩

theorem Ints.by {w w' : World} {b n s : Nat} {L : Nat → Int} (h : Ints w b 0 n L) (hg : w.grownBy w' (some s)) (hne : b ≠ s) : Ints w' b 0 n L :=
  ⟨fun h0 => Nat.lt_of_lt_of_le (h.blk h0) hg.size, fun i hi => hg.cell (h.cell i hi) (by simpa using hne)⟩

theorem numsA1 (W : World) : Byt.Nums (W.alloc (.cells #[.int .i64 5, .int .i64 9, .int .i64 24] 2)) W.heap.size 3 [5, 9, 24] :=
  ⟨rfl, fun i hi => by
    match i, hi with
    | 0, _ => simp [go_sem]
    | 1, _ => simp [go_sem]
    | 2, _ => simp [go_sem]⟩

theorem numsA2 (W : World) : Byt.Nums (W.alloc (.cells #[.int .i64 5, .int .i64 20] 2)) W.heap.size 2 [5, 20] :=
  ⟨rfl, fun i hi => by
    match i, hi with
    | 0, _ => simp [go_sem]
    | 1, _ => simp [go_sem]⟩

theorem inA1 (i : Nat) (hi : i < 3) : ∃ x : Nat, [(5 : Int), (9 : Int), (24 : Int)].getD i 0 = (x : Int) ∧ x ≤ 24 ∧ 5 ≤ x := by
  match i, hi with
  | 0, _ => exact ⟨5, rfl, by omega, by omega⟩
  | 1, _ => exact ⟨9, rfl, by omega, by omega⟩
  | 2, _ => exact ⟨24, rfl, by omega, by omega⟩

theorem inA2 (i : Nat) (hi : i < 2) : ∃ x : Nat, [(5 : Int), (20 : Int)].getD i 0 = (x : Int) ∧ x ≤ 24 ∧ 5 ≤ x := by
  match i, hi with
  | 0, _ => exact ⟨5, rfl, by omega, by omega⟩
  | 1, _ => exact ⟨20, rfl, by omega, by omega⟩

theorem numsA1' (W : World) (o : Obj) : Byt.Nums ((W.alloc o).alloc (.cells #[.int .i64 5, .int .i64 9, .int .i64 24] 2)) (W.heap.size + 1) 3 [5, 9, 24] := by have := numsA1 (W.alloc o); rwa [World.size_alloc] at this
theorem numsA2' (W : World) (o : Obj) : Byt.Nums ((W.alloc o).alloc (.cells #[.int .i64 5, .int .i64 20] 2)) (W.heap.size + 1) 2 [5, 20] := by have := numsA2 (W.alloc o); rwa [World.size_alloc] at this

theorem Own2.grownS {w w' : World} {X s : Nat} {x y : Value} (h : Own2 w X x y) (hg : w.grownBy w' (some s)) (hne : X ≠ s) : Own2 w' X x y := by
  have hb := hg.block X h.two.blk (by simpa using hne)
  refine ⟨⟨Nat.lt_of_lt_of_le h.two.blk hg.size, (World.cell?_of_block (a := ⟨X, 0, none⟩) hb).trans h.two.c0, (World.cell?_of_block (a := ⟨X, 1, none⟩) hb).trans h.two.c1⟩, ?_, ?_⟩
  · rw [World.frozen?_of_block hb]; exact h.f0
  · rw [World.frozen?_of_block hb]; exact h.f1

set_option maxRecDepth 20000 in
set_option maxHeartbeats 12800000 in
theorem drawPlain_any (p : Option Addr) (nn c : Nat) (l : List Int) (w : World) (h : Byt.Src w p nn l) :
    Calls Try.prog 5 #[.slice p nn c] w fun e w' => ∃ q n d0 g m d g2 m2 d2, e = .returned (.tuple #[.agg #[.slice q n d0], .agg #[.slice (some ⟨g, 0, none⟩) m d, .slice (some ⟨g2, 0, none⟩) m2 d2]]) ∧ KeyDr w w' q n d0 g m d g2 m2 d2 := by
  have H := hidden h
  have R1 := hidden ((Cel.new w (.slice none 0 0) 26).keep (alloc_below _ (.cells #[.slice none 0 0, .slice none 0 0] 29)))
  have E1 := hidden (Own2.new (w.alloc (.cells #[.slice none 0 0] 26)) (.slice none 0 0) (.slice none 0 0) 29)
  rw [World.size_alloc] at E1
  have B0 := hidden (keepB (alloc_below w (.cells #[.slice none 0 0] 26)) (alloc_below _ (.cells #[.slice none 0 0, .slice none 0 0] 29)))
  clear h
  go_enter Try.func5, Try.ntmps5
  go_wp2_with fail
  with_reducible refine (Byt.l1Source_any p nn c _).mono ?_
  rintro e w1 ⟨s, rfl, hs, hg, hb⟩
  rw [World.size_alloc, World.size_alloc] at hs
  have B1 := hidden (keepB B0.out hb)
  replace R1 := hidden (R1.out.keep hb)
  replace E1 := hidden (E1.out.keep hb)
  have G1 := hidden hg
  clear hb hg B0
  go_wp2_with fail
  with_reducible refine (l2Bent_any s p nn c l w w1 G1.out H.out B1.out (by omega)).mono ?_
  rintro e w2 ⟨⟨a, ha, hg⟩, hgr, hv⟩
  have G2 := hidden hg
  have R2 := hidden (R1.out.grown hgr (by omega))
  have E2 := hidden (E1.out.grownS hgr (by omega))
  have B2 := hidden (B1.out.grown hgr B1.out.size (fun k hk => by cases hk; omega))
  have hs1 := G1.out.blk
  obtain ⟨vs, rfl, hsv⟩ : ∃ vs, e = .returned (.agg #[vs]) ∧ SigV w2 vs ∧ ∃ q n d, vs = .slice q n d ∧ n ≤ 7 ∧ (∀ b, q = some b → b.block ≠ s ∧ w.heap.size + 1 < b.block) := by
    rcases hv with rfl | ⟨g, m, d, N, A, rfl, hgl, hm, hk, ho⟩
    · exact ⟨_, rfl, Or.inl rfl, none, 0, 0, rfl, by omega, fun b hb => by cases hb⟩
    · exact ⟨_, rfl, Or.inr ⟨g, m, d, N, A, rfl, hm, hk, ho.syms hk.big hk.fits⟩, some ⟨g, 0, none⟩, m, d, rfl, hm, fun b hb => by cases hb; exact ⟨by show g ≠ s; omega, by show w.heap.size + 1 < g; omega⟩⟩
  obtain ⟨hsv, q, n, d0, rfl, hn7, hqs⟩ := hsv
  have SV := hidden hsv
  have HQ := hidden hqs
  have hw1 := B1.out.size
  clear hv hg hgr hsv hqs R1 G1 B1 E1
  have hs2 := G2.out.blk
  have hw2 := B2.out.size
  obtain ⟨W, hW⟩ : ∃ W, W = w2.alloc (.cells #[.slice q n d0] 26) := ⟨_, rfl⟩
  have hz : W.heap.size = w2.heap.size + 1 := by rw [hW]; simp
  have G4 := hidden (G2.out.alloc (.cells #[.slice q n d0] 26))
  have R4 := hidden (R2.out.keep (alloc_below w2 (.cells #[.slice q n d0] 26)))
  have E4 := hidden (E2.out.keep (alloc_below w2 (.cells #[.slice q n d0] 26)))
  have O4 := hidden (One.new w2 (.slice q n d0) 26)
  have BW0 := hidden (keepB B2.out (alloc_below w2 (.cells #[.slice q n d0] 26)))
  have S4 := hidden (SV.out.keep (alloc_below w2 (.cells #[.slice q n d0] 26)))
  rw [← hW] at G4 R4 E4 O4 BW0 S4
  have HWW := hidden hW
  clear hW G2 R2 E2 B2 SV
  have hsW := G4.out.blk
  have BW := hidden (show ∀ wc, W.grownBy wc (some s) → Below w.heap.size w wc from fun wc hk => BW0.out.grown hk BW0.out.size (fun k e => by cases e; omega))
  have CW := hidden (show ∀ w', W.grownBy w' (some s) → w'.cell? ⟨w2.heap.size, 0, none⟩ = some (.slice q n d0) ∧ w'.cell? ⟨w.heap.size, 0, none⟩ = some (.slice none 0 0) ∧ w'.frozen? ⟨w.heap.size, 0, none⟩ = false ∧ Hid (Own2 w' (w.heap.size + 1) (.slice none 0 0) (.slice none 0 0)) from fun w' hk => ⟨(O4.out.grown hk (by omega)).c0, (R4.out.grown hk (by omega)).c0, (R4.out.grown hk (by omega)).f0, hidden (E4.out.grownS hk (by omega))⟩)
  have F1 := hidden (show ∀ (wc : World) (b k i hi9 lo : Nat) (xs : List Int), Rs W wc s p nn c i → i ≤ 3000 → Byt.Nums wc b k xs → b ≠ s → 0 < k → k ≤ 9 → (∀ j, j < k → ∃ x : Nat, xs.getD j 0 = (x : Int) ∧ x ≤ hi9 ∧ lo ≤ x) → Calls Try.prog 16 #[.pointer (some ⟨s, 0, none⟩), .slice (some ⟨b, 0, none⟩) k k] wc fun e w' => ∃ x : Nat, e = .returned (.int .i64 (x : Int)) ∧ Hid (x ≤ hi9 ∧ lo ≤ x) ∧ Hid (Rs W w' s p nn c (i + 1)) ∧ Hid (wc.grownBy w' (some s)) ∧ w'.cell? ⟨w2.heap.size, 0, none⟩ = some (.slice q n d0) ∧ w'.cell? ⟨w.heap.size, 0, none⟩ = some (.slice none 0 0) ∧ w'.frozen? ⟨w.heap.size, 0, none⟩ = false ∧ Hid (Own2 w' (w.heap.size + 1) (.slice none 0 0) (.slice none 0 0)) from fun wc b k i hi9 lo xs hr hi hx hbs hk0 hk9 hin => by
    obtain ⟨a', ha', hg'⟩ := hr.gen
    refine (Byt.l1Pick_any s p nn c a' l b k k xs w wc hg' H.out (BW.out wc hr.grw) (by omega) (by omega) hx hbs hk0 (by omega)).mono ?_
    rintro e w' ⟨j, hj, rfl, hg2, hgr, -⟩
    obtain ⟨x, hx, hx1, hx2⟩ := hin j hj
    have hk' := grownBy_trans hr.grw hgr
    exact ⟨x, by rw [hx], hidden ⟨hx1, hx2⟩, hidden ⟨hk', a' + 1, by omega, hg2⟩, hidden hgr, CW.out w' hk'⟩)
  have F3 := hidden (show ∀ (wc : World) (mz vz : Int) (most vars i : Nat), mz = (most : Int) → vz = (vars : Int) → Rs W wc s p nn c i → i ≤ 3000 → 1 ≤ most → most ≤ 24 → vars ≤ 12 → Calls Try.prog 15 #[.pointer (some ⟨s, 0, none⟩), .pointer (some ⟨w2.heap.size, 0, none⟩), .int .i64 mz, .int .i64 vz] wc fun e w' => ∃ g m d, e = .returned (.slice (some ⟨g, 0, none⟩) m d) ∧ Hid (m ≤ 25 ∧ m ≤ d ∧ W.heap.size ≤ g ∧ ∃ L, Ints w' g 0 m L) ∧ Hid (Rs W w' s p nn c (i + 200)) ∧ Hid (wc.grownBy w' (some s)) ∧ w'.cell? ⟨w2.heap.size, 0, none⟩ = some (.slice q n d0) ∧ w'.cell? ⟨w.heap.size, 0, none⟩ = some (.slice none 0 0) ∧ w'.frozen? ⟨w.heap.size, 0, none⟩ = false ∧ Hid (Own2 w' (w.heap.size + 1) (.slice none 0 0) (.slice none 0 0)) from fun wc mz vz most vars i hmz hvz hr hi hm1 hm24 hv12 => by
    subst hmz hvz
    obtain ⟨a', ha', hg'⟩ := hr.gen
    refine (l3BentTerm_any s p nn c a' l w wc hg' H.out (BW.out wc hr.grw) (by omega) (by omega) w2.heap.size q n d0 (O4.out.grown hr.grw (by omega)) (S4.out.grown hr.grw (fun g' m' d' e => by cases e; exact (HQ.out _ rfl).1)) (by omega) (fun b hb => (HQ.out b hb).1) most vars hm1 hm24 hv12).mono ?_
    rintro e w' ⟨g, m, d, a2, rfl, hm, hmd, ha2, hd⟩
    have hk' := grownBy_trans hr.grw hd.grw
    exact ⟨g, m, d, rfl, hidden ⟨hm, hmd, Nat.le_trans hr.grw.size hd.hg, hd.row⟩, hidden ⟨hk', a2, by omega, hd.gen⟩, hidden hd.grw, CW.out w' hk'⟩)
  have FIN := hidden (show ∀ (wb : World) (g m d g2 m2 d2 : Nat) (u1 u2 u3 : Value), W.grownBy wb (some s) → (m ≤ 25 ∧ m ≤ d ∧ W.heap.size ≤ g ∧ ∃ L, Ints wb g 0 m L) → (m2 ≤ 25 ∧ m2 ≤ d2 ∧ W.heap.size ≤ g2 ∧ ∃ L, Ints wb g2 0 m2 L) → KeyDr w (((wb.setCell ⟨w.heap.size, 0, none⟩ u1).setCell ⟨(w.heap.size + 1), 0, none⟩ u2).setCell ⟨(w.heap.size + 1), 1, none⟩ u3) q n d0 g m d g2 m2 d2 from fun wb g m d g2 m2 d2 u1 u2 u3 hk h1 h2 => by
    obtain ⟨a1, a2, a3, L, a4⟩ := h1
    obtain ⟨b1, b2, b3, L2, b4⟩ := h2
    refine ⟨a1, a2, ⟨L, ((a4.by (Byt.setCell_grown _ _ _ _) (by omega)).by (Byt.setCell_grown _ _ _ _) (by omega)).by (Byt.setCell_grown _ _ _ _) (by omega)⟩, b1, b2, ⟨L2, ((b4.by (Byt.setCell_grown _ _ _ _) (by omega)).by (Byt.setCell_grown _ _ _ _) (by omega)).by (Byt.setCell_grown _ _ _ _) (by omega)⟩, ?_, (((BW.out wb hk).setCell (by simp) _).setCell (by simp) _).setCell (by simp) _⟩
    have z1 := (S4.out.grown hk (fun g' m' d' e => by cases e; exact (HQ.out _ rfl).1)).grown (s := w.heap.size) (Byt.setCell_grown wb w.heap.size 0 u1) (fun g' m' d' e => by cases e; have := (HQ.out _ rfl).2; simp at this; omega)
    have z2 := z1.grown (s := (w.heap.size + 1)) (Byt.setCell_grown _ (w.heap.size + 1) 0 u2) (fun g' m' d' e => by cases e; have := (HQ.out _ rfl).2; simp at this; omega)
    exact z2.grown (s := (w.heap.size + 1)) (Byt.setCell_grown _ (w.heap.size + 1) 1 u3) (fun g' m' d' e => by cases e; have := (HQ.out _ rfl).2; simp at this; omega))
  have RS0 := hidden (show Rs W W s p nn c 1000 from ⟨⟨rfl, rfl, rfl, Nat.le_refl _, fun _ _ _ => rfl⟩, _, by omega, G4.out⟩)
  obtain ⟨x1, x2, x3, x4⟩ := CW.out W ⟨rfl, rfl, rfl, Nat.le_refl _, fun _ _ _ => rfl⟩
  have hnew : w.heap.size ≠ w2.heap.size := by omega
  have hnew3 : w.heap.size + 1 ≠ w.heap.size := by omega
  have hnew4 : w.heap.size ≠ w.heap.size + 1 := by omega
  have hnew2 : w.heap.size + 1 ≠ w2.heap.size := by omega
  have HZ := hidden hz
  clear hz CW BW BW0 S4 O4 R4 G4 E4
  go_upto_region 3 with fail
  rw [← HWW.out]
  go_cut [15, 20] (fun t t' wc => ∃ g m d g2 m2 d2, t = .slice (some ⟨g, 0, none⟩) m d ∧ t' = .slice (some ⟨g2, 0, none⟩) m2 d2 ∧ wc.cell? ⟨w.heap.size, 0, none⟩ = some (.slice q n d0) ∧ wc.cell? ⟨(w.heap.size + 1), 0, none⟩ = some (.slice (some ⟨g, 0, none⟩) m d) ∧ wc.cell? ⟨(w.heap.size + 1), 1, none⟩ = some (.slice (some ⟨g2, 0, none⟩) m2 d2) ∧ Hid (KeyDr w wc q n d0 g m d g2 m2 d2))
  case first =>
    go_region_held3 (fun wz => wz.cell? ⟨w2.heap.size, 0, none⟩ = some (.slice q n d0)) (first | assumption | (rw [World.cell?_setCell_far _ _ _ _ hnew]; assumption) | (rw [World.cell?_setCell_far _ _ _ _ hnew2, World.cell?_setCell_far _ _ _ _ hnew2]; assumption) | (rw [World.cell?_setCell_far _ _ _ _ hnew2, World.cell?_setCell_far _ _ _ _ hnew2, World.cell?_setCell_far _ _ _ _ hnew]; assumption) | go_keep) (first
      | (go_at_call 16; with_reducible refine (F1.out _ _ 3 1000 24 5 [5, 9, 24] ?_ ?_ ?_ ?_ ?_ ?_ inA1).mono ?_; (first | exact (RS0.out.alloc _).drw | exact ((RS0.out.alloc _).alloc _).drw); omega; (first | exact numsD (numsA1 _) | exact numsD (numsK (numsA1 _) _ (by simp)) | exact numsD (numsA1' _ _)); omega; omega; omega; rintro e v1 ⟨y1, rfl, HX1, RS1, GR1, x11, x12, x13, x14⟩)
      | (go_at_call 15; with_reducible refine (F3.out _ _ _ y1 12 1001 ?_ ?_ ?_ ?_ ?_ ?_ ?_).mono ?_; (first | rfl | omega); (first | rfl | omega); (first | exact RS1.out | exact RS1.out.alloc _); omega; (have := HX1.out.2; omega); exact HX1.out.1; omega; rintro e v2 ⟨g, m, d, rfl, HY1, RS2, GR2, x21, x22, x23, x24⟩)
      | (go_at_call 16; with_reducible refine (F1.out _ _ 2 1201 24 5 [5, 20] ?_ ?_ ?_ ?_ ?_ ?_ inA2).mono ?_; (first | exact RS2.out | exact RS2.out.alloc _); omega; (first | exact numsA2 _ | exact Nums.grown (numsA2 _) GR2.out (by have := RS1.out.grw.size; omega) | exact Nums.grown (Nums.grown (numsD (numsA2' _ _)) GR1.out (by omega)) GR2.out (by omega) | exact Nums.grown (Nums.grown (numsD (numsK (numsA2 _) _ (by simp))) GR1.out (by omega)) GR2.out (by omega)); (first | omega | (have := RS1.out.grw.size; omega) | (have := RS2.out.grw.size; omega)); omega; omega; rintro e v3 ⟨y2, rfl, HX2, RS3, GR3, x31, x32, x33, x34⟩)
      | (go_at_call 15; with_reducible refine (F3.out _ _ _ y2 12 1202 ?_ ?_ ?_ ?_ ?_ ?_ ?_).mono ?_; (first | rfl | omega); (first | rfl | omega); exact RS3.out; omega; (have := HX2.out.2; omega); exact HX2.out.1; omega; rintro e v4 ⟨g2, m2, d2, rfl, HY2, RS4, GR4, x41, x42, x43, x44⟩; have z0 := x44.out.two.c0; have z1 := x44.out.two.c1; have z2 := x44.out.f0; have z3 := x44.out.f1) | fail)
    all_goals (go_wp2_with fail; go_meet)
    all_goals
      have hgs : g ≠ s := by have := HY1.out.2.2.1; omega
      have KY : m ≤ 25 ∧ m ≤ d ∧ W.heap.size ≤ g ∧ ∃ L, Ints v4 g 0 m L := ⟨HY1.out.1, HY1.out.2.1, HY1.out.2.2.1, HY1.out.2.2.2.imp fun L h => by first | exact (h.by GR3.out hgs).by GR4.out hgs | exact ((h.keep (alloc_below _ _)).by GR3.out hgs).by GR4.out hgs⟩
      exact ⟨_, _, _, _, _, _, rfl, rfl, by rw [World.cell?_setCell_far _ _ _ _ hnew3, World.cell?_setCell_far _ _ _ _ hnew3]; exact World.cell?_setCell_same' _ _ _ (by rw [x42]; rfl), by rw [World.cell?_setCell_other _ _ _ _ (by simp)]; exact World.cell?_setCell_same' _ _ _ (by rw [World.cell?_setCell_far _ _ _ _ hnew4, z0]; rfl), World.cell?_setCell_same' _ _ _ (by rw [World.cell?_setCell_other _ _ _ _ (by simp), World.cell?_setCell_far _ _ _ _ hnew4, z1]; rfl), hidden (FIN.out v4 _ _ _ _ _ _ _ _ _ RS4.out.grw KY HY2.out)⟩
  case rest =>
    rename World => w9
    obtain ⟨g, m, d, g2, m2, d2, rfl, rfl, r0, r1, r2, hu⟩ := hcut
    clear F1 F3 FIN RS0 HQ H
    go_wp2
    refine bodyPost_ret (v := .tuple #[.agg #[.slice q n d0], .agg #[.slice (some ⟨g, 0, none⟩) m d, .slice (some ⟨g2, 0, none⟩) m2 d2]]) (by simp [results, Try.results5, go_sem, r0, r1, r2]) rfl ?_
    exact ⟨q, n, d0, g, m, d, g2, m2, d2, rfl, hu.out⟩

end Go.Proofs.Ytbgemmhkfbfooaa

/- Contracts: plain equations of a signature that was drawn, right or not; a choice; lists of one equation. -/
namespace Go.Proofs.Ytbgemmhkfbfooaa
open Go.RowKit

theorem implFault_nil (w : World) : Calls Try.prog 48 #[.agg #[.slice none 0 0]] w fun e w' => e = .returned (.int .i64 2) ∧ Below w.heap.size w w' := by
  have h := implFault_many none 0 0 w (Or.inl (by omega)) (fun _ => ByteArray.empty) (fun _ => 0)
  rw [show faultF 0 (fun _ => ByteArray.empty) (fun _ => 0) = 2 by rw [faultF, if_pos (Or.inl (by omega))]] at h
  exact h

theorem specFault_nil (w : World) : Calls Try.prog 37 #[.agg #[.slice none 0 0]] w fun e w' => e = .returned (.int .i64 2) ∧ Below w.heap.size w w' := by
  have h := specFault_many none 0 0 w (Or.inl (by omega)) (fun _ => ByteArray.empty) (fun _ => 0)
  rw [show faultF 0 (fun _ => ByteArray.empty) (fun _ => 0) = 2 by rw [faultF, if_pos (Or.inl (by omega))]] at h
  exact h

set_option maxRecDepth 20000 in
set_option maxHeartbeats 400000 in
theorem specTerm_nil (p' : Option Addr) (m c' : Nat) (w : World) : Calls Try.prog 21 #[.agg #[.slice none 0 0], .slice p' m c'] w fun e w' => e = .returned (.int .i64 2) ∧ Below w.heap.size w w' := by
  go_enter Try.func21, Try.ntmps21
  go_wp2_with fail
  with_reducible refine (specFault_nil _).mono ?_
  rintro e w1 ⟨rfl, hb⟩
  have B := hidden (keepB (alloc_below _ _) hb)
  clear hb
  go_wp2
  go_ret
  exact ⟨rfl, B.out⟩

set_option maxRecDepth 20000 in
set_option maxHeartbeats 400000 in
theorem implTerm_nil (p' : Option Addr) (m c' : Nat) (w : World) : Calls Try.prog 24 #[.agg #[.slice none 0 0], .slice p' m c'] w fun e w' => e = .returned (.int .i64 2) ∧ Below w.heap.size w w' := by
  go_enter Try.func24, Try.ntmps24
  go_wp2_with fail
  with_reducible refine (implFault_nil _).mono ?_
  rintro e w1 ⟨rfl, hb⟩
  have B := hidden (keepB (alloc_below _ _) hb)
  clear hb
  go_wp2
  go_ret
  exact ⟨rfl, B.out⟩

set_option maxRecDepth 20000 in
set_option maxHeartbeats 400000 in
theorem implSides_nil (p1 : Option Addr) (m1 c1 : Nat) (p2 : Option Addr) (m2 c2 : Nat) (w : World) : Calls Try.prog 17 #[.agg #[.slice none 0 0], .agg #[.slice p1 m1 c1, .slice p2 m2 c2]] w fun e w' => e = .returned (.int .i64 2) ∧ Below w.heap.size w w' := by
  have B0 := keepB (alloc_below w (.cells #[.slice none 0 0] 26)) (alloc_below _ (.cells #[.slice p1 m1 c1, .slice p2 m2 c2] 29))
  have HB := hidden B0
  clear B0
  go_enter Try.func17, Try.ntmps17
  go_wp2_with fail
  with_reducible refine (implTerm_nil _ _ _ _).mono ?_
  rintro e w1 ⟨rfl, hb⟩
  have B := hidden (keepB HB.out hb)
  clear hb
  go_wp2
  go_ret
  exact ⟨rfl, B.out⟩

theorem Own3.newAt (w : World) (o1 o2 : Obj) (x y z : Value) (t : TypeId) : Own3 (((w.alloc o1).alloc o2).alloc (.cells #[x, y, z] t)) (w.heap.size + 1 + 1) x y z := by
  have := Own3.new ((w.alloc o1).alloc o2) x y z t
  simpa using this

set_option maxRecDepth 20000 in
set_option maxHeartbeats 800000 in
theorem implPlain_nil (p1 : Option Addr) (m1 c1 : Nat) (p2 : Option Addr) (m2 c2 : Nat) (w : World) : Calls Try.prog 6 #[.agg #[.slice none 0 0], .agg #[.slice p1 m1 c1, .slice p2 m2 c2]] w fun e w' => e = .returned (.agg #[.int .i64 2, .slice none 0 0, .slice none 0 0]) ∧ Below w.heap.size w w' := by
  have R := hidden (Own3.newAt w (.cells #[.slice none 0 0] 26) (.cells #[.slice p1 m1 c1, .slice p2 m2 c2] 29) (.int .i64 0) (.slice none 0 0) (.slice none 0 0) 33)
  have B := hidden (keepB (keepB (alloc_below w (.cells #[.slice none 0 0] 26)) (alloc_below _ (.cells #[.slice p1 m1 c1, .slice p2 m2 c2] 29))) (alloc_below _ (.cells #[.int .i64 0, .slice none 0 0, .slice none 0 0] 33)))
  go_enter Try.func6, Try.ntmps6
  go_wp2_with fail
  with_reducible refine (implSides_nil _ _ _ _ _ _ _).mono ?_
  rintro e w1 ⟨rfl, hb⟩
  replace R := hidden (R.out.keep hb)
  replace B := hidden (keepB B.out hb)
  clear hb
  obtain ⟨_, q0, q1, q2, f0, f1, f2⟩ := id R.out
  go_wp2
  exact bodyPost_ret (v := .agg #[.int .i64 2, .slice none 0 0, .slice none 0 0]) (by simp [results, Try.results6, go_sem, q0, q1, q2]) rfl ⟨rfl, ((B.out.setCell (by simp; omega) _).setCell (by simp; omega) _).setCell (by simp; omega) _⟩

set_option maxRecDepth 20000 in
set_option maxHeartbeats 800000 in
theorem specPlain_nil (p1 : Option Addr) (m1 c1 : Nat) (p2 : Option Addr) (m2 c2 : Nat) (w : World) : Calls Try.prog 7 #[.agg #[.slice none 0 0], .agg #[.slice p1 m1 c1, .slice p2 m2 c2]] w fun e w' => e = .returned (.agg #[.int .i64 2, .slice none 0 0, .slice none 0 0]) ∧ Below w.heap.size w w' := by
  have R := hidden (Own3.newAt w (.cells #[.slice none 0 0] 26) (.cells #[.slice p1 m1 c1, .slice p2 m2 c2] 29) (.int .i64 0) (.slice none 0 0) (.slice none 0 0) 33)
  have B := hidden (keepB (keepB (alloc_below w (.cells #[.slice none 0 0] 26)) (alloc_below _ (.cells #[.slice p1 m1 c1, .slice p2 m2 c2] 29))) (alloc_below _ (.cells #[.int .i64 0, .slice none 0 0, .slice none 0 0] 33)))
  go_enter Try.func7, Try.ntmps7
  go_wp2_with fail
  with_reducible refine (specTerm_nil _ _ _ _).mono ?_
  rintro e w1 ⟨rfl, hb⟩
  replace R := hidden (R.out.keep hb)
  replace B := hidden (keepB B.out hb)
  clear hb
  obtain ⟨_, q0, q1, q2, f0, f1, f2⟩ := id R.out
  go_wp2
  exact bodyPost_ret (v := .agg #[.int .i64 2, .slice none 0 0, .slice none 0 0]) (by simp [results, Try.results7, go_sem, q0, q1, q2]) rfl ⟨rfl, ((B.out.setCell (by simp; omega) _).setCell (by simp; omega) _).setCell (by simp; omega) _⟩

/-- An equation as an answer: what is known of it where there is no fault. -/
def EqnAns (C : Int) (k1 : Nat) (U1 : Nat → Int) (k2 : Nat) (U2 : Nat → Int) (e : Ending) (w' : World) : Prop :=
  ∃ q1 n1 d1 q2 n2 d2, e = .returned (.agg #[.int .i64 C, .slice q1 n1 d1, .slice q2 n2 d2]) ∧ (C = 0 → ∃ g1 g2, q1 = some ⟨g1, 0, none⟩ ∧ n1 = k1 ∧ Ints w' g1 0 k1 U1 ∧ q2 = some ⟨g2, 0, none⟩ ∧ n2 = k2 ∧ Ints w' g2 0 k2 U2)

theorem PAns.eqn {w : World} {C : Int} {k1 : Nat} {U1 : Nat → Int} {k2 : Nat} {U2 : Nat → Int} {e : Ending} {w' : World} (h : PAns w C k1 U1 k2 U2 e w') : EqnAns C k1 U1 k2 U2 e w' := by
  rcases h with ⟨h0, rfl⟩ | ⟨rfl, g1, d1, g2, d2, rfl, _, _, o1, o2⟩
  · exact ⟨none, 0, 0, none, 0, 0, rfl, fun h => absurd h h0⟩
  · exact ⟨_, _, d1, _, _, d2, rfl, fun _ => ⟨g1, g2, rfl, rfl, o1.ints, rfl, rfl, o2.ints⟩⟩

/-- What is known where the plain equation has no fault. -/
structure PlOk (w : World) (q : Option Addr) (n m : Nat) (U1 : Nat → Int) (m2 : Nat) (U2 : Nat → Int) (b : Nat) (N : Nat → ByteArray) (A : Nat → Int) : Prop where
  sig : q = some ⟨b, 0, none⟩
  kept : Kept n N A
  syms : Syms w b 0 n N A
  fine : PlnFine n N A m U1 m2 U2

theorem pl_key (q : Option Addr) (n d0 g m d g2 m2 d2 : Nat) (L L2 : Nat → Int) (w1 : World) (hS : SigV w1 (.slice q n d0)) (hL : Ints w1 g 0 m L) (hL2 : Ints w1 g2 0 m2 L2) (hm : m ≤ 25) (hm2 : m2 ≤ 25) :
    ∃ (C : Int) (U1 U2 : Nat → Int),
      (∀ wc, Below w1.heap.size w1 wc → Calls Try.prog 6 #[.agg #[.slice q n d0], .agg #[.slice (some ⟨g, 0, none⟩) m d, .slice (some ⟨g2, 0, none⟩) m2 d2]] wc fun e w' => EqnAns C m U1 m2 U2 e w' ∧ Below wc.heap.size wc w') ∧
      (∀ wc, Below w1.heap.size w1 wc → Calls Try.prog 7 #[.agg #[.slice q n d0], .agg #[.slice (some ⟨g, 0, none⟩) m d, .slice (some ⟨g2, 0, none⟩) m2 d2]] wc fun e w' => EqnAns C m U1 m2 U2 e w' ∧ Below wc.heap.size wc w') ∧
      (C = 0 → ∃ b N A, PlOk w1 q n m U1 m2 U2 b N A) := by
  rcases hS with h | ⟨b, n', d', N, A, h, hn7, hk, hS⟩
  · cases h
    have no : ∀ (U1 U2 : Nat → Int) (w' : World), EqnAns 2 m U1 m2 U2 (.returned (.agg #[.int .i64 2, .slice none 0 0, .slice none 0 0])) w' := fun U1 U2 w' => ⟨none, 0, 0, none, 0, 0, rfl, fun h => absurd h (by decide)⟩
    refine ⟨2, L, L2, fun wc _ => (implPlain_nil _ _ _ _ _ _ _).mono ?_, fun wc _ => (specPlain_nil _ _ _ _ _ _ _).mono ?_, fun h => absurd h (by decide)⟩
    all_goals
      rintro e w' ⟨rfl, hb⟩
      exact ⟨no _ _ _, hb⟩
  · cases h
    exact ⟨plC n N A m L m2 L2, _, _, fun wc hb => (implPlain_any b 0 n d0 g 0 m d g2 0 m2 d2 N A L L2 wc (hS.keep hb) (hL.keep hb) (hL2.keep hb) hk (by omega) (by omega)).mono fun e w' h => ⟨h.1.eqn, h.2⟩,
      fun wc hb => (specPlain_any b 0 n d0 g 0 m d g2 0 m2 d2 N A L L2 wc (hS.keep hb) (hL.keep hb) (hL2.keep hb) hk (by omega) (by omega)).mono fun e w' h => ⟨h.1.eqn, h.2⟩,
      fun hC => ⟨b, N, A, rfl, hk, hS, pln_fine hC⟩⟩

set_option maxRecDepth 20000 in
set_option maxHeartbeats 800000 in
theorem lwAtB_any (p : Option Addr) (n c : Nat) (l : List Int) (i m : Int) (w : World) (h : Byt.Src w p n l) (hi : 0 ≤ i) (hi2 : i ≤ 1000) (hm : 2 ≤ m) (hm2 : m ≤ 200) :
    Calls Try.prog 8 #[.slice p n c, .int .i64 i, .int .i64 m] w fun e w' => ∃ v : Int, e = .returned (.int .i64 v) ∧ 0 ≤ v ∧ v < m ∧ Below w.heap.size w w' := by
  obtain ⟨hl, hmx, hbd, hz⟩ := h
  have h1 : ¬ m ≤ 1 := by omega
  by_cases hn : n = 0
  · subst hn
    clear hz
    go_enter Try.func8, Try.ntmps8
    go_wp2
    go_ret
    exact ⟨_, rfl, Int.emod_nonneg _ (by omega), Int.emod_lt_of_pos _ (by omega), Below.refl _ _⟩
  · obtain ⟨b, off, rfl, hlt, hc⟩ := hz.resolve_left hn
    obtain ⟨k, rfl⟩ := Int.eq_ofNat_of_zero_le hi
    have hn1 : (0 : Int) < (n : Int) := by omega
    have hne : ((n : Int) == 0) = false := by simp; omega
    have hj : k % n < n := Nat.mod_lt _ (by omega)
    have c2 := hc (k % n) hj
    have hb2 := hbd (k % n)
    generalize l.getD (k % n) 0 = x at *
    have hd0 : 0 ≤ (k : Int) / (n : Int) := Int.ediv_nonneg (by omega) (by omega)
    have hd1 : (k : Int) / (n : Int) ≤ 1000000 := by
      have := Int.ediv_le_self (a := (k : Int)) (n : Int) (by omega)
      omega
    clear hc hbd hz
    have h2 : ¬ 200 < m := by omega
    go_enter Try.func8, Try.ntmps8
    go_wp2
    go_region
    go_wp2
    go_ret
    exact ⟨_, rfl, Int.emod_nonneg _ (by omega), Int.emod_lt_of_pos _ (by omega), (Below.refl _ _).drew⟩

set_option maxRecDepth 20000 in
set_option maxHeartbeats 400000 in
theorem lwBig_any (p : Option Addr) (n c : Nat) (w : World) (hn : n ≤ 1048576) : Calls Try.prog 4 #[.slice p n c] w fun e w' => e = .returned (.bool false) ∧ w' = w := by
  have h : ¬ (1048576 : Int) < n := by omega
  go_enter Try.func4, Try.ntmps4
  go_wp2
  go_ret
  exact ⟨rfl, rfl⟩

set_option maxRecDepth 20000 in
set_option maxHeartbeats 400000 in
theorem lwBig_big (p : Option Addr) (n c : Nat) (w : World) (hn : ¬ n ≤ 1048576) : Calls Try.prog 4 #[.slice p n c] w fun e w' => e = .returned (.bool true) ∧ w' = w := by
  have h : (1048576 : Int) < n := by omega
  go_enter Try.func4, Try.ntmps4
  go_wp2
  go_ret
  exact ⟨rfl, rfl⟩

theorem fldE0 (C : Int) (a : Option Addr) (b k : Nat) (a2 : Option Addr) (b2 k2 : Nat) (v : World) : (Instr.field 33 (.agg #[.int .i64 C, .slice a b k, .slice a2 b2 k2]) 0).run Try.prog v = .ok (.int .i64 C) v := by kernel_rfl
theorem fldE1 (C : Int) (a : Option Addr) (b k : Nat) (a2 : Option Addr) (b2 k2 : Nat) (v : World) : (Instr.field 33 (.agg #[.int .i64 C, .slice a b k, .slice a2 b2 k2]) 1).run Try.prog v = .ok (.agg #[.slice a b k, .slice a2 b2 k2]) v := by kernel_rfl

/-- One equation as a list. -/
def oneD (m1 : Nat) (L1 : Nat → Int) (m2 : Nat) (L2 : Nat → Int) : EqL := ⟨fun _ => m1, fun _ => L1, fun _ => m2, fun _ => L2⟩

theorem oneD_eqs (w : World) (g1 m1 d1 g2 m2 d2 : Nat) (L1 L2 : Nat → Int) (t : TypeId) (h1 : Ints w g1 0 m1 L1) (h2 : Ints w g2 0 m2 L2) : Eqs (w.alloc (.cells #[.slice (some ⟨g1, 0, none⟩) m1 d1, .slice (some ⟨g2, 0, none⟩) m2 d2] t)) w.heap.size 0 1 (oneD m1 L1 m2 L2) := by
  refine ⟨fun _ => by simp, fun i hi => ?_⟩
  obtain rfl : i = 0 := by omega
  exact ⟨g1, 0, d1, g2, 0, d2, by simp [go_sem, oneD], by simp [go_sem, oneD], h1.keep (alloc_below _ _), h2.keep (alloc_below _ _)⟩

theorem oneD_kept {m1 m2 : Nat} {L1 L2 : Nat → Int} (h1 : m1 ≤ 25) (h2 : m2 ≤ 25) : KeptE 1 (oneD m1 L1 m2 L2) :=
  ⟨by omega, fun _ _ => by simp only [oneD]; omega, fun _ _ => by simp only [oneD]; omega⟩

theorem oneD_same (m1 : Nat) (L1 : Nat → Int) (m2 : Nat) (L2 : Nat → Int) : sameE 1 1 (oneD m1 L1 m2 L2) (oneD m1 L1 m2 L2) = true :=
  sameE_yes fun i _ => by
    have s : ∀ (m : Nat) (L : Nat → Int), sameI m m L L = true := fun m L => by unfold sameI; exact decide_eq_true ⟨rfl, fun _ _ => rfl⟩
    simp only [eqAt, eqB, oneD, s, Bool.and_self]

theorem Ints.congrP {w : World} {b off n : Nat} {L M : Nat → Int} (h : Ints w b off n L) (e : ∀ i, i < n → L i = M i) : Ints w b off n M :=
  ⟨h.blk, fun i hi => by rw [← e i hi]; exact h.cell i hi⟩

/-- A plain equation of right sides that are plain already (or were shifted): its answer. -/
theorem plain_again (b n d0 g1 d1 g2 d2 m1 m2 : Nat) (N : Nat → ByteArray) (A L1 L2 U1 U2 : Nat → Int) (w : World) (h : Syms w b 0 n N A) (h1 : Ints w g1 0 m1 L1) (h2 : Ints w g2 0 m2 L2) (hk : Kept n N A) (hm1 : m1 ≤ 25) (hm2 : m2 ≤ 25) (hc : plC n N A m1 L1 m2 L2 = 0) (e1 : ∀ i, i < m1 → rn (eqV m1 L1 m2 L2) (L1 i) = U1 i) (e2 : ∀ i, i < m2 → rn (eqV m1 L1 m2 L2) (L2 i) = U2 i) :
    Calls Try.prog 6 #[.agg #[.slice (some ⟨b, 0, none⟩) n d0], .agg #[.slice (some ⟨g1, 0, none⟩) m1 d1, .slice (some ⟨g2, 0, none⟩) m2 d2]] w fun e w' => (∃ g3 d3 g4 d4, e = .returned (.agg #[.int .i64 0, .slice (some ⟨g3, 0, none⟩) m1 d3, .slice (some ⟨g4, 0, none⟩) m2 d4]) ∧ Ints w' g3 0 m1 U1 ∧ Ints w' g4 0 m2 U2) ∧ Below w.heap.size w w' := by
  refine (implPlain_any b 0 n d0 g1 0 m1 d1 g2 0 m2 d2 N A L1 L2 w h h1 h2 hk (by omega) (by omega)).mono ?_
  rintro e w' ⟨ha, hb⟩
  rw [hc] at ha
  rcases ha with ⟨h0, _⟩ | ⟨_, g3, d3, g4, d4, rfl, _, _, o1, o2⟩
  · exact absurd rfl h0
  · exact ⟨⟨g3, d3, g4, d4, rfl, o1.ints.congrP e1, o2.ints.congrP e2⟩, hb⟩

theorem shift_ok (b n d0 g d m : Nat) (N : Nat → ByteArray) (A U : Nat → Int) (y : Int) (w : World) (h : Syms w b 0 n N A) (h1 : Ints w g 0 m U) (hk : Kept n N A) (hm : m ≤ 25) (hc : shC n N A m U y = 0) :
    Calls Try.prog 9 #[.agg #[.slice (some ⟨b, 0, none⟩) n d0], .slice (some ⟨g, 0, none⟩) m d, .int .i64 y] w fun e w' => (∃ g3 d3, e = .returned (.agg #[.int .i64 0, .slice (some ⟨g3, 0, none⟩) m d3]) ∧ Ints w' g3 0 m (shT y U)) ∧ Below w.heap.size w w' := by
  refine (implShift_any b 0 n d0 g 0 m d N A U y w h h1 hk (by omega)).mono ?_
  rintro e w' ⟨ha, hb⟩
  rw [hc] at ha
  rcases ha with ⟨h0, _⟩ | ⟨_, g3, d3, rfl, _, o1⟩
  · exact absurd rfl h0
  · exact ⟨⟨g3, d3, rfl, o1.ints⟩, hb⟩

end Go.Proofs.Ytbgemmhkfbfooaa
