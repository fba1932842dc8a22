/- Several texts as one: KeyMath, DrawK, KeyT, CutI, BCmp, KyKit. -/
import Derived.Test.YtjjpkhlbokfjpaaPkB
import Derived.Deep.RegionHeld3
import Derived.Test.YtjjpkhlbokfjpaaPkA
import Derived.Test.YtjjpkhlbokfjpaaBSum
import Derived.Test.YtjjpkhlbokfjpaaBLists
import Derived.Lib.BytesEntry
/- Plain facts for law FnKeys: whatever stands between two keys of one class begins as they do. -/
namespace Go.Proofs.Ytjjpkhlbokfjpaa
open Go.RowKit

theorem begB_nil (c : List Int) : Byt.begB c [] = true := by simp [Byt.begB]

theorem begB_cons (x y : Int) (c P : List Int) : Byt.begB (x :: c) (y :: P) = (decide (x = y) && Byt.begB c P) := by
  rw [Bool.eq_iff_iff]
  simp only [Byt.begB, List.length_cons, List.take_succ_cons, Bool.and_eq_true, decide_eq_true_eq, List.cons.injEq]
  constructor
  · rintro ⟨h1, h2, h3⟩; exact ⟨h2, by omega, h3⟩
  · rintro ⟨h1, h2, h3⟩; exact ⟨by omega, h1, h3⟩

/-- What does not begin with P stands on one side of all that does. -/
theorem ordL_side : ∀ (P x y c : List Int), Byt.begB c P = false → Byt.ordL (P ++ x) c * Byt.ordL c (P ++ y) < 0
  | [], _, _, c, h => by rw [begB_nil] at h; cases h
  | p :: P, x, y, [], _ => by simp [Byt.ordL]
  | p :: P, x, y, d :: c, h => by
    rw [begB_cons] at h
    simp only [List.cons_append, Byt.ordL]
    by_cases h1 : p < d
    · have h2 : ¬ d < p := by omega
      simp [h1, h2]
    · by_cases h2 : d < p
      · simp [h1, h2]
      · obtain rfl : d = p := by omega
        simp only [Int.lt_irrefl, if_false]
        exact ordL_side P x y c (by simpa using h)

theorem begB_both {c P Q : List Int} (h : Byt.begB c P = true) (h' : Byt.begB c Q = true) (hl : P.length ≤ Q.length) : Byt.begB Q P = true := by
  simp only [Byt.begB, Bool.and_eq_true, decide_eq_true_eq] at h h' ⊢
  refine ⟨hl, ?_⟩
  rw [← h'.2, List.take_take, Nat.min_eq_left hl]
  exact h.2

theorem begB_app (P x : List Int) : Byt.begB (P ++ x) P = true := by simp [Byt.begB]

/-- The classes of two keys and of one between them are one. -/
theorem key_between {n m k : Nat} {A L M : Nat → Int} (h : Trm n A m L) (h' : Trm n A k M) {x y z : List Int}
    (hb : 0 < Byt.ordL (packT L m ++ x) (packT M k ++ z) * Byt.ordL (packT M k ++ z) (packT L m ++ y)) : m = k ∧ ∀ i, i < m → M i = L i := by
  have h1 : Byt.begB (packT M k ++ z) (packT L m) = true := by
    cases e : Byt.begB (packT M k ++ z) (packT L m) with
    | true => rfl
    | false => have := ordL_side (packT L m) x y _ e; omega
  have h2 := begB_app (packT M k) z
  by_cases hl : m ≤ k
  · have h3 := begB_both h1 h2 (by rw [packT_len, packT_len]; exact hl)
    obtain ⟨e, he⟩ := pack_apart h' h h3
    exact ⟨e.symm, fun i hi => (he i (by omega)).symm⟩
  · exact pack_apart h h' (begB_both h2 h1 (by rw [packT_len, packT_len]; omega))

theorem gnd_congr {m : Nat} {T T' : Nat → Int} (h : ∀ i, i < m → T' i = T i) : gndB m T' = gndB m T := by
  rw [Bool.eq_iff_iff]
  simp only [gndB, decide_eq_true_eq]
  exact ⟨fun h1 i hi => by rw [← h i hi]; exact h1 i hi, fun h1 i hi => by rw [h i hi]; exact h1 i hi⟩

theorem short_congr {m k : Nat} {T T' M M' : Nat → Int} (h : ∀ i, i < m → T' i = T i) (h' : ∀ i, i < k → M' i = M i) : shortC m T' k M' = shortC m T k M := by
  simp only [shortC, gnd_congr h, gnd_congr h']

/-- Bytes that begin with a packed term are read as that term. -/
theorem pack_ahead {n m t : Nat} {A L : Nat → Int} {l : Nat → Int} (h : Trm n A m L) (hl : ∀ i, i < m → l i = bytN (L i)) (ht : m ≤ t) : rdK n A t l = m ∧ ∀ i, i < m → nodT l i = L i := by
  have hn : ∀ i, i < m → nodT l i = L i := fun i hi => by
    show nodV (l i) = L i
    rw [hl i hi]; exact (node_byte h.sig.most (h.nods.node i hi)).1
  refine ⟨rd_at ⟨h.pos, ht, h.nods.most, fun i hi => ?_, ?_⟩, hn⟩
  · rw [hl i hi]; exact (node_byte h.sig.most (h.nods.node i hi)).2
  · have := skip_shift (aOf A L) (aOf A (nodT l)) m m m 0 0 1 m (by omega) h.whole (fun i hi => aOf_eq (hn _ (by omega))) (by omega)
    simpa using this

/-- The bytes of a key are cut into its two terms. -/
theorem key_cut {n m k : Nat} {A L M : Nat → Int} (h : Trm n A m L) (h' : Trm n A k M) (hs : shortC m L k M = 0) :
    rdK n A (m + k) (fun i => (packT L m ++ packT M k).getD i 0) = m ∧ rd2 n A (m + k) (fun i => (packT L m ++ packT M k).getD i 0) = k ∧ CutP n A (m + k) (fun i => (packT L m ++ packT M k).getD i 0) ∧
      (∀ i, i < m → nodT (fun i => (packT L m ++ packT M k).getD i 0) i = L i) ∧ (∀ i, i < k → nodT (behind (fun i => (packT L m ++ packT M k).getD i 0) m) i = M i) := by
  have hl : ∀ i, i < m → (packT L m ++ packT M k).getD i 0 = bytN (L i) := fun i hi => by
    rw [List.getD_eq_getElem?_getD, List.getElem?_append_left (by rw [packT_len]; exact hi), ← List.getD_eq_getElem?_getD, packT_getD L m i hi]
  have hr : ∀ i, i < k → (packT L m ++ packT M k).getD (m + i) 0 = bytN (M i) := fun i hi => by
    rw [List.getD_eq_getElem?_getD, List.getElem?_append_right (by rw [packT_len]; omega), packT_len, Nat.add_sub_cancel_left, ← List.getD_eq_getElem?_getD, packT_getD M k i hi]
  obtain ⟨e1, n1⟩ := pack_ahead (l := fun i => (packT L m ++ packT M k).getD i 0) h hl (t := m + k) (by omega)
  obtain ⟨e2, n2⟩ := pack_ahead (l := behind (fun i => (packT L m ++ packT M k).getD i 0) m) h' (fun i hi => hr i hi) (t := m + k - m) (by omega)
  have e3 : rd2 n A (m + k) (fun i => (packT L m ++ packT M k).getD i 0) = k := by rw [rd2, e1]; exact e2
  have hp := h.pos
  have hp' := h'.pos
  refine ⟨e1, e3, ⟨by rw [e1]; omega, by rw [e3]; omega, by rw [e1, e3], ?_⟩, n1, n2⟩
  rw [e1, e3, short_congr n1 n2]
  exact hs

end Go.Proofs.Ytjjpkhlbokfjpaa

/- Contracts: a signature and two terms are drawn for laws on keys. -/
namespace Go.Proofs.Ytjjpkhlbokfjpaa
open Go.RowKit

theorem nums01 (W : World) : Byt.Nums (W.alloc (.cells #[.int .i64 0, .int .i64 1] 2)) W.heap.size 2 [0, 1] :=
  ⟨rfl, fun i hi => by
    match i, hi with
    | 0, _ => simp [go_sem]
    | 1, _ => simp [go_sem]⟩

theorem nums138 (W : World) : Byt.Nums (W.alloc (.cells #[.int .i64 1, .int .i64 3, .int .i64 8] 2)) W.heap.size 3 [1, 3, 8] :=
  ⟨rfl, fun i hi => by
    match i, hi with
    | 0, _ => simp [go_sem]
    | 1, _ => simp [go_sem]
    | 2, _ => simp [go_sem]⟩

theorem nums388 (W : World) : Byt.Nums (W.alloc (.cells #[.int .i64 3, .int .i64 8, .int .i64 8] 2)) W.heap.size 3 [3, 8, 8] :=
  ⟨rfl, fun i hi => by
    match i, hi with
    | 0, _ => simp [go_sem]
    | 1, _ => simp [go_sem]
    | 2, _ => simp [go_sem]⟩

theorem in01 (i : Nat) (hi : i < 2) : ∃ x : Nat, [(0 : Int), (1 : Int)].getD i 0 = (x : Int) ∧ x ≤ 1 ∧ 0 ≤ x := by
  match i, hi with
  | 0, _ => exact ⟨0, rfl, by omega, by omega⟩
  | 1, _ => exact ⟨1, rfl, by omega, by omega⟩

theorem in138 (i : Nat) (hi : i < 3) : ∃ x : Nat, [(1 : Int), (3 : Int), (8 : Int)].getD i 0 = (x : Int) ∧ x ≤ 24 ∧ 1 ≤ x := by
  match i, hi with
  | 0, _ => exact ⟨1, rfl, by omega, by omega⟩
  | 1, _ => exact ⟨3, rfl, by omega, by omega⟩
  | 2, _ => exact ⟨8, rfl, by omega, by omega⟩

theorem in388 (i : Nat) (hi : i < 3) : ∃ x : Nat, [(3 : Int), (8 : Int), (8 : Int)].getD i 0 = (x : Int) ∧ x ≤ 24 ∧ 3 ≤ x := by
  match i, hi with
  | 0, _ => exact ⟨3, rfl, by omega, by omega⟩
  | 1, _ => exact ⟨8, rfl, by omega, by omega⟩
  | 2, _ => exact ⟨8, rfl, by omega, by omega⟩

/-- What was drawn: a signature and two lists of numbers. -/
structure KeyDr (w w' : World) (q : Option Addr) (n d0 g m d g2 m2 d2 : Nat) : Prop where
  few : m ≤ 25
  cap : m ≤ d
  row : ∃ L, Ints w' g 0 m L
  few2 : m2 ≤ 25
  cap2 : m2 ≤ d2
  row2 : ∃ L, Ints w' g2 0 m2 L
  sig : SigV w' (.slice q n d0)
  below : Below w.heap.size w w'

/-- Where the source is turned alone, and how much of it was read at most. -/
structure Rs (W wc : World) (s : Nat) (p : Option Addr) (nn c k : Nat) : Prop where
  grw : W.grownBy wc (some s)
  gen : ∃ a, a ≤ k ∧ Byt.Gen wc s p nn c a

theorem Rs.alloc {W wc : World} {s nn c k : Nat} {p : Option Addr} (h : Rs W wc s p nn c k) (o : Obj) : Rs W (wc.alloc o) s p nn c k :=
  ⟨grownBy_trans h.grw (World.grownBy_alloc _ _ (some s)), h.gen.imp fun _ h => ⟨h.1, h.2.alloc o⟩⟩

theorem Rs.drew {W : World} {s nn c a k : Nat} {p : Option Addr} (h : Byt.Gen W s p nn c a) (ha : a ≤ k) : Rs W W.drew s p nn c k :=
  ⟨⟨rfl, rfl, rfl, Nat.le_refl _, fun _ _ _ => rfl⟩, a, ha, h.grown (show W.grownBy W.drew (some (s + 1)) from ⟨rfl, rfl, rfl, Nat.le_refl _, fun _ _ _ => rfl⟩) (by omega)⟩

theorem numsK {W : World} {b k : Nat} {xs : List Int} (h : Byt.Nums W b k xs) (o : Obj) (hb : b < W.heap.size) : Byt.Nums (W.alloc o) b k xs :=
  ⟨h.len, fun i hi => ((alloc_below W o).cell (p := ⟨b, i, none⟩) hb).trans (h.cell i hi)⟩

theorem Rs.drw {W wc : World} {s nn c k : Nat} {p : Option Addr} (h : Rs W wc s p nn c k) : Rs W wc.drew s p nn c k :=
  ⟨grownBy_trans h.grw ⟨rfl, rfl, rfl, Nat.le_refl _, fun _ _ _ => rfl⟩, h.gen.imp fun _ h => ⟨h.1, h.2.grown (show wc.grownBy wc.drew (some (s + 1)) from ⟨rfl, rfl, rfl, Nat.le_refl _, fun _ _ _ => rfl⟩) (by omega)⟩⟩

theorem numsD {W : World} {b k : Nat} {xs : List Int} (h : Byt.Nums W b k xs) : Byt.Nums W.drew b k xs := ⟨h.len, h.cell⟩

theorem nums138' (W : World) (o : Obj) : Byt.Nums ((W.alloc o).alloc (.cells #[.int .i64 1, .int .i64 3, .int .i64 8] 2)) (W.heap.size + 1) 3 [1, 3, 8] := by have := nums138 (W.alloc o); rwa [World.size_alloc] at this
theorem nums388' (W : World) (o : Obj) : Byt.Nums ((W.alloc o).alloc (.cells #[.int .i64 3, .int .i64 8, .int .i64 8] 2)) (W.heap.size + 1) 3 [3, 8, 8] := by have := nums388 (W.alloc o); rwa [World.size_alloc] at this

theorem Ints.by {w w' : World} {b n s : Nat} {L : Nat → Int} (h : Ints w b 0 n L) (hg : w.grownBy w' (some s)) (hne : b ≠ s) : Ints w' b 0 n L :=
  ⟨fun h0 => Nat.lt_of_lt_of_le (h.blk h0) hg.size, fun i hi => hg.cell (h.cell i hi) (by simpa using hne)⟩

set_option maxRecDepth 20000 in
set_option maxHeartbeats 12800000 in
theorem drawKey_any (p : Option Addr) (nn c : Nat) (l : List Int) (w : World) (h : Byt.Src w p nn l) :
    Calls Try.prog 23 #[.slice p nn c] w fun e w' => ∃ q n d0 g m d g2 m2 d2, e = .returned (.tuple #[.agg #[.slice q n d0], .slice (some ⟨g, 0, none⟩) m d, .slice (some ⟨g2, 0, none⟩) m2 d2]) ∧ KeyDr w w' q n d0 g m d g2 m2 d2 := by
  have H := hidden h
  have R1 := hidden (Cel.new w (.slice none 0 0) 26)
  clear h
  go_enter Try.func23, Try.ntmps23
  go_wp2_with fail
  with_reducible refine (Byt.l1Source_any p nn c _).mono ?_
  rintro e w1 ⟨s, rfl, hs, hg, hb⟩
  rw [World.size_alloc] at hs
  have B1 := hidden (keepB (alloc_below w (.cells #[.slice none 0 0] 26)) hb)
  replace R1 := hidden (R1.out.keep hb)
  have G1 := hidden hg
  clear hb hg
  go_wp2_with fail
  with_reducible refine (l2Bent_any s p nn c l w w1 G1.out H.out B1.out (by omega)).mono ?_
  rintro e w2 ⟨⟨a, ha, hg⟩, hgr, hv⟩
  have G2 := hidden hg
  have R2 := hidden (R1.out.grown hgr (by omega))
  have B2 := hidden (B1.out.grown hgr B1.out.size (fun k hk => by cases hk; omega))
  have hs1 := G1.out.blk
  obtain ⟨vs, rfl, hsv⟩ : ∃ vs, e = .returned (.agg #[vs]) ∧ SigV w2 vs ∧ ∃ q n d, vs = .slice q n d ∧ n ≤ 7 ∧ (∀ b, q = some b → b.block ≠ s ∧ w.heap.size < b.block) := by
    rcases hv with rfl | ⟨g, m, d, N, A, rfl, hgl, hm, hk, ho⟩
    · exact ⟨_, rfl, Or.inl rfl, none, 0, 0, rfl, by omega, fun b hb => by cases hb⟩
    · exact ⟨_, rfl, Or.inr ⟨g, m, d, N, A, rfl, hm, hk, ho.syms hk.big hk.fits⟩, some ⟨g, 0, none⟩, m, d, rfl, hm, fun b hb => by cases hb; exact ⟨by show g ≠ s; omega, by show w.heap.size < g; omega⟩⟩
  obtain ⟨hsv, q, n, d0, rfl, hn7, hqs⟩ := hsv
  have SV := hidden hsv
  have HQ := hidden hqs
  clear hv hg hgr hsv hqs R1 G1 B1
  have G3 := hidden (G2.out.alloc (.cells #[.slice q n d0] 26))
  have R3 := hidden (R2.out.keep (alloc_below w2 (.cells #[.slice q n d0] 26)))
  have O3 := hidden (One.new w2 (.slice q n d0) 26)
  have B3 := hidden (keepB B2.out (alloc_below w2 (.cells #[.slice q n d0] 26)))
  have S3 := hidden (SV.out.keep (alloc_below w2 (.cells #[.slice q n d0] 26)))
  have hs2 := G2.out.blk
  have hw2 := B2.out.size
  go_wp2_with fail
  with_reducible refine (Byt.l1Chance_any s p nn c a l 6 w _ G3.out H.out B3.out (by omega) (by omega) (by omega) (by omega)).mono ?_
  rintro e W ⟨cv, rfl, hgn, hgr, hz⟩
  rw [World.size_alloc] at hz
  have G4 := hidden hgn
  have O4 := hidden (O3.out.grown hgr (by omega))
  have R4 := hidden (R3.out.grown hgr (by omega))
  have S4 := hidden (S3.out.grown hgr (fun g' m' d' e => by cases e; exact (HQ.out _ rfl).1))
  have BW0 := hidden (B3.out.grown hgr B3.out.size (fun k e => by cases e; omega))
  clear hgn hgr G2 G3 R2 R3 O3 B2 B3 S3 SV
  have hsW := G4.out.blk
  have BW := hidden (show ∀ wc, W.grownBy wc (some s) → Below w.heap.size w wc from fun wc hk => BW0.out.grown hk BW0.out.size (fun k e => by cases e; omega))
  have CW := hidden (show ∀ w', W.grownBy w' (some s) → w'.cell? ⟨w2.heap.size, 0, none⟩ = some (.slice q n d0) ∧ w'.cell? ⟨w.heap.size, 0, none⟩ = some (.slice none 0 0) ∧ w'.frozen? ⟨w.heap.size, 0, none⟩ = false from fun w' hk => ⟨(O4.out.grown hk (by omega)).c0, (R4.out.grown hk (by omega)).c0, (R4.out.grown hk (by omega)).f0⟩)
  have F1 := hidden (show ∀ (wc : World) (b k i hi9 lo : Nat) (xs : List Int), Rs W wc s p nn c i → i ≤ 3000 → Byt.Nums wc b k xs → b ≠ s → 0 < k → k ≤ 9 → (∀ j, j < k → ∃ x : Nat, xs.getD j 0 = (x : Int) ∧ x ≤ hi9 ∧ lo ≤ x) → Calls Try.prog 31 #[.pointer (some ⟨s, 0, none⟩), .slice (some ⟨b, 0, none⟩) k k] wc fun e w' => ∃ x : Nat, e = .returned (.int .i64 (x : Int)) ∧ Hid (x ≤ hi9 ∧ lo ≤ x) ∧ Hid (Rs W w' s p nn c (i + 1)) ∧ Hid (wc.grownBy w' (some s)) ∧ w'.cell? ⟨w2.heap.size, 0, none⟩ = some (.slice q n d0) ∧ w'.cell? ⟨w.heap.size, 0, none⟩ = some (.slice none 0 0) ∧ w'.frozen? ⟨w.heap.size, 0, none⟩ = false from fun wc b k i hi9 lo xs hr hi hx hbs hk0 hk9 hin => by
    obtain ⟨a', ha', hg'⟩ := hr.gen
    refine (Byt.l1Pick_any s p nn c a' l b k k xs w wc hg' H.out (BW.out wc hr.grw) (by omega) (by omega) hx hbs hk0 (by omega)).mono ?_
    rintro e w' ⟨j, hj, rfl, hg2, hgr, -⟩
    obtain ⟨x, hx, hx1, hx2⟩ := hin j hj
    have hk' := grownBy_trans hr.grw hgr
    exact ⟨x, by rw [hx], hidden ⟨hx1, hx2⟩, hidden ⟨hk', a' + 1, by omega, hg2⟩, hidden hgr, CW.out w' hk'⟩)
  have F3 := hidden (show ∀ (wc : World) (mz vz : Int) (most vars i : Nat), mz = (most : Int) → vz = (vars : Int) → Rs W wc s p nn c i → i ≤ 3000 → 1 ≤ most → most ≤ 24 → vars ≤ 12 → Calls Try.prog 30 #[.pointer (some ⟨s, 0, none⟩), .pointer (some ⟨w2.heap.size, 0, none⟩), .int .i64 mz, .int .i64 vz] wc fun e w' => ∃ g m d, e = .returned (.slice (some ⟨g, 0, none⟩) m d) ∧ Hid (m ≤ 25 ∧ m ≤ d ∧ W.heap.size ≤ g ∧ ∃ L, Ints w' g 0 m L) ∧ Hid (Rs W w' s p nn c (i + 200)) ∧ Hid (wc.grownBy w' (some s)) ∧ w'.cell? ⟨w2.heap.size, 0, none⟩ = some (.slice q n d0) ∧ w'.cell? ⟨w.heap.size, 0, none⟩ = some (.slice none 0 0) ∧ w'.frozen? ⟨w.heap.size, 0, none⟩ = false from fun wc mz vz most vars i hmz hvz hr hi hm1 hm24 hv12 => by
    subst hmz hvz
    obtain ⟨a', ha', hg'⟩ := hr.gen
    refine (l3BentTerm_any s p nn c a' l w wc hg' H.out (BW.out wc hr.grw) (by omega) (by omega) w2.heap.size q n d0 (O4.out.grown hr.grw (by omega)) (S4.out.grown hr.grw (fun g' m' d' e => by cases e; exact (HQ.out _ rfl).1)) (by omega) (fun b hb => (HQ.out b hb).1) most vars hm1 hm24 hv12).mono ?_
    rintro e w' ⟨g, m, d, a2, rfl, hm, hmd, ha2, hd⟩
    have hk' := grownBy_trans hr.grw hd.grw
    exact ⟨g, m, d, rfl, hidden ⟨hm, hmd, Nat.le_trans hr.grw.size hd.hg, hd.row⟩, hidden ⟨hk', a2, by omega, hd.gen⟩, hidden hd.grw, CW.out w' hk'⟩)
  have FIN := hidden (show ∀ (wb : World) (g m d g2 m2 d2 : Nat) (u : Value), W.grownBy wb (some s) → (m ≤ 25 ∧ m ≤ d ∧ W.heap.size ≤ g ∧ ∃ L, Ints wb g 0 m L) → (m2 ≤ 25 ∧ m2 ≤ d2 ∧ W.heap.size ≤ g2 ∧ ∃ L, Ints wb g2 0 m2 L) → KeyDr w (wb.setCell ⟨w.heap.size, 0, none⟩ u) q n d0 g m d g2 m2 d2 from fun wb g m d g2 m2 d2 u hk h1 h2 => by
    obtain ⟨a1, a2, a3, L, a4⟩ := h1
    obtain ⟨b1, b2, b3, L2, b4⟩ := h2
    refine ⟨a1, a2, ⟨L, a4.by (Byt.setCell_grown _ _ _ _) (by omega)⟩, b1, b2, ⟨L2, b4.by (Byt.setCell_grown _ _ _ _) (by omega)⟩, ?_, (BW.out wb hk).setCell (by simp) _⟩
    exact (S4.out.grown hk (fun g' m' d' e => by cases e; exact (HQ.out _ rfl).1)).grown (s := w.heap.size) (Byt.setCell_grown _ _ _ _) (fun g' m' d' e => by cases e; exact Nat.ne_of_gt (HQ.out _ rfl).2))
  have RS0 := hidden (show Rs W W s p nn c 1001 from ⟨⟨rfl, rfl, rfl, Nat.le_refl _, fun _ _ _ => rfl⟩, _, by omega, G4.out⟩)
  obtain ⟨x1, x2, x3⟩ := CW.out W ⟨rfl, rfl, rfl, Nat.le_refl _, fun _ _ _ => rfl⟩
  have hnew : w.heap.size ≠ w2.heap.size := by omega
  have HZ := hidden hz
  clear hz
  clear CW BW BW0 S4 O4 R4 G4
  cases cv
  · go_wp2_with fail
    go_cut [3, 4] (fun t t' wc => ∃ g m d g2 m2 d2, t = .slice (some ⟨g, 0, none⟩) m d ∧ t' = .slice (some ⟨g2, 0, none⟩) m2 d2 ∧ wc.cell? ⟨w.heap.size, 0, none⟩ = some (.slice q n d0) ∧ Hid (KeyDr w wc q n d0 g m d g2 m2 d2))
    case first =>
      go_region_held3 (fun wz => wz.cell? ⟨w2.heap.size, 0, none⟩ = some (.slice q n d0)) (first | assumption | (rw [World.cell?_setCell_far _ _ _ _ hnew]; assumption) | go_keep) (first
        | (go_at_call 31; with_reducible refine (F1.out _ _ 3 1001 24 1 [1, 3, 8] ?_ ?_ ?_ ?_ ?_ ?_ in138).mono ?_; (first | exact (RS0.out.alloc _).drw | exact ((RS0.out.alloc _).alloc _).drw); omega; (first | exact numsD (nums138 _) | exact numsD (numsK (nums138 _) _ (by simp)) | exact numsD (nums138' _ _)); omega; omega; omega; rintro e v1 ⟨y1, rfl, HX1, RS1, GR1, x11, x12, x13⟩)
        | (go_at_call 30; with_reducible refine (F3.out _ _ _ y1 0 1002 ?_ ?_ ?_ ?_ ?_ ?_ ?_).mono ?_; (first | rfl | omega); (first | rfl | omega); (first | exact RS1.out | exact RS1.out.alloc _); omega; exact HX1.out.2; exact HX1.out.1; omega; rintro e v2 ⟨g, m, d, rfl, HY1, RS2, GR2, x21, x22, x23⟩)
        | (go_at_call 31; with_reducible refine (F1.out _ _ 3 1202 24 3 [3, 8, 8] ?_ ?_ ?_ ?_ ?_ ?_ in388).mono ?_; (first | exact RS2.out | exact RS2.out.alloc _); omega; (first | exact nums388 _ | exact Nums.grown (nums388 _) GR2.out (by have := RS1.out.grw.size; omega) | exact Nums.grown (Nums.grown (numsD (nums388' _ _)) GR1.out (by omega)) GR2.out (by omega) | exact Nums.grown (Nums.grown (numsD (numsK (nums388 _) _ (by simp))) GR1.out (by omega)) GR2.out (by omega)); (first | omega | (have := RS1.out.grw.size; omega) | (have := RS2.out.grw.size; omega)); omega; omega; rintro e v3 ⟨y2, rfl, HX2, RS3, GR3, x31, x32, x33⟩)
        | (go_at_call 30; with_reducible refine (F3.out _ _ _ y2 0 1203 ?_ ?_ ?_ ?_ ?_ ?_ ?_).mono ?_; (first | rfl | omega); (first | rfl | omega); exact RS3.out; omega; (have := HX2.out.2; omega); exact HX2.out.1; omega; rintro e v4 ⟨g2, m2, d2, rfl, HY2, RS4, GR4, x41, x42, x43⟩) | fail)
      all_goals (go_wp2_with fail; go_meet)
      all_goals
        have hgs : g ≠ s := by have := HY1.out.2.2.1; omega
        have KY : m ≤ 25 ∧ m ≤ d ∧ W.heap.size ≤ g ∧ ∃ L, Ints v4 g 0 m L := ⟨HY1.out.1, HY1.out.2.1, HY1.out.2.2.1, HY1.out.2.2.2.imp fun L h => by first | exact (h.by GR3.out hgs).by GR4.out hgs | exact ((h.keep (alloc_below _ _)).by GR3.out hgs).by GR4.out hgs⟩
        exact ⟨_, _, _, _, _, _, rfl, rfl, World.cell?_setCell_same' _ _ _ (by rw [x42]; rfl), hidden (FIN.out v4 _ _ _ _ _ _ _ RS4.out.grw KY HY2.out)⟩
    case rest =>
      rename World => w9
      obtain ⟨g, m, d, g2, m2, d2, rfl, rfl, r0, hu⟩ := hcut
      clear F1 F3 FIN RS0 HQ H
      go_wp2
      refine bodyPost_ret (v := .tuple #[.agg #[.slice q n d0], .slice (some ⟨g, 0, none⟩) m d, .slice (some ⟨g2, 0, none⟩) m2 d2]) (by simp [results, Try.results23, go_sem, r0]) rfl ?_
      exact ⟨q, n, d0, g, m, d, g2, m2, d2, rfl, hu.out⟩
  · go_wp2_with fail
    go_cut [3, 4] (fun t t' wc => ∃ g m d g2 m2 d2, t = .slice (some ⟨g, 0, none⟩) m d ∧ t' = .slice (some ⟨g2, 0, none⟩) m2 d2 ∧ wc.cell? ⟨w.heap.size, 0, none⟩ = some (.slice q n d0) ∧ Hid (KeyDr w wc q n d0 g m d g2 m2 d2))
    case first =>
      go_region_held3 (fun wz => wz.cell? ⟨w2.heap.size, 0, none⟩ = some (.slice q n d0)) (first | assumption | (rw [World.cell?_setCell_far _ _ _ _ hnew]; assumption) | go_keep) (first
        | (go_at_call 31; with_reducible refine (F1.out _ _ 2 1001 1 0 [0, 1] ?_ ?_ ?_ ?_ ?_ ?_ in01).mono ?_; exact (RS0.out.alloc _).drw; omega; exact numsD (nums01 _); omega; omega; omega; rintro e v1 ⟨y1, rfl, HX1, RS1, GR1, x11, x12, x13⟩)
        | (go_at_call 30; with_reducible refine (F3.out _ _ _ 9 y1 1002 ?_ ?_ ?_ ?_ ?_ ?_ ?_).mono ?_; (first | rfl | omega); (first | rfl | omega); exact RS1.out; omega; omega; omega; (have := HX1.out; omega); rintro e v2 ⟨g, m, d, rfl, HY1, RS2, GR2, x21, x22, x23⟩)
        | (go_at_call 30; with_reducible refine (F3.out _ _ _ 9 0 1202 ?_ ?_ ?_ ?_ ?_ ?_ ?_).mono ?_; (first | rfl | omega); (first | rfl | omega); exact RS2.out; omega; omega; omega; omega; rintro e v4 ⟨g2, m2, d2, rfl, HY2, RS4, GR4, x41, x42, x43⟩) | fail)
      all_goals (go_wp2_with fail; go_meet)
      all_goals
        have hgs : g ≠ s := by have := HY1.out.2.2.1; omega
        have KY : m ≤ 25 ∧ m ≤ d ∧ W.heap.size ≤ g ∧ ∃ L, Ints v4 g 0 m L := ⟨HY1.out.1, HY1.out.2.1, HY1.out.2.2.1, HY1.out.2.2.2.imp fun L h => h.by GR4.out hgs⟩
        exact ⟨_, _, _, _, _, _, rfl, rfl, World.cell?_setCell_same' _ _ _ (by rw [x42]; rfl), hidden (FIN.out v4 _ _ _ _ _ _ _ RS4.out.grw KY HY2.out)⟩
    case rest =>
      rename World => w9
      obtain ⟨g, m, d, g2, m2, d2, rfl, rfl, r0, hu⟩ := hcut
      clear F1 F3 FIN RS0 HQ H
      go_wp2
      refine bodyPost_ret (v := .tuple #[.agg #[.slice q n d0], .slice (some ⟨g, 0, none⟩) m d, .slice (some ⟨g2, 0, none⟩) m2 d2]) (by simp [results, Try.results23, go_sem, r0]) rfl ?_
      exact ⟨q, n, d0, g, m, d, g2, m2, d2, rfl, hu.out⟩

end Go.Proofs.Ytjjpkhlbokfjpaa

/- Contracts: the key of two terms: KeyOf of the model and of the program. -/
namespace Go.Proofs.Ytjjpkhlbokfjpaa
open Go.RowKit

theorem keyV_map (T1 T2 : Nat → Int) (m1 m2 : Nat) : packV T1 m1 ++ packV T2 m2 = (packT T1 m1 ++ packT T2 m2).map (Value.int .u8) := by simp [packV]
theorem keyV_len (T1 T2 : Nat → Int) (m1 m2 : Nat) : (packT T1 m1 ++ packT T2 m2).length = m1 + m2 := by simp [packT_len]

set_option maxRecDepth 20000 in
set_option maxHeartbeats 1600000 in
theorem specKey_any (b off n c b1 o1 m1 c1 b2 o2 m2 c2 : Nat) (N : Nat → ByteArray) (A T1 T2 : Nat → Int) (w : World) (h : Syms w b off n N A) (h1 : Ints w b1 o1 m1 T1) (h2 : Ints w b2 o2 m2 T2) (hk : Kept n N A) (hm1 : m1 ≤ 1048576) (hm2 : m2 ≤ 1048576) :
    Calls Try.prog 25 #[.agg #[.slice (some ⟨b, off, none⟩) n c], .slice (some ⟨b1, o1, none⟩) m1 c1, .slice (some ⟨b2, o2, none⟩) m2 c2] w fun e w' => BytAns w (keyC n N A m1 T1 m2 T2) (packT T1 m1 ++ packT T2 m2) e w' ∧ Below w.heap.size w w' := by
  have D := hidden ((One.new w (.slice (some ⟨b, off, none⟩) n c) 26).keep (alloc_below _ (.cells #[.int .i64 0, .slice none 0 0] 42)))
  have R := hidden (Res.new (w.alloc (.cells #[.slice (some ⟨b, off, none⟩) n c] 26)) (.int .i64 0) (.slice none 0 0) 42)
  have B := hidden (keepB (alloc_below w (.cells #[.slice (some ⟨b, off, none⟩) n c] 26)) (alloc_below _ (.cells #[.int .i64 0, .slice none 0 0] 42)))
  have Q := hidden (h.keep B.out)
  have I1 := hidden (h1.keep B.out)
  have I2 := hidden (h2.keep B.out)
  have HK := hidden hk
  rw [World.size_alloc] at R
  clear h h1 h2 hk
  go_enter Try.func25, Try.ntmps25
  go_wp2_with fail
  with_reducible refine (specTerm_any _ _ _ _ _ _ _ _ N A T1 _ Q.out I1.out HK.out hm1).mono ?_
  rintro e w1 ⟨rfl, hb⟩
  replace D := hidden (D.out.keep hb)
  replace R := hidden (R.out.keep hb)
  replace B := hidden (keepB B.out hb)
  replace Q := hidden (Q.out.keep hb)
  replace I1 := hidden (I1.out.keep hb)
  replace I2 := hidden (I2.out.keep hb)
  clear hb
  by_cases hf : termF n N A m1 T1 = 0
  · have HF := hidden hf
    have HS := hidden (fault_sound (key_sig hf))
    have HL := hidden (term_l (m := m2) (T := T2) (key_sig hf))
    rw [hf]
    clear hf
    go_wp2_with fail
    with_reducible refine (l3Fault_all _ _ _ _ _ _ _ _ _ N A T2 _ D.out Q.out I2.out HS.out hm2).mono ?_
    rintro e w2 ⟨rfl, hb⟩
    replace D := hidden (D.out.keep hb)
    replace R := hidden (R.out.keep hb)
    replace B := hidden (keepB B.out hb)
    replace Q := hidden (Q.out.keep hb)
    replace I1 := hidden (I1.out.keep hb)
    replace I2 := hidden (I2.out.keep hb)
    clear hb
    rw [← HL.out]
    by_cases hf : termF n N A m2 T2 = 0
    · have HF2 := hidden hf
      have HC := hidden (key_short HF.out hf)
      rw [hf]
      clear hf
      go_wp2_with fail
      with_reducible refine (l5Short_any _ _ _ _ _ _ _ _ T1 T2 _ I1.out I2.out hm1 hm2).mono ?_
      rintro e w3 ⟨rfl, hb⟩
      replace D := hidden (D.out.keep hb)
      replace R := hidden (R.out.keep hb)
      replace B := hidden (keepB B.out hb)
      replace Q := hidden (Q.out.keep hb)
      replace I1 := hidden (I1.out.keep hb)
      replace I2 := hidden (I2.out.keep hb)
      clear hb
      by_cases hf : shortC m1 T1 m2 T2 = 0
      · have HZ := hidden hf
        have HN1 := hidden (term_right HF.out).nods
        have HN2 := hidden (term_right HF2.out).nods
        have ha := HN1.out.most
        have hb := HN2.out.most
        rw [hf]
        clear hf
        go_wp2_with fail
        with_reducible refine (l5Key_any _ _ _ _ _ _ _ _ T1 T2 _ I1.out I2.out ha hb HN1.out.rng HN2.out.rng).mono ?_
        clear hb
        rintro r w4 ⟨g, d, rfl, hgg, ho, hb⟩
        rw [keyV_map] at ho
        have O := hidden ho
        have hR := R.out.blk
        have hBs := B.out.size
        replace R := hidden (R.out.keep hb)
        replace B := hidden (keepB B.out hb)
        clear hb D I1 I2 Q ho
        obtain ⟨_, q0, q1, f0, f1⟩ := id R.out
        go_wp2
        exact bodyPost_ret (v := .agg #[.int .i64 0, .slice (some ⟨g, 0, none⟩) (m1 + m2) d]) (by simp [results, Try.results25, go_sem, q0, q1]) rfl ⟨Or.inr ⟨by rw [HC.out, HZ.out], g, d, by rw [keyV_len], by omega, by
          rw [keyV_len]; exact ((O.out.other _ _ (by simp; omega)).other _ _ (by simp; omega)).base (by omega)⟩, (B.out.setCell (by simp) _).setCell (by simp) _⟩
      · have HN := hidden hf
        have hf' : (shortC m1 T1 m2 T2 != 0) = true := by simpa using hf
        generalize shortC m1 T1 m2 T2 = z at hf' HN HC ⊢
        clear hf
        obtain ⟨_, q0, q1, f0, f1⟩ := id R.out
        go_wp2
        exact bodyPost_ret (v := .agg #[.int .i64 z, .slice none 0 0]) (by simp [results, Try.results25, go_sem, q0, q1]) rfl ⟨Or.inl ⟨by rw [HC.out]; exact HN.out, by rw [HC.out]⟩, (B.out.setCell (by simp) _).setCell (by simp) _⟩
    · have HN := hidden hf
      have HC := hidden (key_two HF.out hf)
      have hf' : (termF n N A m2 T2 != 0) = true := by simpa using hf
      generalize termF n N A m2 T2 = z at hf' HN HC ⊢
      clear hf
      obtain ⟨_, q0, q1, f0, f1⟩ := id R.out
      go_wp2
      exact bodyPost_ret (v := .agg #[.int .i64 z, .slice none 0 0]) (by simp [results, Try.results25, go_sem, q0, q1]) rfl ⟨Or.inl ⟨by rw [HC.out]; exact HN.out, by rw [HC.out]⟩, (B.out.setCell (by simp) _).setCell (by simp) _⟩
  · have HN := hidden hf
    have HC := hidden (key_one (m2 := m2) (T2 := T2) hf)
    have hf' : (termF n N A m1 T1 != 0) = true := by simpa using hf
    generalize termF n N A m1 T1 = z at hf' HN HC ⊢
    clear hf
    obtain ⟨_, q0, q1, f0, f1⟩ := id R.out
    go_wp2
    exact bodyPost_ret (v := .agg #[.int .i64 z, .slice none 0 0]) (by simp [results, Try.results25, go_sem, q0, q1]) rfl ⟨Or.inl ⟨by rw [HC.out]; exact HN.out, by rw [HC.out]⟩, (B.out.setCell (by simp) _).setCell (by simp) _⟩

theorem pieces_two (w : World) (B1 B2 g1 d1 g2 d2 : Nat) (l1 l2 : List Int) (t : TypeId) (h1 : OwnR w B1 g1 l1.length d1 (l1.map (Value.int .u8))) (h2 : OwnR w B2 g2 l2.length d2 (l2.map (Value.int .u8))) (p1 : 0 < l1.length) (p2 : 0 < l2.length) :
    Pieces (w.alloc (.cells #[.slice (some ⟨g1, 0, none⟩) l1.length d1, .slice (some ⟨g2, 0, none⟩) l2.length d2] t)) w.heap.size 0 2 (fun i => if i = 0 then g1 else g2) (fun i => if i = 0 then d1 else d2) (fun i => if i = 0 then l1 else l2) := by
  have a := alloc_below w (.cells #[.slice (some ⟨g1, 0, none⟩) l1.length d1, .slice (some ⟨g2, 0, none⟩) l2.length d2] t)
  have row : ∀ {B g d : Nat} {l : List Int}, OwnR w B g l.length d (l.map (Value.int .u8)) → ∀ j, j < l.length → w.cell? ⟨g, j, none⟩ = some (.int .u8 (l.getD j 0)) := by
    intro B g d l h j hj
    rw [World.ownsRow.cellAt h j (by omega), List.getElem?_map, List.getElem?_eq_getElem hj]
    simp [List.getD_eq_getElem?_getD, List.getElem?_eq_getElem hj]
  refine ⟨fun _ => by simp, fun i hi => ?_, fun i hi => ?_, fun i hi j hj => ?_, fun i hi => ?_⟩
  · match i, hi with
    | 0, _ => simp [go_sem]
    | 1, _ => simp [go_sem]
  · match i, hi with
    | 0, _ => exact Nat.lt_of_lt_of_le h1.lt a.size
    | 1, _ => exact Nat.lt_of_lt_of_le h2.lt a.size
  · match i, hi with
    | 0, _ => exact ((bcell a).1 _ _ h1.lt).trans (row h1 j hj)
    | 1, _ => exact ((bcell a).1 _ _ h2.lt).trans (row h2 j hj)
  · match i, hi with
    | 0, _ => exact p1
    | 1, _ => exact p2

set_option maxRecDepth 20000 in
set_option maxHeartbeats 1600000 in
theorem implKey_any (b off n c b1 o1 m1 c1 b2 o2 m2 c2 : Nat) (N : Nat → ByteArray) (A T1 T2 : Nat → Int) (w : World) (h : Syms w b off n N A) (h1 : Ints w b1 o1 m1 T1) (h2 : Ints w b2 o2 m2 T2) (hk : Kept n N A) (hm1 : m1 ≤ 1048576) (hm2 : m2 ≤ 1048576) :
    Calls Try.prog 24 #[.agg #[.slice (some ⟨b, off, none⟩) n c], .slice (some ⟨b1, o1, none⟩) m1 c1, .slice (some ⟨b2, o2, none⟩) m2 c2] w fun e w' => BytAns w (keyC n N A m1 T1 m2 T2) (packT T1 m1 ++ packT T2 m2) e w' ∧ Below w.heap.size w w' := by
  have D := hidden ((One.new w (.slice (some ⟨b, off, none⟩) n c) 26).keep (alloc_below _ (.cells #[.int .i64 0, .slice none 0 0] 42)))
  have R := hidden (Res.new (w.alloc (.cells #[.slice (some ⟨b, off, none⟩) n c] 26)) (.int .i64 0) (.slice none 0 0) 42)
  have B := hidden (keepB (alloc_below w (.cells #[.slice (some ⟨b, off, none⟩) n c] 26)) (alloc_below _ (.cells #[.int .i64 0, .slice none 0 0] 42)))
  have Q := hidden (h.keep B.out)
  have I1 := hidden (h1.keep B.out)
  have I2 := hidden (h2.keep B.out)
  have HK := hidden hk
  rw [World.size_alloc] at R
  clear h h1 h2 hk
  go_enter Try.func24, Try.ntmps24
  go_wp2_with fail
  with_reducible refine (keyFault_any _ _ _ _ _ _ _ _ _ _ _ _ N A T1 T2 _ Q.out I1.out I2.out HK.out hm1 hm2).mono ?_
  rintro e w1 ⟨rfl, hb⟩
  replace D := hidden (D.out.keep hb)
  replace R := hidden (R.out.keep hb)
  replace B := hidden (keepB B.out hb)
  replace Q := hidden (Q.out.keep hb)
  replace I1 := hidden (I1.out.keep hb)
  replace I2 := hidden (I2.out.keep hb)
  clear hb
  by_cases hf : keyC n N A m1 T1 m2 T2 = 0
  · have HZ := hidden hf
    obtain ⟨k1, k2, k3⟩ := key_right hf
    have HN1 := hidden (term_right k1).nods
    have HN2 := hidden (term_right k2).nods
    have ha := HN1.out.most
    have hc := HN2.out.most
    have P1 := hidden (term_right k1).pos
    have P2 := hidden (term_right k2).pos
    rw [hf]
    clear hf k1 k2 k3
    go_wp2_with fail
    with_reducible refine (packNodes_any _ _ _ _ T1 _ I1.out ha HN1.out.rng).mono ?_
    rintro r w4 ⟨g1, d1, rfl, hg1, ho, hb⟩
    have O1 := hidden ho
    have hR := R.out.blk
    have hBs := B.out.size
    replace R := hidden (R.out.keep hb)
    replace B := hidden (keepB B.out hb)
    replace I2 := hidden (I2.out.keep hb)
    clear hb D I1 Q ho
    go_wp2_with fail
    with_reducible refine (packNodes_any _ _ _ _ T2 _ I2.out hc HN2.out.rng).mono ?_
    rintro r w5 ⟨g2, d2, rfl, hg2, ho, hb⟩
    replace O1 := hidden (O1.out.keep hb)
    have O2 := hidden ho
    replace R := hidden (R.out.keep hb)
    replace B := hidden (keepB B.out hb)
    have hB5 := B.out.size
    clear hb I2 ho
    have PP := hidden (pieces_two w5 _ _ g1 d1 g2 d2 (packT T1 m1) (packT T2 m2) 22 (by rw [packT_len]; exact O1.out) (by rw [packT_len]; exact O2.out) (by rw [packT_len]; exact P1.out) (by rw [packT_len]; exact P2.out))
    simp only [packT_len] at PP
    have hb := alloc_below w5 (.cells #[.slice (some ⟨g1, 0, none⟩) m1 d1, .slice (some ⟨g2, 0, none⟩) m2 d2] 22)
    replace R := hidden (R.out.keep hb)
    replace B := hidden (keepB B.out hb)
    have hB6 := B.out.size
    clear hb O1 O2
    have HJ := hidden (show joinTo (fun i => if i = 0 then packT T1 m1 else packT T2 m2) 2 = packT T1 m1 ++ packT T2 m2 by simp [joinTo])
    go_wp2_with fail
    with_reducible refine (joinBytes_any _ _ 2 _ _ _ (fun i => if i = 0 then packT T1 m1 else packT T2 m2) _ PP.out (by omega) (by rw [HJ.out, keyV_len]; omega)).mono ?_
    rintro r w6 ⟨g, rfl, hgg, ho, hb⟩
    rw [HJ.out] at ho ⊢
    have O := hidden ho
    have hR := R.out.blk
    replace R := hidden (R.out.keep hb)
    replace B := hidden (keepB B.out hb)
    clear hb ho PP
    obtain ⟨_, q0, q1, f0, f1⟩ := id R.out
    generalize hL : packT T1 m1 ++ packT T2 m2 = L at O ⊢
    have HL := hidden hL
    clear hL HJ
    go_wp2
    exact bodyPost_ret (v := .agg #[.int .i64 0, .slice (some ⟨g, 0, none⟩) L.length L.length]) (by simp [results, Try.results24, go_sem, q0, q1]) rfl ⟨Or.inr ⟨HZ.out, g, L.length, by rw [HL.out], by omega, by
      rw [HL.out]; exact ((O.out.other _ _ (by simp; omega)).other _ _ (by simp; omega)).base (by omega)⟩, (B.out.setCell (by simp) _).setCell (by simp) _⟩
  · have HN := hidden hf
    have HC := hidden (rfl : keyC n N A m1 T1 m2 T2 = keyC n N A m1 T1 m2 T2)
    have hf' : (keyC n N A m1 T1 m2 T2 != 0) = true := by simpa using hf
    generalize hz : keyC n N A m1 T1 m2 T2 = z at hf' HN ⊢
    replace HC := hidden hz
    clear hf hz
    obtain ⟨_, q0, q1, f0, f1⟩ := id R.out
    go_wp2
    exact bodyPost_ret (v := .agg #[.int .i64 z, .slice none 0 0]) (by simp [results, Try.results24, go_sem, q0, q1]) rfl ⟨Or.inl ⟨by rw [HC.out]; exact HN.out, by rw [HC.out]⟩, (B.out.setCell (by simp) _).setCell (by simp) _⟩

end Go.Proofs.Ytjjpkhlbokfjpaa

/- Contracts: two terms cut off one behind the other; CutKey of the program. -/
namespace Go.Proofs.Ytjjpkhlbokfjpaa
open Go.RowKit

/-- What cutting two terms answers: nothing, or two lists of its own and the bytes behind them. -/
def CutTwo (w : World) (K1 K2 : Nat) (T1 T2 : Nat → Int) (b' off' m : Nat) (e : Ending) (w' : World) : Prop :=
  (¬ (0 < K1 ∧ 0 < K2) ∧ e = .returned (.tuple #[.agg #[.slice none 0 0, .slice none 0 0], .slice none 0 0, .bool false])) ∨
  ((0 < K1 ∧ 0 < K2) ∧ ∃ g1 d1 g2 d2 o2 c2, e = .returned (.tuple #[.agg #[.slice (some ⟨g1, 0, none⟩) K1 d1, .slice (some ⟨g2, 0, none⟩) K2 d2], .slice (some ⟨b', o2, none⟩) (m - K1 - K2) c2, .bool true]) ∧ w.heap.size ≤ g1 ∧ g1 < g2 ∧
    OwnI w' w.heap.size g1 K1 d1 T1 K1 ∧ OwnI w' w.heap.size g2 K2 d2 T2 K2 ∧ m - K1 - K2 ≤ c2 ∧ (m = K1 + K2 ∨ o2 = off' + K1 + K2))

set_option maxRecDepth 20000 in
set_option maxHeartbeats 3200000 in
theorem cutSides_any (b off n c b' off' m c' : Nat) (N : Nat → ByteArray) (A l : Nat → Int) (w : World) (h : Syms w b off n N A) (hs : Sound n A) (hm : m ≤ 1048576) (hmc : m ≤ c') (hb' : b' < w.heap.size) (hl : Byts w (some ⟨b', off', none⟩) m l) :
    Calls Try.prog 60 #[.agg #[.slice (some ⟨b, off, none⟩) n c], .slice (some ⟨b', off', none⟩) m c'] w fun e w' => CutTwo w (rdK n A m l) (rd2 n A m l) (nodT l) (nodT (behind l (rdK n A m l))) b' off' m e w' ∧ Below w.heap.size w w' := by
  have D := hidden ((One.new w (.slice (some ⟨b, off, none⟩) n c) 26).keep (alloc_below _ (.cells #[.slice none 0 0, .slice none 0 0] 86)))
  have R := hidden (Res.new (w.alloc (.cells #[.slice (some ⟨b, off, none⟩) n c] 26)) (.slice none 0 0) (.slice none 0 0) 86)
  have B := hidden (keepB (alloc_below w (.cells #[.slice (some ⟨b, off, none⟩) n c] 26)) (alloc_below _ (.cells #[.slice none 0 0, .slice none 0 0] 86)))
  have Q := hidden (h.keep B.out)
  have I := hidden (hl.keep B.out)
  have LB := hidden (Nat.lt_of_lt_of_le hb' B.out.size)
  have HS := hidden hs
  rw [World.size_alloc] at R
  have hle := (rd_le (n := n) (A := A) (m := m) (l := l))
  have HK2 := hidden (show rd2 n A m l = rdK n A (m - rdK n A m l) (behind l (rdK n A m l)) from rfl)
  obtain ⟨T2, hT⟩ : ∃ T2, T2 = nodT (behind l (rdK n A m l)) := ⟨_, rfl⟩
  obtain ⟨K2, hk2⟩ : ∃ K2, K2 = rd2 n A m l := ⟨_, rfl⟩
  rw [← hT, ← hk2]
  rw [← hk2] at HK2
  obtain ⟨K1, hk1⟩ : ∃ K1, K1 = rdK n A m l := ⟨_, rfl⟩
  rw [← hk1] at hT HK2 hle ⊢
  have HT := hidden hT
  have HE := hidden hk1
  clear h hl hs hb' hT hk1 hk2
  have d0 := D.out.c0
  go_enter Try.func60, Try.ntmps60
  go_wp2_with fail
  with_reducible refine (cutTerm_reg _ _ _ _ _ _ m c' N A l _ Q.out HS.out hm hmc LB.out I.out).mono ?_
  rintro r w1 ⟨ha, hb⟩
  have hR := R.out.blk
  have hBs := B.out.size
  have LW := hidden hb.size
  replace D := hidden (D.out.keep hb)
  replace R := hidden (R.out.keep hb)
  replace B := hidden (keepB B.out hb)
  replace I := hidden (I.out.keep hb)
  replace Q := hidden (Q.out.keep hb)
  replace LB := hidden (Nat.lt_of_lt_of_le LB.out hb.size)
  rw [← HE.out] at ha
  clear hb d0
  rcases ha with ⟨h0, rfl⟩ | ⟨h0, g1, d1, o1, c1, rfl, hg1, ho1, hc1, hp1⟩
  · have HN := hidden (show ¬ (0 < K1 ∧ 0 < K2) from fun h => by omega)
    clear h0
    obtain ⟨_, q0, q1, f0, f1⟩ := id R.out
    go_wp2
    exact bodyPost_ret (v := .tuple #[.agg #[.slice none 0 0, .slice none 0 0], .slice none 0 0, .bool false]) (by simp [results, Try.results60, go_sem, q0, q1]) rfl ⟨Or.inl ⟨HN.out, rfl⟩, (B.out.setCell (by simp) _).setCell (by simp) _⟩
  · have O1 := hidden ho1
    have HB := hidden (I.out.behind hle.1)
    have HPOS := hidden h0
    clear ho1
    have hk1 : K1 ≤ m := hle.1
    have I2 := hidden (show Byts w1 (some ⟨b', o1, none⟩) (m - K1) (behind l K1) from by
      rcases hp1 with e | e
      · exact ⟨Or.inl (by omega), fun i hi => by omega⟩
      · rw [e]; exact HB.out)
    have HP := hidden hp1
    clear hp1 HB hle
    have d0 := D.out.c0
    go_wp2_with fail
    with_reducible refine (cutTerm_reg _ _ _ _ _ _ (m - K1) c1 N A (behind l K1) _ Q.out HS.out (by omega) hc1 LB.out I2.out).mono ?_
    rintro r w2 ⟨ha, hb⟩
    rw [← HK2.out, ← HT.out] at ha
    have hle2 := (rd_le (n := n) (A := A) (m := m - K1) (l := behind l K1)).1
    rw [← HK2.out] at hle2
    have hB2 := B.out.size
    have hW1 := O1.out.lt
    replace R := hidden (R.out.keep hb)
    replace B := hidden (keepB B.out hb)
    replace O1 := hidden (O1.out.keep hb)
    clear hb d0
    rcases ha with ⟨h2, rfl⟩ | ⟨h2, g2, d2, o2, c2, rfl, hg2, ho2, hc2, hp2⟩
    · have HN := hidden (show ¬ (0 < K1 ∧ 0 < K2) from fun h => by omega)
      clear h0 h2
      obtain ⟨_, q0, q1, f0, f1⟩ := id R.out
      go_wp2
      exact bodyPost_ret (v := .tuple #[.agg #[.slice none 0 0, .slice none 0 0], .slice none 0 0, .bool false]) (by simp [results, Try.results60, go_sem, q0, q1]) rfl ⟨Or.inl ⟨HN.out, rfl⟩, (B.out.setCell (by simp) _).setCell (by simp) _⟩
    · have O2 := hidden ho2
      have HN := hidden (show 0 < K1 ∧ 0 < K2 from ⟨h0, h2⟩)
      have HC := hidden hc2
      have HP2 := hidden (show m = K1 + K2 ∨ o2 = off' + K1 + K2 by
        rcases hp2 with e | e
        · exact Or.inl (by omega)
        · rcases HP.out with e1 | e1
          · exact Or.inl (by omega)
          · exact Or.inr (by rw [e, e1]))
      clear h0 h2 ho2 hp2
      obtain ⟨_, q0, q1, f0, f1⟩ := id R.out
      go_wp2
      exact bodyPost_ret (v := .tuple #[.agg #[.slice (some ⟨g1, 0, none⟩) K1 d1, .slice (some ⟨g2, 0, none⟩) K2 d2], .slice (some ⟨b', o2, none⟩) (m - K1 - K2) c2, .bool true]) (by simp [results, Try.results60, go_sem, q0, q1]) rfl ⟨Or.inr ⟨HN.out, g1, d1, g2, d2, o2, c2, rfl, by omega, by omega, ((O1.out.other _ _ (by simp; omega)).other _ _ (by simp; omega)).base (by omega), ((O2.out.other _ _ (by simp; omega)).other _ _ (by simp; omega)).base (by omega), HC.out, HP2.out⟩, (B.out.setCell (by simp) _).setCell (by simp) _⟩

section
variable {n : Nat} {N : Nat → ByteArray} {A : Nat → Int} {m : Nat} {l : Nat → Int}
/-- A term that bytes begin with has no fault. -/
theorem rd_term (hf : faultF n N A = 0) (h : 0 < rdK n A m l) : termF n N A (rdK n A m l) (nodT l) = 0 := by
  have hp := rd_spec (n := n) (A := A) (m := m) (l := l) (by omega)
  rw [term_l hf]
  have := hp.most
  exact lF_ok (by omega) (fun i hi => okN_node (hp.ok i hi)) hp.whole

theorem cut_key (hf : faultF n N A = 0) (h1 : 0 < rdK n A m l) (h2 : 0 < rd2 n A m l) (ha : rdK n A m l + rd2 n A m l = m) :
    CutP n A m l ↔ keyC n N A (rdK n A m l) (nodT l) (rd2 n A m l) (nodT (behind l (rdK n A m l))) = 0 := by
  have t1 := rd_term hf h1
  have t2 : termF n N A (rd2 n A m l) (nodT (behind l (rdK n A m l))) = 0 := rd_term hf h2
  rw [key_short t1 t2]
  exact ⟨fun h => h.short, fun h => ⟨by omega, by omega, ha, h⟩⟩
end

set_option maxRecDepth 20000 in
set_option maxHeartbeats 3200000 in
theorem implCut_any (b off n c b' off' m c' : Nat) (N : Nat → ByteArray) (A l : Nat → Int) (w : World) (h : Syms w b off n N A) (h' : Byts w (some ⟨b', off', none⟩) m l) (hb' : b' < w.heap.size) (hk : Kept n N A) (hm : m ≤ 1048576) (hmc : m ≤ c') :
    Calls Try.prog 26 #[.agg #[.slice (some ⟨b, off, none⟩) n c], .slice (some ⟨b', off', none⟩) m c'] w fun e w' => KeyAns w (ckC n N A m l) (rdK n A m l) (nodT l) (rd2 n A m l) (nodT (behind l (rdK n A m l))) e w' ∧ Below w.heap.size w w' := by
  have D := hidden ((One.new w (.slice (some ⟨b, off, none⟩) n c) 26).keep (alloc_below _ (.cells #[.int .i64 0, .slice none 0 0, .slice none 0 0] 52)))
  have R := hidden (Res3.new (w.alloc (.cells #[.slice (some ⟨b, off, none⟩) n c] 26)) (.int .i64 0) (.slice none 0 0) (.slice none 0 0) 52)
  have B := hidden (keepB (alloc_below w (.cells #[.slice (some ⟨b, off, none⟩) n c] 26)) (alloc_below _ (.cells #[.int .i64 0, .slice none 0 0, .slice none 0 0] 52)))
  have Q := hidden (h.keep B.out)
  have I := hidden (h'.keep B.out)
  have LB := hidden (Nat.lt_of_lt_of_le hb' B.out.size)
  have HK := hidden hk
  rw [World.size_alloc] at R
  obtain ⟨T2, hT⟩ : ∃ T2, T2 = nodT (behind l (rdK n A m l)) := ⟨_, rfl⟩
  have HKY := hidden (cut_key (n := n) (N := N) (A := A) (m := m) (l := l))
  obtain ⟨K2, hk2⟩ : ∃ K2, K2 = rd2 n A m l := ⟨_, rfl⟩
  rw [← hT, ← hk2] at HKY ⊢
  have HC1 := hidden (fun h : CutP n A m l => h.k2)
  have HC2 := hidden (fun h : CutP n A m l => h.all)
  rw [← hk2] at HC1 HC2
  have hle := (rd_le (n := n) (A := A) (m := m) (l := l))
  have HC0 := hidden (fun h : CutP n A m l => h.k1)
  have hle2 : K2 ≤ m - rdK n A m l ∧ K2 ≤ 24 := hk2 ▸ rd_le
  obtain ⟨K1, hk1⟩ : ∃ K1, K1 = rdK n A m l := ⟨_, rfl⟩
  rw [← hk1] at HKY HC0 HC2 hle hle2 hT ⊢
  have HT := hidden hT
  have HE1 := hidden hk1
  have HE2 := hidden hk2
  clear h h' hk hb' hT hk1 hk2
  go_enter Try.func26, Try.ntmps26
  go_wp2_with fail
  with_reducible refine (implFault_all _ _ _ _ N A _ Q.out HK.out).mono ?_
  rintro e w1 ⟨rfl, hb⟩
  replace D := hidden (D.out.keep hb)
  replace R := hidden (R.out.keep hb)
  replace B := hidden (keepB B.out hb)
  replace I := hidden (I.out.keep hb)
  replace Q := hidden (Q.out.keep hb)
  replace LB := hidden (Nat.lt_of_lt_of_le LB.out hb.size)
  clear hb
  by_cases hf : faultF n N A = 0
  · have HF := hidden hf
    have HS := hidden (fault_sound hf)
    rw [hf]
    clear hf
    have d0 := D.out.c0
    go_wp2_with fail
    with_reducible refine (cutSides_any _ _ _ _ _ _ m c' N A l _ Q.out HS.out hm hmc LB.out I.out).mono ?_
    rintro r w3 ⟨ha, hb⟩
    rw [← HE1.out, ← HE2.out, ← HT.out] at ha
    have hR := R.out.blk
    have hBs := B.out.size
    have hw3 := hb.size
    replace D := hidden (D.out.keep hb)
    replace R := hidden (R.out.keep hb)
    replace B := hidden (keepB B.out hb)
    replace Q := hidden (Q.out.keep hb)
    clear hb I LB d0
    rcases ha with ⟨h0, rfl⟩ | ⟨h0, g1, d1, g2, d2, o2, c2, rfl, hg1, hg12, ho1, ho2, hc2, _⟩
    · have HC := hidden (ck_text (m := m) (l := l) HF.out (fun h => h0 ⟨Nat.pos_of_ne_zero (HC0.out h), Nat.pos_of_ne_zero (HC1.out h)⟩))
      clear h0
      replace R := hidden (R.out.keep (alloc_below w3 (.cells #[.slice none 0 0, .slice none 0 0] 86)))
      replace B := hidden (keepB B.out (alloc_below w3 (.cells #[.slice none 0 0, .slice none 0 0] 86)))
      obtain ⟨_, q0, q1, q2, f0, f1, f2⟩ := id R.out
      go_wp2
      exact bodyPost_ret (v := .agg #[.int .i64 5, .slice none 0 0, .slice none 0 0]) (by simp [results, Try.results26, go_sem, q0, q1, q2]) rfl ⟨Or.inl ⟨by rw [HC.out]; decide, by rw [HC.out]⟩, ((B.out.setCell (by simp) _).setCell (by simp) _).setCell (by simp) _⟩
    · have HP := hidden h0
      have A1 := hidden (alloc_below w3 (.cells #[.slice (some ⟨g1, 0, none⟩) K1 d1, .slice (some ⟨g2, 0, none⟩) K2 d2] 86))
      have z0 := hidden (Res.new w3 (.slice (some ⟨g1, 0, none⟩) K1 d1) (.slice (some ⟨g2, 0, none⟩) K2 d2) 86)
      have O1 := hidden (ho1.keep A1.out)
      have O2 := hidden (ho2.keep A1.out)
      replace R := hidden (R.out.keep A1.out)
      replace D := hidden (D.out.keep A1.out)
      replace Q := hidden (Q.out.keep A1.out)
      replace B := hidden (keepB B.out A1.out)
      have hsz : (w3.alloc (.cells #[.slice (some ⟨g1, 0, none⟩) K1 d1, .slice (some ⟨g2, 0, none⟩) K2 d2] 86)).heap.size = w3.heap.size + 1 := by simp
      clear ho1 ho2 A1
      obtain ⟨r, hr⟩ : ∃ r, r = m - K1 - K2 := ⟨_, rfl⟩
      rw [← hr] at hc2 ⊢
      by_cases hr0 : r = 0
      · subst hr0
        have HA := hidden (show K1 + K2 = m by omega)
        obtain ⟨_, q0, q1, q2, f0, f1, f2⟩ := id R.out
        obtain ⟨_, y0, y1, _, _⟩ := id z0.out
        have d0 := D.out.c0
        clear hr
        go_wp2_with fail
        with_reducible refine (keyFault_any _ _ _ _ _ _ _ _ _ _ _ _ N A (nodT l) T2 _ Q.out O1.out.ints O2.out.ints HK.out (by omega) (by omega)).mono ?_
        rintro e w5 ⟨rfl, hb⟩
        clear d0 y0 y1 q0 q1 q2 f0 f1 f2
        have z1 := hidden (z0.out.keep hb)
        replace R := hidden (R.out.keep hb)
        replace B := hidden (keepB B.out hb)
        replace O1 := hidden (O1.out.keep hb)
        replace O2 := hidden (O2.out.keep hb)
        clear hb
        obtain ⟨_, q0, q1, q2, f0, f1, f2⟩ := id R.out
        obtain ⟨_, y0, y1, _, _⟩ := id z1.out
        have HKC := hidden (HKY.out HF.out HP.out.1 HP.out.2 HA.out)
        by_cases hkc : keyC n N A K1 (nodT l) K2 T2 = 0
        · have HC := hidden (ck_ok (m := m) (l := l) HF.out (HKC.out.2 hkc))
          rw [hkc]
          clear hkc
          go_wp2
          exact bodyPost_ret (v := .agg #[.int .i64 0, .slice (some ⟨g1, 0, none⟩) K1 d1, .slice (some ⟨g2, 0, none⟩) K2 d2]) (by simp [results, Try.results26, go_sem, q0, q1, q2]) rfl ⟨Or.inr ⟨HC.out, g1, d1, g2, d2, rfl, by omega, hg12,
            (((O1.out.other _ _ (by simp; omega)).other _ _ (by simp; omega)).other _ _ (by simp; omega)).base (by omega),
            (((O2.out.other _ _ (by simp; omega)).other _ _ (by simp; omega)).other _ _ (by simp; omega)).base (by omega)⟩, ((B.out.setCell (by simp) _).setCell (by simp) _).setCell (by simp) _⟩
        · have HC := hidden (ck_text (m := m) (l := l) HF.out (fun h => hkc (HKC.out.1 h)))
          have hkc' : (keyC n N A K1 (nodT l) K2 T2 != 0) = true := by simpa using hkc
          generalize keyC n N A K1 (nodT l) K2 T2 = z at hkc' ⊢
          clear hkc
          go_wp2
          exact bodyPost_ret (v := .agg #[.int .i64 5, .slice none 0 0, .slice none 0 0]) (by simp [results, Try.results26, go_sem, q0, q1, q2]) rfl ⟨Or.inl ⟨by rw [HC.out]; decide, by rw [HC.out]⟩, ((B.out.setCell (by simp) _).setCell (by simp) _).setCell (by simp) _⟩
      · have HC := hidden (ck_text (m := m) (l := l) HF.out (fun h => hr0 (by have := HC2.out h; omega)))
        have hr1 : 0 < r := by omega
        obtain ⟨_, q0, q1, q2, f0, f1, f2⟩ := id R.out
        clear hr hr0
        go_wp2
        exact bodyPost_ret (v := .agg #[.int .i64 5, .slice none 0 0, .slice none 0 0]) (by simp [results, Try.results26, go_sem, q0, q1, q2]) rfl ⟨Or.inl ⟨by rw [HC.out]; decide, by rw [HC.out]⟩, ((B.out.setCell (by simp) _).setCell (by simp) _).setCell (by simp) _⟩
  · have HN := hidden hf
    have HC := hidden (ck_fault (m := m) (l := l) hf)
    have hf' : (faultF n N A != 0) = true := by simpa using hf
    generalize faultF n N A = z at hf' HN HC ⊢
    clear hf
    obtain ⟨_, q0, q1, q2, f0, f1, f2⟩ := id R.out
    go_wp2
    exact bodyPost_ret (v := .agg #[.int .i64 z, .slice none 0 0, .slice none 0 0]) (by simp [results, Try.results26, go_sem, q0, q1, q2]) rfl ⟨Or.inl ⟨by rw [HC.out]; exact HN.out, by rw [HC.out]⟩, ((B.out.setCell (by simp) _).setCell (by simp) _).setCell (by simp) _⟩

end Go.Proofs.Ytjjpkhlbokfjpaa

/- Contracts: the order of bytes, as the model and as the program tells it. -/
namespace Go.Proofs.Ytjjpkhlbokfjpaa.Byt
open Go.RowKit

theorem run_compareSlices {P : Program} (b off n c b' off' m c' : Nat) (l r : List Int) (w : World) (h : Row w b off n l) (h' : Row w b' off' m r) :
    (Extern.BytealgCompare.compare #[.slice (some ⟨b, off, none⟩) n c, .slice (some ⟨b', off', none⟩) m c']).run P w = .ok (.int .i64 (ordL l r)) w := by
  have key : ∀ (b off n : Nat) (l : List Int), Row w b off n l → (Extern.Bytes.loadBytes ⟨b, off, none⟩ n .empty).run P w = .ok ⟨(Lib.bytesOf l).toArray⟩ w := by
    intro b off n l h
    have hl := Lib.run_loadBytesX (P := P) w l ⟨b, off, none⟩ .empty (fun j x hj => by
      have hjl : j < l.length := (List.getElem?_eq_some_iff.1 hj).1
      have e : (⟨b, off, none⟩ : Addr).add j = ⟨b, off + j, none⟩ := by unfold Addr.add; split <;> simp_all
      have := h.len
      rw [e, h.cell j (by omega), List.getD_eq_getElem?_getD, hj]
      rfl)
    rw [h.len] at hl
    rw [hl]
    congr 1
    apply ByteArray.ext
    show (#[] : Array UInt8) ++ (Lib.bytesOf l).toArray = (Lib.bytesOf l).toArray
    simp
  change Sem.run P (do pure (goInt (Extern.BytealgCompare.cmp (← Extern.Bytes.bytesOf (.slice (some ⟨b, off, none⟩) n c)) (← Extern.Bytes.bytesOf (.slice (some ⟨b', off', none⟩) m c'))))) w = _
  simp only [Extern.Bytes.bytesOf, Sem.run_bind, Sem.run_pure, key _ _ _ _ h, key _ _ _ _ h', Result.andThen]
  rw [Lib.cmp_eq]
  have e := cmp_ordL l r (byt_of l h.byt) (byt_of r h'.byt)
  rw [← e]
  rfl

theorem ordL_bd : ∀ (a b : List Int), -1 ≤ ordL a b ∧ ordL a b ≤ 1
  | [], [] => by simp [ordL]
  | [], _ :: _ => by simp [ordL]
  | _ :: _, [] => by simp [ordL]
  | a :: p, b :: q => by
    have := ordL_bd p q
    simp only [ordL]
    split
    · omega
    · split <;> omega

set_option maxRecDepth 20000 in
set_option maxHeartbeats 400000 in
theorem bytesCompare_any (b off n c b' off' m c' : Nat) (l r : List Int) (w : World) (h : Row w b off n l) (h' : Row w b' off' m r) :
    Calls Try.prog 61 #[.slice (some ⟨b, off, none⟩) n c, .slice (some ⟨b', off', none⟩) m c'] w fun e w' => e = .returned (.int .i64 (ordL l r)) ∧ w' = w := by
  go_enter Try.func61, Try.ntmps61
  go_wp2
  rw [run_callFunc_extern Try.func84 (by kernel_rfl) (by kernel_rfl) (by kernel_rfl) (e := Extern.BytealgCompare.compare) (by kernel_rfl), run_compareSlices _ _ _ _ _ _ _ _ l r _ h h']
  simp only [Result.andThen]
  rw [Oper.upon_value]
  go_wp2
  go_ret
  exact ⟨rfl, rfl⟩

def cmpC (l r : List Int) : Int := if 2000 < l.length ∨ 2000 < r.length then 2 else 0
def cmpV (l r : List Int) : Int := if 2000 < l.length ∨ 2000 < r.length then 0 else ordL l r

set_option maxRecDepth 20000 in
set_option maxHeartbeats 400000 in
theorem implCmp_many (p p' : Option Addr) (n c m c' : Nat) (w : World) (hn : 2000 < n ∨ 2000 < m) :
    Calls Try.prog 27 #[.slice p n c, .slice p' m c'] w fun e w' => e = .returned (.agg #[.int .i64 2, .int .i64 0]) ∧ Below w.heap.size w w' := by
  by_cases h1 : 2000 < n
  · go_enter Try.func27, Try.ntmps27
    go_wp2
    exact bodyPost_ret (v := .agg #[.int .i64 2, .int .i64 0]) (by simp [results, Try.results27, go_sem]) rfl ⟨rfl, (Below.refl _ _).alloc (Nat.le_refl _) _⟩
  · have h2 : 2000 < m := hn.resolve_left h1
    have h3 : decide (2000 < (n : Int)) = false := by simp; omega
    clear hn
    go_enter Try.func27, Try.ntmps27
    go_wp2
    exact bodyPost_ret (v := .agg #[.int .i64 2, .int .i64 0]) (by simp [results, Try.results27, go_sem]) rfl ⟨rfl, (Below.refl _ _).alloc (Nat.le_refl _) _⟩

set_option maxRecDepth 20000 in
set_option maxHeartbeats 400000 in
theorem implCmp_any (b off n c b' off' m c' : Nat) (l r : List Int) (w : World) (h : Row w b off n l) (h' : Row w b' off' m r) (hn : ¬ (2000 < n ∨ 2000 < m)) :
    Calls Try.prog 27 #[.slice (some ⟨b, off, none⟩) n c, .slice (some ⟨b', off', none⟩) m c'] w fun e w' => e = .returned (.agg #[.int .i64 0, .int .i64 (ordL l r)]) ∧ Below w.heap.size w w' := by
  have h3 : decide (2000 < (n : Int)) = false := by simp; omega
  have h4 : ¬ 2000 < (m : Int) := by omega
  have hbd := ordL_bd l r
  generalize hB : ordL l r = B at hbd
  have HB : Hid _ := hB
  clear hB hn
  go_enter Try.func27, Try.ntmps27
  go_wp2_with fail
  refine (bytesCompare_any _ _ _ _ _ _ _ _ l r _ (h.later ((Below.refl _ _).alloc (Nat.le_refl _) _) h.blk) (h'.later ((Below.refl _ _).alloc (Nat.le_refl _) _) h'.blk)).mono ?_
  rw [HB.out]
  rintro e w' ⟨rfl, rfl⟩
  go_wp2
  exact bodyPost_ret (v := .agg #[.int .i64 0, .int .i64 B]) (by simp [results, Try.results27, go_sem]) rfl ⟨rfl, (Below.refl _ _).alloc (Nat.le_refl _) _⟩

theorem implCmp_all (b off n c b' off' m c' : Nat) (l r : List Int) (w : World) (h : Row w b off n l) (h' : Row w b' off' m r) :
    Calls Try.prog 27 #[.slice (some ⟨b, off, none⟩) n c, .slice (some ⟨b', off', none⟩) m c'] w fun e w' => e = .returned (.agg #[.int .i64 (cmpC l r), .int .i64 (cmpV l r)]) ∧ Below w.heap.size w w' := by
  rw [cmpC, cmpV, h.len, h'.len]
  by_cases hn : 2000 < n ∨ 2000 < m
  · rw [if_pos hn, if_pos hn]
    exact implCmp_many _ _ _ _ _ _ _ hn
  · rw [if_neg hn, if_neg hn]
    exact implCmp_any _ _ _ _ _ _ _ _ _ _ _ h h' hn

end Go.Proofs.Ytjjpkhlbokfjpaa.Byt

/- Law FnKeys: what its walk knows of what was drawn. -/
namespace Go.Proofs.Ytjjpkhlbokfjpaa
open Go.RowKit

/-- A block of three cells. -/
structure Tri (w : World) (b : Nat) (x y z : Value) : Prop where
  blk : b < w.heap.size
  c0 : w.cell? ⟨b, 0, none⟩ = some x
  c1 : w.cell? ⟨b, 1, none⟩ = some y
  c2 : w.cell? ⟨b, 2, none⟩ = some z

theorem Tri.new (w : World) (x y z : Value) (t : TypeId) : Tri (w.alloc (.cells #[x, y, z] t)) w.heap.size x y z := by
  refine ⟨by simp, ?_, ?_, ?_⟩ <;> simp [go_sem]

theorem Tri.keep {w w' : World} {b : Nat} {x y z : Value} (h : Tri w b x y z) (hb : Below w.heap.size w w') : Tri w' b x y z :=
  ⟨Nat.lt_of_lt_of_le h.blk hb.size, by rw [(bcell hb).1 _ _ h.blk]; exact h.c0, by rw [(bcell hb).1 _ _ h.blk]; exact h.c1, by rw [(bcell hb).1 _ _ h.blk]; exact h.c2⟩

theorem mulK {x y : Int} (hx : -1 ≤ x ∧ x ≤ 1) (hy : -1 ≤ y ∧ y ≤ 1) : IntKind.i64.wrap (x * y) = x * y ∧ wrap64 (x * y) = x * y := by
  have h1 : x = -1 ∨ x = 0 ∨ x = 1 := by omega
  have h2 : y = -1 ∨ y = 0 ∨ y = 1 := by omega
  rcases h1 with rfl | rfl | rfl <;> rcases h2 with rfl | rfl | rfl <;> exact ⟨by decide, by unfold wrap64; omega⟩

/-- Bytes that were answered. -/
def BOk (W : World) (q : Option Addr) (v d : Nat) (V : List Int) : Prop := ∃ g, q = some ⟨g, 0, none⟩ ∧ v = V.length ∧ V.length ≤ d ∧ Byt.Row W g 0 V.length V

theorem BOk.keep {w w' : World} {q : Option Addr} {v d : Nat} {V : List Int} (h : BOk w q v d V) (hb : Below w.heap.size w w') : BOk w' q v d V := by
  obtain ⟨g, h1, h2, h3, h4⟩ := h
  exact ⟨g, h1, h2, h3, h4.later hb h4.blk⟩

/-- An answer: a code and some bytes, which are known where the code is 0. -/
def BsAns (C : Int) (V : List Int) (e : Ending) (W : World) : Prop := ∃ q v d, e = .returned (.agg #[.int .i64 C, .slice q v d]) ∧ (C = 0 → BOk W q v d V)

theorem BytAns.bs {w w' : World} {C : Int} {V : List Int} {e : Ending} (h : BytAns w C V e w') (hV : C = 0 → V.length ≤ 1048576 ∧ ∀ x ∈ V, 0 ≤ x ∧ x ≤ 255) : BsAns C V e w' := by
  rcases h with ⟨h, rfl⟩ | ⟨h, g, d, rfl, hg, ho⟩
  · exact ⟨_, _, _, rfl, fun h0 => absurd h0 h⟩
  · exact ⟨_, _, _, by rw [h], fun _ => ⟨g, rfl, rfl, ho.cap, ho.row (hV h).1 (hV h).2⟩⟩

theorem key_range {n m k : Nat} {N : Nat → ByteArray} {A L M : Nat → Int} (h : keyC n N A m L k M = 0) : (packT L m ++ packT M k).length ≤ 1048576 ∧ ∀ x ∈ packT L m ++ packT M k, 0 ≤ x ∧ x ≤ 255 := by
  obtain ⟨h1, h2, _⟩ := key_right h
  have t1 := (term_right h1).nods
  have t2 := (term_right h2).nods
  refine ⟨by rw [List.length_append, packT_len, packT_len]; have := t1.most; have := t2.most; omega, fun x hx => ?_⟩
  rcases List.mem_append.1 hx with hx | hx
  · exact packT_byt m t1.rng x hx
  · exact packT_byt k t2.rng x hx

/-- What the code 0 tells of a signature and two terms that are a key. -/
structure KOk (w : World) (q : Option Addr) (n m : Nat) (L : Nat → Int) (m2 : Nat) (L2 : Nat → Int) (b : Nat) (N : Nat → ByteArray) (A : Nat → Int) : Prop where
  sig : q = some ⟨b, 0, none⟩
  kept : Kept n N A
  syms : Syms w b 0 n N A
  fine : faultF n N A = 0
  one : Trm n A m L
  two : Trm n A m2 L2
  short : shortC m L m2 L2 = 0

theorem key_key3 (q : Option Addr) (n d0 g1 m1 d1 g2 m2 d2 g3 m3 d3 g4 m4 d4 : Nat) (L1 L2 L3 L4 : Nat → Int) (w1 : World) (hS : SigV w1 (.slice q n d0)) (h1 : Ints w1 g1 0 m1 L1) (h2 : Ints w1 g2 0 m2 L2) (h3 : Ints w1 g3 0 m3 L3) (h4 : Ints w1 g4 0 m4 L4)
    (hm1 : m1 ≤ 25) (hm2 : m2 ≤ 25) (hm3 : m3 ≤ 25) (hm4 : m4 ≤ 25) :
    ∃ Ca Cb Cc : Int,
      (∀ wc, Below w1.heap.size w1 wc → Calls Try.prog 24 #[.agg #[.slice q n d0], .slice (some ⟨g1, 0, none⟩) m1 d1, .slice (some ⟨g2, 0, none⟩) m2 d2] wc fun e w' => BsAns Ca (packT L1 m1 ++ packT L2 m2) e w' ∧ Below wc.heap.size wc w') ∧
      (∀ wc, Below w1.heap.size w1 wc → Calls Try.prog 25 #[.agg #[.slice q n d0], .slice (some ⟨g1, 0, none⟩) m1 d1, .slice (some ⟨g2, 0, none⟩) m2 d2] wc fun e w' => BsAns Ca (packT L1 m1 ++ packT L2 m2) e w' ∧ Below wc.heap.size wc w') ∧
      (∀ wc, Below w1.heap.size w1 wc → Calls Try.prog 24 #[.agg #[.slice q n d0], .slice (some ⟨g1, 0, none⟩) m1 d1, .slice (some ⟨g4, 0, none⟩) m4 d4] wc fun e w' => BsAns Cb (packT L1 m1 ++ packT L4 m4) e w' ∧ Below wc.heap.size wc w') ∧
      (∀ wc, Below w1.heap.size w1 wc → Calls Try.prog 25 #[.agg #[.slice q n d0], .slice (some ⟨g1, 0, none⟩) m1 d1, .slice (some ⟨g4, 0, none⟩) m4 d4] wc fun e w' => BsAns Cb (packT L1 m1 ++ packT L4 m4) e w' ∧ Below wc.heap.size wc w') ∧
      (∀ wc, Below w1.heap.size w1 wc → Calls Try.prog 24 #[.agg #[.slice q n d0], .slice (some ⟨g3, 0, none⟩) m3 d3, .slice (some ⟨g4, 0, none⟩) m4 d4] wc fun e w' => BsAns Cc (packT L3 m3 ++ packT L4 m4) e w' ∧ Below wc.heap.size wc w') ∧
      (∀ wc, Below w1.heap.size w1 wc → Calls Try.prog 25 #[.agg #[.slice q n d0], .slice (some ⟨g3, 0, none⟩) m3 d3, .slice (some ⟨g4, 0, none⟩) m4 d4] wc fun e w' => BsAns Cc (packT L3 m3 ++ packT L4 m4) e w' ∧ Below wc.heap.size wc w') ∧
      (Ca = 0 → ∃ b N A, KOk w1 q n m1 L1 m2 L2 b N A ∧ (Cc = 0 → Trm n A m3 L3)) := by
  rcases hS with h | ⟨b, n', d', N, A, h, hn7, hk, hS⟩
  · cases h
    refine ⟨2, 2, 2, fun wc _ => (implKeyOf_nil _ _ _ _ _ _ _).mono ?_, fun wc _ => (specKeyOf_nil _ _ _ _ _ _ _).mono ?_, fun wc _ => (implKeyOf_nil _ _ _ _ _ _ _).mono ?_, fun wc _ => (specKeyOf_nil _ _ _ _ _ _ _).mono ?_, fun wc _ => (implKeyOf_nil _ _ _ _ _ _ _).mono ?_, fun wc _ => (specKeyOf_nil _ _ _ _ _ _ _).mono ?_, fun h => absurd h (by decide)⟩
    all_goals
      rintro e w' ⟨rfl, hb⟩
      exact ⟨⟨_, _, _, rfl, fun h => absurd h (by decide)⟩, hb⟩
  · cases h
    exact ⟨keyC n N A m1 L1 m2 L2, keyC n N A m1 L1 m4 L4, keyC n N A m3 L3 m4 L4,
      fun wc hb => (implKey_any b 0 n d0 g1 0 m1 d1 g2 0 m2 d2 N A L1 L2 wc (hS.keep hb) (h1.keep hb) (h2.keep hb) hk (by omega) (by omega)).mono fun e w' h => ⟨h.1.bs key_range, h.2⟩,
      fun wc hb => (specKey_any b 0 n d0 g1 0 m1 d1 g2 0 m2 d2 N A L1 L2 wc (hS.keep hb) (h1.keep hb) (h2.keep hb) hk (by omega) (by omega)).mono fun e w' h => ⟨h.1.bs key_range, h.2⟩,
      fun wc hb => (implKey_any b 0 n d0 g1 0 m1 d1 g4 0 m4 d4 N A L1 L4 wc (hS.keep hb) (h1.keep hb) (h4.keep hb) hk (by omega) (by omega)).mono fun e w' h => ⟨h.1.bs key_range, h.2⟩,
      fun wc hb => (specKey_any b 0 n d0 g1 0 m1 d1 g4 0 m4 d4 N A L1 L4 wc (hS.keep hb) (h1.keep hb) (h4.keep hb) hk (by omega) (by omega)).mono fun e w' h => ⟨h.1.bs key_range, h.2⟩,
      fun wc hb => (implKey_any b 0 n d0 g3 0 m3 d3 g4 0 m4 d4 N A L3 L4 wc (hS.keep hb) (h3.keep hb) (h4.keep hb) hk (by omega) (by omega)).mono fun e w' h => ⟨h.1.bs key_range, h.2⟩,
      fun wc hb => (specKey_any b 0 n d0 g3 0 m3 d3 g4 0 m4 d4 N A L3 L4 wc (hS.keep hb) (h3.keep hb) (h4.keep hb) hk (by omega) (by omega)).mono fun e w' h => ⟨h.1.bs key_range, h.2⟩,
      fun hC => by
        obtain ⟨t1, t2, hs⟩ := key_right hC
        exact ⟨b, N, A, ⟨rfl, hk, hS, term_sig t1, term_right t1, term_right t2, hs⟩, fun hc => term_right (key_right hc).1⟩⟩

end Go.Proofs.Ytjjpkhlbokfjpaa
