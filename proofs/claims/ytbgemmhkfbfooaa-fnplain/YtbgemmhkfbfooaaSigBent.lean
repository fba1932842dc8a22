/- Contracts: the draws of signatures that may be wrong. -/
import Derived.Test.YtbgemmhkfbfooaaSigDraw
import Derived.Test.YtbgemmhkfbfooaaRead
namespace Go.Proofs.Ytbgemmhkfbfooaa
open Go.RowKit

def updN (N : Nat → ByteArray) (i : Nat) (x : ByteArray) (j : Nat) : ByteArray := if j = i then x else N j

theorem OwnS.nameAt {w : World} {B g n c : Nat} {N : Nat → ByteArray} {A : Nat → Int} (h : OwnS w B g n c N A n) {i : Nat} (hi : i < n) (x : ByteArray) :
    w.cell? ⟨g, i * 2, none⟩ = some (.string (N i)) ∧ w.frozen? ⟨g, i * 2, none⟩ = false ∧ OwnS (w.setCell ⟨g, i * 2, none⟩ (.string x)) B g n c (updN N i x) A n ∧ w.grownBy (w.setCell ⟨g, i * 2, none⟩ (.string x)) (some g) := by
  obtain ⟨xs, ho, hx⟩ := h
  obtain ⟨o1, g1⟩ := ho.stored (i * 2) (.string x)
  have hl : xs.length = n * 2 := ho.1
  refine ⟨(ho.cellAt _ (by omega)).trans (hx i hi).1, ho.frozenAt _, ⟨_, o1, fun j hj => ?_⟩, g1⟩
  rw [List.getElem?_set_ne (by omega : i * 2 ≠ j * 2 + 1)]
  refine ⟨?_, (hx j hj).2⟩
  by_cases e : j = i
  · subst e; rw [List.getElem?_set_self (by omega)]; simp [updN]
  · rw [List.getElem?_set_ne (by omega)]; simpa [updN, e] using (hx j hj).1

theorem OwnS.arityAt {w : World} {B g n c : Nat} {N : Nat → ByteArray} {A : Nat → Int} (h : OwnS w B g n c N A n) {i : Nat} (hi : i < n) (x : Int) :
    w.cell? ⟨g, i * 2 + 1, none⟩ = some (.int .i64 (A i)) ∧ w.frozen? ⟨g, i * 2 + 1, none⟩ = false ∧ OwnS (w.setCell ⟨g, i * 2 + 1, none⟩ (.int .i64 x)) B g n c N (upd A i x) n ∧ w.grownBy (w.setCell ⟨g, i * 2 + 1, none⟩ (.int .i64 x)) (some g) := by
  obtain ⟨xs, ho, hx⟩ := h
  obtain ⟨o1, g1⟩ := ho.stored (i * 2 + 1) (.int .i64 x)
  have hl : xs.length = n * 2 := ho.1
  refine ⟨(ho.cellAt _ (by omega)).trans (hx i hi).2, ho.frozenAt _, ⟨_, o1, fun j hj => ?_⟩, g1⟩
  rw [List.getElem?_set_ne (by omega : i * 2 + 1 ≠ j * 2)]
  refine ⟨(hx j hj).1, ?_⟩
  by_cases e : j = i
  · subst e; rw [List.getElem?_set_self (by omega)]; simp [upd]
  · rw [List.getElem?_set_ne (by omega)]; simpa [upd, e] using (hx j hj).2

/-- What a draw of a signature stands at: the source, the row of symbols, the answer's block, the variable. -/
structure St (w W : World) (s : Nat) (p : Option Addr) (n c a g m d : Nat) (N : Nat → ByteArray) (A : Nat → Int) (V : Nat) : Prop where
  gen : Byt.Gen W s p n c a
  own : OwnS W (w.heap.size + 1) g m d N A m
  res : Cel W w.heap.size (.slice none 0 0)
  var : Cel W V (.slice (some ⟨g, 0, none⟩) m d)
  grw : w.grownBy W (some s)
  kept : Kept m N A
  hs : s < w.heap.size
  hg : w.heap.size < g
  hV : w.heap.size < V
  gV : g ≠ V
  most : m ≤ 7
  vty : ∃ cs, W.heap[V]? = some (.cells cs 26)

theorem St.call {w W W' : World} {s n c a a' g m d V : Nat} {p : Option Addr} {N : Nat → ByteArray} {A : Nat → Int} (h : St w W s p n c a g m d N A V) (hg : Byt.Gen W' s p n c a') (hk : W.grownBy W' (some s)) : St w W' s p n c a' g m d N A V :=
  ⟨hg, h.own.grown hk (by have := h.hs; have := h.hg; omega), h.res.grown hk (by have := h.hs; omega), h.var.grown hk (by have := h.hs; have := h.hV; omega), grownBy_trans h.grw hk, h.kept, h.hs, h.hg, h.hV, h.gV, h.most, by rw [hk.block V h.var.blk (by have := h.hs; have := h.hV; simp; omega)]; exact h.vty⟩

theorem St.keep {w W W' : World} {s n c a g m d V : Nat} {p : Option Addr} {N : Nat → ByteArray} {A : Nat → Int} (h : St w W s p n c a g m d N A V) (hb : Below W.heap.size W W') : St w W' s p n c a g m d N A V :=
  ⟨h.gen.grown (below_grown hb (some W.heap.size)) (by have := h.gen.blk; omega), h.own.keep hb, h.res.keep hb, h.var.keep hb, grownBy_trans h.grw (below_grown hb (some s)), h.kept, h.hs, h.hg, h.hV, h.gV, h.most, by rw [hb.block V h.var.blk]; exact h.vty⟩

theorem St.wrote {w W W' : World} {s n c a g m d V : Nat} {p : Option Addr} {N N' : Nat → ByteArray} {A A' : Nat → Int} (h : St w W s p n c a g m d N A V) (hk : W.grownBy W' (some g)) (ho : OwnS W' (w.heap.size + 1) g m d N' A' m) (hK : Kept m N' A') : St w W' s p n c a g m d N' A' V :=
  ⟨h.gen.grown hk (by have := h.hs; have := h.hg; omega), ho, h.res.grown hk (by have := h.hg; omega), h.var.grown hk (by have := h.gV; omega), Byt.grownBy_new h.grw hk (by have := h.hg; omega), hK, h.hs, h.hg, h.hV, h.gV, h.most, by rw [hk.block V h.var.blk (by have := h.gV; simp; omega)]; exact h.vty⟩

theorem vty_set {W : World} {V : Nat} {cs : Array Value} {t : TypeId} (h : W.heap[V]? = some (.cells cs t)) (u : Value) : ∃ cs', (W.setCell ⟨V, 0, none⟩ u).heap[V]? = some (.cells cs' t) := by
  refine ⟨cs.setIfInBounds 0 u, ?_⟩
  simp [World.setCell, Array.getElem?_modify, h]

/-- The length that a variable tells. -/
def lenAt (w : World) (V : Nat) : Nat := match w.cell? ⟨V, 0, none⟩ with | some (.slice _ n _) => n | _ => 0

theorem lenAt_eq {w : World} {V : Nat} {q : Option Addr} {n d : Nat} (h : w.cell? ⟨V, 0, none⟩ = some (.slice q n d)) : lenAt w V = n := by rw [lenAt, h]

/-- One symbol more behind the row, and the variable turned to it. -/
theorem St.next {w Wa w2 : World} {s n c a g m d V : Nat} {p : Option Addr} {N : Nat → ByteArray} {A : Nat → Int} {xs : List Value} {v' : Value} {nm : ByteArray} {ar : Int}
    (h : St w Wa s p n c a g m d N A V) (hxs : ∀ i, i < m → xs[i * 2]? = some (.string (N i)) ∧ xs[i * 2 + 1]? = some (.int .i64 (A i)))
    (hx : Wa.ownsRow (w.heap.size + 1) 70 2 (.slice (some ⟨g, 0, none⟩) m d) m xs)
    (hgrow : Wa.grownBy w2 (some g)) (hown : w2.ownsRow (w.heap.size + 1) 70 2 v' (m + 1) (xs ++ [.string nm, .int .i64 ar])) (hnil : v' ≠ .slice none 0 0) (hm : m + 1 ≤ 7) (hnm : nm.size ≤ 1048576) (har : -9223372036854775808 ≤ ar ∧ ar ≤ 9223372036854775807) :
    ∃ g2 d2, v' = .slice (some ⟨g2, 0, none⟩) (m + 1) d2 ∧ w2.cell? ⟨V, 0, none⟩ = some (.slice (some ⟨g, 0, none⟩) m d) ∧ w2.frozen? ⟨V, 0, none⟩ = false ∧
      St w (w2.setCell ⟨V, 0, none⟩ (.slice (some ⟨g2, 0, none⟩) (m + 1) d2)) s p n c a g2 (m + 1) d2 (updN N m nm) (upd A m ar) V := by
  obtain ⟨g2, d2, rfl, hg2, hblk⟩ : ∃ g2 d2, v' = .slice (some ⟨g2, 0, none⟩) (m + 1) d2 ∧ w.heap.size + 1 ≤ g2 ∧ ∃ cur, w2.heap[g2]? = some (.cells cur 70) := by
    rcases hown.2 with ⟨hv, _⟩ | ⟨g2, d2, cur, hv, h2, h3, _⟩
    · exact absurd hv hnil
    · exact ⟨g2, d2, hv, h2, cur, h3⟩
  have hs := h.hs
  have hV := h.hV
  have hg := h.hg
  have hgV := h.gV
  obtain ⟨cs, hcs⟩ := h.vty
  have hv2 : w2.heap[V]? = some (.cells cs 26) := by rw [hgrow.block V h.var.blk (by simp; omega)]; exact hcs
  have hne : g2 ≠ V := by
    rintro rfl
    obtain ⟨cur, hc⟩ := hblk
    rw [hc] at hv2
    simp at hv2
  have var2 := h.var.grown hgrow (by omega)
  have res2 := h.res.grown hgrow (by omega)
  have gen2 := h.gen.grown hgrow (by omega)
  have hl : xs.length = m * 2 := hx.1
  have own2 : OwnS w2 (w.heap.size + 1) g2 (m + 1) d2 (updN N m nm) (upd A m ar) (m + 1) := by
    refine ⟨_, hown, fun i hi => ?_⟩
    by_cases e : i = m
    · subst e
      constructor
      · rw [List.getElem?_append_right (by omega), hl, Nat.sub_self]; simp [updN]
      · rw [List.getElem?_append_right (by omega), hl, show i * 2 + 1 - i * 2 = 1 by omega]; simp [upd]
    · rw [List.getElem?_append_left (by omega), List.getElem?_append_left (by omega)]
      simpa [updN, upd, e] using hxs i (by omega)
  have hK := h.kept
  refine ⟨g2, d2, rfl, var2.c0, var2.f0, ⟨gen2.grown (Byt.setCell_grown _ _ _ _) (by omega), own2.other _ _ (by simpa using hne), res2.grown (Byt.setCell_grown _ _ _ _) (by omega), ⟨by simpa [World.setCell] using var2.blk, World.cell?_setCell_same _ _ _ var2.c0, by simpa using var2.f0⟩, ?_, ⟨by omega, fun j hj => ?_, fun j hj => ?_⟩, hs, by omega, hV, hne, hm, vty_set hv2 _⟩⟩
  · exact Byt.grownBy_new (Byt.grownBy_new h.grw hgrow (by omega)) (Byt.setCell_grown _ _ _ _) (by omega)
  · unfold updN; split; exact hnm; exact hK.short j (by omega)
  · unfold upd; split; exact har; exact hK.fits j (by omega)

theorem nums_two (W : World) (x y : Int) (t : TypeId) : Byt.Nums (W.alloc (.cells #[.int .i64 x, .int .i64 y] t)) W.heap.size 2 [x, y] :=
  ⟨rfl, fun i hi => by
    match i, hi with
    | 0, _ => simp [go_sem]
    | 1, _ => simp [go_sem]⟩

theorem nums_two_drew (W : World) (x y : Int) (t : TypeId) : Byt.Nums (W.alloc (.cells #[.int .i64 x, .int .i64 y] t)).drew W.heap.size 2 [x, y] :=
  ⟨rfl, fun i hi => (nums_two W x y t).cell i hi⟩

theorem Nums.grown {W W' : World} {b k s : Nat} {xs : List Int} (h : Byt.Nums W b k xs) (hg : W.grownBy W' (some s)) (hne : b ≠ s) : Byt.Nums W' b k xs :=
  ⟨h.len, fun i hi => hg.cell (h.cell i hi) (by simpa using hne)⟩

/-- A drawn signature: none, or a row of symbols in new memory. -/
def BentAns (w : World) (s : Nat) (p : Option Addr) (n c : Nat) (e : Ending) (w' : World) : Prop :=
  (∃ a', a' ≤ 1000 ∧ Byt.Gen w' s p n c a') ∧ w.grownBy w' (some s) ∧
  (e = .returned (.agg #[.slice none 0 0]) ∨ ∃ g m d N A, e = .returned (.agg #[.slice (some ⟨g, 0, none⟩) m d]) ∧ w.heap.size ≤ g ∧ m ≤ 7 ∧ Kept m N A ∧ OwnS w' w.heap.size g m d N A m)

theorem St.fin {w W : World} {s n c a g m d V : Nat} {p : Option Addr} {N : Nat → ByteArray} {A : Nat → Int} (h : St w W s p n c a g m d N A V) (ha : a ≤ 1000) (u : Value) : BentAns w s p n c (.returned (.agg #[.slice (some ⟨g, 0, none⟩) m d])) (W.setCell ⟨w.heap.size, 0, none⟩ u) :=
  ⟨⟨a, ha, h.gen.grown (Byt.setCell_grown _ _ _ _) (by have := h.hs; omega)⟩, Byt.grownBy_new h.grw (Byt.setCell_grown _ _ _ _) (Nat.le_refl _),
   Or.inr ⟨g, m, d, N, A, rfl, by have := h.hg; omega, h.most, h.kept, (h.own.other _ _ (by have := h.hg; simp; omega)).base (by have := h.hg; omega)⟩⟩

set_option maxRecDepth 20000 in
theorem sig_kept : ∀ j, Kept (sigL j).length (nmL (sigL j)) (arL (sigL j)) := by
  have key : ∀ L : List (ByteArray × Int), L.length ≤ 6 → (∀ x ∈ L, x.1.size ≤ 3 ∧ 0 ≤ x.2 ∧ x.2 ≤ 2) → Kept L.length (nmL L) (arL L) := by
    intro L hL h
    have hx : ∀ i, i < L.length → (nmL L i).size ≤ 3 ∧ 0 ≤ arL L i ∧ arL L i ≤ 2 := by
      intro i hi
      have := h _ (List.getElem_mem hi)
      simpa [nmL, arL, List.getD_eq_getElem?_getD, hi] using this
    exact ⟨by omega, fun i hi => by have := hx i hi; omega, fun i hi => by have := hx i hi; omega⟩
  intro j
  refine key _ (sigL_len j).2 ?_
  match j with
  | 0 => unfold sigL; decide
  | 1 => unfold sigL; decide
  | 2 => unfold sigL; decide
  | 3 => unfold sigL; decide
  | k + 4 =>
    rw [show sigL (k + 4) = [(⟨#[97]⟩, 0)] from rfl]
    decide

theorem Kept.name {m : Nat} {N : Nat → ByteArray} {A : Nat → Int} (h : Kept m N A) (i : Nat) {x : ByteArray} (hx : x.size ≤ 1048576) : Kept m (updN N i x) A :=
  ⟨h.most, fun j hj => by unfold updN; split; exact hx; exact h.short j hj, h.fits⟩

theorem Kept.arity {m : Nat} {N : Nat → ByteArray} {A : Nat → Int} (h : Kept m N A) (i : Nat) {x : Int} (hx : -9223372036854775808 ≤ x ∧ x ≤ 9223372036854775807) : Kept m N (upd A i x) :=
  ⟨h.most, h.short, fun j hj => by unfold upd; split; exact hx; exact h.fits j hj⟩

set_option maxRecDepth 20000 in
set_option maxHeartbeats 3200000 in
theorem l2Bent_any (s : Nat) (p : Option Addr) (n c : Nat) (l : List Int) (w0 w : World) (hs : Byt.Gen w s p n c 0) (h0 : Byt.Src w0 p n l) (hb : Below w0.heap.size w0 w) (hs0 : w0.heap.size ≤ s) :
    Calls Try.prog 14 #[.pointer (some ⟨s, 0, none⟩)] w fun e w' => BentAns w s p n c e w' := by
  have HB := hidden hb
  have H0 := hidden h0
  have hsw := hs.blk
  have BW : Hid (∀ W, w.grownBy W (some s) → Below w0.heap.size w0 W) := hidden (fun W h => HB.out.grown h HB.out.size (fun k hk => by cases hk; exact hs0))
  go_enter Try.func14, Try.ntmps14
  go_wp2_with fail
  refine (l2Sig_any s p n c 0 l w0 _ (hs.alloc _) h0 (keepB hb (alloc_below _ _)) hs0 (by omega)).mono ?_
  rintro e w1 ⟨j, g, rfl, hgB, ho, hg, hgr⟩
  rw [World.size_alloc] at hgB ho
  have hk := sig_kept j
  have hm := sigL_len j
  generalize nmL (sigL j) = N at *
  generalize arL (sigL j) = A at *
  generalize (sigL j).length = m at *
  have hgl := ho.lt
  have S := hidden (show St w (w1.alloc (.cells #[.slice (some ⟨g, 0, none⟩) m m] 26)) s p n c 1 g m m N A w1.heap.size from
    ⟨hg.alloc _, ho.keep (alloc_below _ _), ((Cel.new w (.slice none 0 0) 26).grown hgr (by omega)).keep (alloc_below _ _), Cel.new w1 _ 26, grownBy_trans (grownBy_trans (World.grownBy_alloc w _ (some s)) hgr) (World.grownBy_alloc _ _ (some s)), hk, hsw, by omega, by omega, by omega, by omega, ⟨_, heap_alloc_new w1 _⟩⟩)
  obtain ⟨hm1, hm6⟩ := hm
  clear hs h0 hb ho hg hgr hk hgl
  go_wp2_with fail
  refine (Byt.l1Chance_any s p n c 1 l 9 w0 _ S.out.gen H0.out (BW.out _ S.out.grw) hs0 (by omega) (by omega) (by omega)).mono ?_
  rintro e w2 ⟨v, rfl, hg, hgr, -⟩
  replace S := hidden (S.out.call hg hgr)
  clear hg hgr
  generalize w1.heap.size = V at *
  cases v
  · have r0 := S.out.res.c0
    have r1 := S.out.res.f0
    have v0 := S.out.var.c0
    go_wp2
    exact bodyPost_ret (v := .agg #[.slice (some ⟨g, 0, none⟩) m m]) (by simp [results, Try.results14, go_sem, r0]) rfl (S.out.fin (by omega) _)
  go_wp2_with fail
  refine (Byt.l1Next_any s p n c 2 l 7 w0 _ S.out.gen H0.out (BW.out _ S.out.grw) hs0 (by omega) (by omega) (by omega)).mono ?_
  rintro e w3 ⟨v, rfl, hv0, hv1, hg, hgr, -⟩
  replace S := hidden (S.out.call hg hgr)
  clear hg hgr
  rcases (show v = 0 ∨ v = 1 ∨ v = 2 ∨ v = 3 ∨ v = 4 ∨ v = 5 ∨ v = 6 by omega) with rfl | rfl | rfl | rfl | rfl | rfl | rfl
  · have r0 := S.out.res.c0
    have r1 := S.out.res.f0
    go_wp2
    exact bodyPost_ret (v := .agg #[.slice none 0 0]) (by simp [results, Try.results14, go_sem, r0]) rfl ⟨⟨3, by omega, S.out.gen.grown (Byt.setCell_grown _ _ _ _) (by omega)⟩, Byt.grownBy_new S.out.grw (Byt.setCell_grown _ _ _ _) (Nat.le_refl _), Or.inl rfl⟩
  · have v0 := S.out.var.c0
    obtain ⟨m', rfl⟩ : ∃ m', m = m' + 1 := ⟨m - 1, by omega⟩
    obtain ⟨c0, f0, o1, g1⟩ := S.out.own.nameAt (show m' < m' + 1 by omega) ⟨#[97, 98, 99, 100]⟩
    have S2 := hidden (S.out.wrote g1 o1 (S.out.kept.name m' (by decide)))
    have v1 := S2.out.var.c0
    have r0 := S2.out.res.c0
    have r1 := S2.out.res.f0
    clear o1 g1 S
    go_wp2
    exact bodyPost_ret (v := .agg #[.slice (some ⟨g, 0, none⟩) (m' + 1) (m' + 1)]) (by simp [results, Try.results14, go_sem, r0]) rfl (S2.out.fin (by omega) _)
  · have v0 := S.out.var.c0
    have S1 := hidden (show ∀ wc, Below w3.heap.size w3 wc → Calls Try.prog 36 #[.pointer (some ⟨s, 0, none⟩), .int .i64 (m : Int)] wc fun e w' => ∃ i : Nat, i < m ∧ e = .returned (.int .i64 (i : Int)) ∧ w'.cell? ⟨V, 0, none⟩ = some (.slice (some ⟨g, 0, none⟩) m m) ∧ (∃ u, w'.cell? ⟨g, i * 2, none⟩ = some u) ∧ w'.frozen? ⟨g, i * 2, none⟩ = false ∧
        (w'.setCell ⟨g, i * 2, none⟩ (.string ⟨#[97, 66]⟩)).cell? ⟨V, 0, none⟩ = some (.slice (some ⟨g, 0, none⟩) m m) ∧ (w'.setCell ⟨g, i * 2, none⟩ (.string ⟨#[97, 66]⟩)).cell? ⟨w.heap.size, 0, none⟩ = some (.slice none 0 0) ∧ (w'.setCell ⟨g, i * 2, none⟩ (.string ⟨#[97, 66]⟩)).frozen? ⟨w.heap.size, 0, none⟩ = false ∧ Hid (St w (w'.setCell ⟨g, i * 2, none⟩ (.string ⟨#[97, 66]⟩)) s p n c 4 g m m (updN N i ⟨#[97, 66]⟩) A V) from fun wc hc => by
      have S' := S.out.keep hc
      refine (Byt.l1Next_any s p n c 3 l m w0 _ S'.gen H0.out (BW.out _ S'.grw) hs0 (by omega) (by omega) (by omega)).mono ?_
      rintro e w' ⟨v, rfl, hv0, hv1, hg, hgr, -⟩
      obtain ⟨i, rfl⟩ := Int.eq_ofNat_of_zero_le hv0
      have S5 := S'.call hg hgr
      have hi : i < m := by omega
      obtain ⟨c0, f0, o1, g1⟩ := S5.own.nameAt hi ⟨#[97, 66]⟩
      have S6 := S5.wrote g1 o1 (S5.kept.name i (by decide))
      exact ⟨i, hi, rfl, S5.var.c0, ⟨_, c0⟩, f0, S6.var.c0, S6.res.c0, S6.res.f0, hidden S6⟩)
    clear S
    go_wp2_with fail
    go_region_with (first
      | (go_at_call 36; with_reducible refine (S1.out _ ?_).mono ?_; exact (Below.refl _ _).drew; rintro e v5 ⟨i, hi, rfl, d5, ⟨u5, c5⟩, f5, v1, r0, r1, S2⟩))
    all_goals go_wp2
    all_goals exact bodyPost_ret (v := .agg #[.slice (some ⟨g, 0, none⟩) m m]) (by simp [results, Try.results14, go_sem, r0]) rfl (S2.out.fin (by omega) _)
  · have v0 := S.out.var.c0
    have hsz3 : s < w3.heap.size := by have := S.out.var.blk; have := S.out.hV; omega
    have hVs := S.out.var.blk
    have S1 := hidden (show ∀ wc, Below w3.heap.size w3 wc → Calls Try.prog 36 #[.pointer (some ⟨s, 0, none⟩), .int .i64 (m : Int)] wc fun e w' => ∃ i : Nat, i < m ∧ e = .returned (.int .i64 (i : Int)) ∧ w'.cell? ⟨V, 0, none⟩ = some (.slice (some ⟨g, 0, none⟩) m m) ∧ Hid (St w w' s p n c 4 g m m N A V) ∧ Hid (wc.grownBy w' (some s)) ∧ s < w'.heap.size ∧ V < w'.heap.size from fun wc hc => by
      have S' := S.out.keep hc
      refine (Byt.l1Next_any s p n c 3 l m w0 _ S'.gen H0.out (BW.out _ S'.grw) hs0 (by omega) (by omega) (by omega)).mono ?_
      rintro e w' ⟨v, rfl, hv0, hv1, hg, hgr, -⟩
      obtain ⟨i, rfl⟩ := Int.eq_ofNat_of_zero_le hv0
      have S5 := S'.call hg hgr
      exact ⟨i, by omega, rfl, S5.var.c0, hidden S5, hidden hgr, S5.gen.blk, S5.var.blk⟩)
    have S2 := hidden (show ∀ wc b i, i < m → St w wc s p n c 4 g m m N A V → Byt.Nums wc b 2 [3, -1] → b ≠ s → Calls Try.prog 16 #[.pointer (some ⟨s, 0, none⟩), .slice (some ⟨b, 0, none⟩) 2 2] wc fun e w' => ∃ x, e = .returned (.int .i64 x) ∧ w'.cell? ⟨V, 0, none⟩ = some (.slice (some ⟨g, 0, none⟩) m m) ∧ (∃ u, w'.cell? ⟨g, i * 2 + 1, none⟩ = some u) ∧ w'.frozen? ⟨g, i * 2 + 1, none⟩ = false ∧
        (w'.setCell ⟨g, i * 2 + 1, none⟩ (.int .i64 x)).cell? ⟨V, 0, none⟩ = some (.slice (some ⟨g, 0, none⟩) m m) ∧ (w'.setCell ⟨g, i * 2 + 1, none⟩ (.int .i64 x)).cell? ⟨w.heap.size, 0, none⟩ = some (.slice none 0 0) ∧ (w'.setCell ⟨g, i * 2 + 1, none⟩ (.int .i64 x)).frozen? ⟨w.heap.size, 0, none⟩ = false ∧ Hid (St w (w'.setCell ⟨g, i * 2 + 1, none⟩ (.int .i64 x)) s p n c 5 g m m N (upd A i x) V) from fun wc b i hi S' hn hne => by
      refine (Byt.l1Pick_any s p n c 4 l b 2 2 [3, -1] w0 _ S'.gen H0.out (BW.out _ S'.grw) hs0 (by omega) hn hne (by omega) (by omega)).mono ?_
      rintro e w' ⟨q, hq, rfl, hg, hgr, -⟩
      have S5 := S'.call hg hgr
      have hx : -9223372036854775808 ≤ [3, -1].getD q 0 ∧ [3, -1].getD q (0 : Int) ≤ 9223372036854775807 := by
        match q, hq with
        | 0, _ => decide
        | 1, _ => decide
      generalize [3, -1].getD q (0 : Int) = x at *
      obtain ⟨c0, f0, o1, g1⟩ := S5.own.arityAt hi x
      have S6 := S5.wrote g1 o1 (S5.kept.arity i hx)
      exact ⟨x, rfl, S5.var.c0, ⟨_, c0⟩, f0, S6.var.c0, S6.res.c0, S6.res.f0, hidden S6⟩)
    clear S
    go_wp2_with fail
    go_region_with (first
      | (go_at_call 36; with_reducible refine (S1.out _ ?_).mono ?_; (first | exact (Below.refl _ _).drew | exact (alloc_below _ _).drew | exact keepB (Below.refl _ _).drew (alloc_below _ _)); rintro e v5 ⟨i, hi, rfl, d5, S5, G5, z5, zV⟩)
      | (go_at_call 16; with_reducible refine (S2.out _ _ i hi ?_ ?_ ?_).mono ?_; (first | exact S5.out | exact S5.out.keep (alloc_below _ _)); (first | exact nums_two _ _ _ _ | exact Nums.grown (nums_two_drew w3 3 (-1) 2) G5.out (by omega)); (first | omega | (simp; omega)); rintro e v6 ⟨x, rfl, d6, ⟨u6, c6⟩, f6, v1, r0, r1, S6⟩))
    all_goals go_wp2
    all_goals exact bodyPost_ret (v := .agg #[.slice (some ⟨g, 0, none⟩) m m]) (by simp [results, Try.results14, go_sem, r0]) rfl (S6.out.fin (by omega) _)
  · have v0 := S.out.var.c0
    have hVs := S.out.var.blk
    have hm0 : 0 < m := by omega
    have hgs := S.out.own.lt
    have hN0 := S.out.kept.short 0 (by omega)
    have hA0 := S.out.kept.fits 0 (by omega)
    obtain ⟨c0, -, -, -⟩ := S.out.own.nameAt (show 0 < m by omega) ByteArray.empty
    obtain ⟨c1, -, -, -⟩ := S.out.own.arityAt (show 0 < m by omega) 0
    obtain ⟨xs, hx, hxs⟩ := S.out.own
    simp only [Nat.zero_mul, Nat.zero_add] at c0 c1
    generalize N 0 = nm at *
    generalize A 0 = ar at *
    have HX := hidden hx
    have HM := hidden (show m + 1 ≤ 7 by omega)
    have SZ := hidden (show w.heap.size + 1 ≤ w3.heap.size from by have := S.out.var.blk; have := S.out.hV; omega)
    have NX := hidden (show ∀ o w2 g2 d2, (w3.alloc o).drew.grownBy w2 (some g) → w2.ownsRow (w.heap.size + 1) 70 2 (.slice (some ⟨g2, 0, none⟩) (m + 1) d2) (m + 1) (xs ++ [.string nm, .int .i64 ar]) → w2.cell? ⟨V, 0, none⟩ = some (.slice (some ⟨g, 0, none⟩) m m) ∧ w2.frozen? ⟨V, 0, none⟩ = false ∧ ∃ N' A', Hid (St w (w2.setCell ⟨V, 0, none⟩ (.slice (some ⟨g2, 0, none⟩) (m + 1) d2)) s p n c 3 g2 (m + 1) d2 N' A' V) from fun o w2 g2 d2 hgrow hown => by
      obtain ⟨g5, d5, e5, b0, b1, S4⟩ := St.next ((S.out.keep (alloc_below _ o)).keep (Below.refl _ _).drew) hxs ((hx.alloc _).drew) hgrow hown (by simp) HM.out hN0 hA0
      simp at e5
      obtain ⟨rfl, rfl⟩ := e5
      exact ⟨b0, b1, _, _, hidden S4⟩)
    clear hx hxs S
    go_wp2_with fail
    go_region_law
      ((refine step_append_lies _ (by rfl) _ _ _ (by rfl) (w.heap.size + 1) 70 _ (.agg #[.string ByteArray.empty, .int .i64 0]) 2 24 Try.underlying24 rfl rfl rfl rfl rfl (by omega) (.slice (some ⟨g, 0, none⟩) m m) m xs (by rfl) ((HX.out.alloc _).drew) ⟨w3.heap.size, 0, none⟩ 1 1 [.string nm, .int .i64 ar] (by rfl) (by rfl) (World.news_of_block (cs := #[.string nm, .int .i64 ar]) (t := 70) (fr := (0, 0)) (heap_alloc_new w3 _)) (by simp [Value.oneCell']) (by omega) (by unfold maxLen; omega) (by omega) (by have := SZ.out; simp; omega) (w3.heap.size + 1) (by simp) ?_; intro g2 d2 w2 hown hgrow hat hlt2; obtain ⟨k4, k5, N', A', S4⟩ := NX.out _ _ _ _ hgrow hown))
    all_goals (
      have r0 := S4.out.res.c0
      have r1 := S4.out.res.f0
      have v1 := S4.out.var.c0
      clear hgrow hown hat hlt2 NX HX
      go_wp2
      exact bodyPost_ret (v := .agg #[.slice (some ⟨g2, 0, none⟩) (m + 1) d2]) (by simp [results, Try.results14, go_sem, r0]) rfl (S4.out.fin (by omega) _))
  · have r0' := S.out.res.c0
    clear r0'
    go_wp2
    go_loopw [5] (fun x wr => ∃ (k : Nat) (A' : Nat → Int), k ≤ m ∧ x = .int .i64 k ∧ Hid (St w wr s p n c 3 g m m N A' V)) (fun x _ => m - (intOf x).toNat)
    case atStart => exact ⟨0, A, Nat.zero_le _, rfl, S⟩
    case round =>
      obtain ⟨k, A', hk, rfl, S3⟩ := hrel
      have v1 := S3.out.var.c0
      by_cases hlt : k < m
      · obtain ⟨c0, f0, o1, g1⟩ := S3.out.own.arityAt hlt 1
        have S2 := hidden (S3.out.wrote g1 o1 (S3.out.kept.arity k (by omega)))
        clear o1 g1 S3 S
        go_wp2
        exact ⟨⟨k + 1, _, by omega, by go_num, S2⟩, by simp [intOf]; omega⟩
      · obtain rfl : m = k := by omega
        have r0 := S3.out.res.c0
        have r1 := S3.out.res.f0
        clear S
        go_wp2
        exact bodyPost_ret (v := .agg #[.slice (some ⟨g, 0, none⟩) m m]) (by simp [results, Try.results14, go_sem, r0]) rfl (S3.out.fin (by omega) _)
  · go_wp2
    go_loopw [] (fun wr => ∃ (g' m' d' : Nat) (N' : Nat → ByteArray) (A' : Nat → Int), 1 ≤ m' ∧ m' ≤ 7 ∧ Hid (St w wr s p n c 3 g' m' d' N' A' V)) (fun wr => 7 - lenAt wr V)
    case atStart => exact ⟨g, m, m, N, A, hm1, by omega, S⟩
    case round =>
      obtain ⟨g', m', d', N', A', h1, h7, S3⟩ := hrel
      have v1 := S3.out.var.c0
      clear S
      by_cases hlt : m' < 7
      · obtain ⟨xs, hx, hxs⟩ := S3.out.own
        have HX := hidden hx
        have HXS := hidden hxs
        have LM := hidden (lenAt_eq v1)
        have SZ := hidden (show w.heap.size + 1 ≤ wr.heap.size from by have := S3.out.var.blk; have := S3.out.hV; omega)
        clear hx hxs
        go_wp2_with (first | (at_builtin; refine wpList_append_own _ rfl _ _ 24 rfl (w.heap.size + 1) 70 _ (.agg #[.string ByteArray.empty, .int .i64 0]) 2 24 Try.underlying24 rfl rfl rfl rfl rfl (by decide) _ m' xs rfl (HX.out.alloc _) _ 1 1 [.string ⟨#[122]⟩, .int .i64 0] rfl rfl (two_src _ _ _ _ _ (by simp)) (by intro u hu; simp at hu; rcases hu with rfl | rfl <;> rfl) (by unfold maxLen; omega) (by omega) (by have := SZ.out; simp; omega) ?_) | go_in)
        intro v' w4 hown hgrow hnil
        obtain ⟨g2, d2, rfl, b0, b1, S4⟩ := St.next (S3.out.keep (alloc_below _ _)) HXS.out (HX.out.alloc _) hgrow hown hnil (by omega) (nm := ⟨#[122]⟩) (by decide) (by omega)
        have S5 := hidden S4
        clear hown hgrow hnil S4 S3 HX HXS SZ v1
        go_wp2
        exact ⟨⟨g2, m' + 1, d2, _, _, by omega, by omega, S5⟩, by rw [LM.out, lenAt_eq S5.out.var.c0]; omega⟩
      · obtain rfl : m' = 7 := by omega
        have r0 := S3.out.res.c0
        have r1 := S3.out.res.f0
        go_wp2
        exact bodyPost_ret (v := .agg #[.slice (some ⟨g', 0, none⟩) 7 d']) (by simp [results, Try.results14, go_sem, r0]) rfl (S3.out.fin (by omega) _)

end Go.Proofs.Ytbgemmhkfbfooaa
