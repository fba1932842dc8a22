/- Contracts: bytes that are drawn for a law on signatures. -/
import Derived.Test.YthgoclbgepfjmaaSigBent
import Derived.Test.YthgoclbgepfjmaaReadImpl
namespace Go.Proofs.Ythgoclbgepfjmaa
open Go.RowKit

theorem nm_one (a : UInt8) (h : 97 ≤ a.toNat ∧ a.toNat ≤ 122) : isNm ⟨#[a]⟩ := by
  refine ⟨Nat.le_refl 1, by show (1 : Nat) ≤ 3; omega, fun i hi _ => ?_⟩
  have : i = 0 := by have : (ByteArray.mk #[a]).size = 1 := rfl; omega
  subst this; exact h

theorem nm_three (a b c : UInt8) (h : 97 ≤ a.toNat ∧ a.toNat ≤ 122) (h2 : 97 ≤ b.toNat ∧ b.toNat ≤ 122) (h3 : 97 ≤ c.toNat ∧ c.toNat ≤ 122) : isNm ⟨#[a, b, c]⟩ := by
  refine ⟨by show (1 : Nat) ≤ 3; omega, Nat.le_refl 3, fun i hi _ => ?_⟩
  have hs : (ByteArray.mk #[a, b, c]).size = 3 := rfl
  match i, hi with
  | 0, _ => exact h
  | 1, _ => exact h2
  | 2, _ => exact h3
  | i + 3, hi => omega

theorem nm_le {s : ByteArray} (h : isNm s) : s.size ≤ 3 := by unfold isNm at h; exact h.2.1

def okP (x : ByteArray × Int) : Prop := isNm x.1 ∧ 0 ≤ x.2 ∧ x.2 ≤ 2

theorem sig_okP : ∀ j, ∀ x ∈ sigL j, okP x := by
  intro j x hx
  unfold sigL at hx
  split at hx <;> simp only [List.mem_cons, List.not_mem_nil, or_false] at hx <;> (repeat' (rcases hx with hx | hx)) <;> (try subst hx) <;> first | exact ⟨nm_one _ (by decide), by decide, by decide⟩ | exact ⟨nm_three _ _ _ (by decide) (by decide) (by decide), by decide, by decide⟩

theorem sigL_right (j : Nat) : Right (sigL j).length (nmL (sigL j)) (arL (sigL j)) := by
  have e : ∀ i, i < (sigL j).length → okP ((sigL j).getD i (ByteArray.empty, 0)) := fun i hi => by
    rw [List.getD_eq_getElem?_getD, List.getElem?_eq_getElem hi]
    exact sig_okP j _ (List.getElem_mem hi)
  exact ⟨(sigL_len j).1, (sigL_len j).2, fun i hi => (e i hi).1, fun i hi => (e i hi).2⟩

/-- What the draw stands at: the source, and bytes of its own. -/
structure Db (w W : World) (s : Nat) (p : Option Addr) (nn c a g k d : Nat) : Prop where
  gen : Byt.Gen W s p nn c a
  own : ∃ l : List Int, l.length = k ∧ (∀ x ∈ l, 0 ≤ x ∧ x ≤ 255) ∧ W.ownsRow w.heap.size 5 1 (.slice (some ⟨g, 0, none⟩) k d) k (l.map (Value.int .u8))
  bel : Below w.heap.size w W
  hs : w.heap.size ≤ s
  hg : w.heap.size ≤ g
  ne : g ≠ s
  k1 : 1 ≤ k
  k2 : k ≤ 41

theorem Db.call {w W W' : World} {s nn c a a' g k d : Nat} {p : Option Addr} (h : Db w W s p nn c a g k d) (hg : Byt.Gen W' s p nn c a') (hk : W.grownBy W' (some s)) : Db w W' s p nn c a' g k d := by
  obtain ⟨l, h1, h2, ho⟩ := h.own
  exact ⟨hg, ⟨l, h1, h2, ho.kept hk (.inr (by simpa [Value.ownBlock] using h.ne))⟩, h.bel.grown hk h.bel.size (fun j e => by cases e; exact h.hs), h.hs, h.hg, h.ne, h.k1, h.k2⟩

theorem Db.put {w W : World} {s nn c a g k d : Nat} {p : Option Addr} (h : Db w W s p nn c a g k d) {i : Nat} (hi : i < k) (x : Int) (hx : 0 ≤ x ∧ x ≤ 255) :
    (∃ u0, W.cell? ⟨g, i, none⟩ = some u0) ∧ W.frozen? ⟨g, i, none⟩ = false ∧ Db w (W.setCell ⟨g, i, none⟩ (.int .u8 x)) s p nn c a g k d := by
  obtain ⟨l, h1, h2, ho⟩ := h.own
  obtain ⟨o1, g1⟩ := ho.stored i (.int .u8 x)
  have hl : (l.map (Value.int .u8)).length = k * 1 := ho.1
  refine ⟨⟨_, (ho.cellAt i (by omega)).trans (List.getElem?_eq_getElem (by omega))⟩, ho.frozenAt _, h.gen.grown (Byt.setCell_grown _ _ _ _) (fun e => h.ne e.symm), ⟨l.set i x, by simpa using h1, fun y hy => ?_, by rw [List.map_set]; exact o1⟩, h.bel.setCell h.hg _, h.hs, h.hg, h.ne, h.k1, h.k2⟩
  rcases List.mem_or_eq_of_mem_set hy with e | e
  · exact h2 y e
  · rw [e]; exact hx

theorem Byt.Gen.keep {w w' : World} {s n c a : Nat} {p : Option Addr} (h : Byt.Gen w s p n c a) (hb : Below w.heap.size w w') : Byt.Gen w' s p n c a :=
  ⟨Nat.lt_of_lt_of_le h.blk hb.size, by rw [(bcell hb).1 _ _ h.blk]; exact h.c0, by rw [(bcell hb).1 _ _ h.blk]; exact h.c1, by rw [(bcell hb).2 _ _ h.blk]; exact h.f1⟩

theorem own_base2 {w : World} {B B' e size g n c : Nat} {xs : List Value} (h : w.ownsRow B e size (.slice (some ⟨g, 0, none⟩) n c) n xs) (hB : B' ≤ g) : w.ownsRow B' e size (.slice (some ⟨g, 0, none⟩) n c) n xs := by
  refine ⟨h.1, h.2.imp id ?_⟩
  rintro ⟨g', cap, cur, h1, h2, h3, h4⟩
  have e : g' = g := by simp at h1; exact h1.1.symm
  subst e
  exact ⟨g', cap, cur, h1, hB, h3, h4⟩

theorem packV_pos (N : Nat → ByteArray) (A : Nat → Int) (n : Nat) : ∀ k, 1 ≤ (packV N A n k).length
  | 0 => by simp [packV]
  | k + 1 => by have := packV_pos N A n k; simp [packV]; omega

theorem Db.alloc {w W : World} {s nn c a g k d : Nat} {p : Option Addr} (h : Db w W s p nn c a g k d) (o : Obj) : Db w (W.alloc o) s p nn c a g k d := by
  obtain ⟨l, h1, h2, ho⟩ := h.own
  exact ⟨h.gen.alloc o, ⟨l, h1, h2, ownsRow_later ho (alloc_below W o) (ho.lt g rfl).2⟩, keepB h.bel (alloc_below _ _), h.hs, h.hg, h.ne, h.k1, h.k2⟩

theorem Db.cap {w W : World} {s nn c a g k d : Nat} {p : Option Addr} (h : Db w W s p nn c a g k d) : k ≤ d := by
  obtain ⟨l, h1, h2, ho⟩ := h.own
  rcases ho.2 with ⟨e, _⟩ | ⟨g9, cap, cur, e, _, _, h3, h4, _⟩
  · cases e
  · simp at e; rw [e.2]; exact h3

theorem nums_rd (W : World) (K : Nat) : Byt.Nums (W.alloc (.cells #[.int .i64 K, .int .i64 K, .int .i64 ((K : Int) - 1), .int .i64 0] 2)) W.heap.size 4 [(K : Int), (K : Int), (K : Int) - 1, 0] :=
  ⟨rfl, fun i hi => by
    match i, hi with
    | 0, _ => simp [go_sem]
    | 1, _ => simp [go_sem]
    | 2, _ => simp [go_sem]
    | 3, _ => simp [go_sem]⟩

theorem rd_pick {K i : Nat} (hk : 1 ≤ K) (hi : i < 4) : ∃ v : Nat, [(K : Int), (K : Int), (K : Int) - 1, 0].getD i 0 = v ∧ v ≤ K := by
  match i, hi with
  | 0, _ => exact ⟨K, rfl, Nat.le_refl _⟩
  | 1, _ => exact ⟨K, rfl, Nat.le_refl _⟩
  | 2, _ => exact ⟨K - 1, by show (K : Int) - 1 = _; omega, by omega⟩
  | 3, _ => exact ⟨0, rfl, Nat.zero_le _⟩

theorem one_srcB (W : World) (v : Value) (t : TypeId) : ∀ (j : Nat) (u : Value), [v][j]? = some u → (W.alloc (.cells #[v] t)).cell? ((⟨W.heap.size, 0, none⟩ : Addr).add j) = some u := by
  intro j u hj
  match j, hj with
  | 0, hj => simp at hj; subst hj; simp [Addr.add, go_sem]

theorem oneValB (x : Int) : ∀ u ∈ [Value.int .u8 x], u.oneCell' = true := by intro u hu; simp at hu; rw [hu]; rfl

theorem Db.more {w W W' : World} {s nn c a g k d : Nat} {p : Option Addr} (h : Db w W s p nn c a g k d) {l : List Int} (h1 : l.length = k) (h2 : ∀ x ∈ l, 0 ≤ x ∧ x ≤ 255) {v' : Value} (hown : W'.ownsRow w.heap.size 5 1 v' (k + 1) (l.map (Value.int .u8) ++ [.int .u8 0])) (hgr : (W.alloc (.cells #[.int .u8 0] 5)).grownBy W' (Value.slice (some ⟨g, 0, none⟩) k d).ownBlock) (hnil : ¬ v' = .slice none 0 0) (hk : k ≤ 40) :
    ∃ g' d', v' = .slice (some ⟨g', 0, none⟩) (k + 1) d' ∧ Db w W' s p nn c a g' (k + 1) d' := by
  have hob : (Value.slice (some ⟨g, 0, none⟩) k d).ownBlock = some g := rfl
  rw [hob] at hgr
  have hsz : w.heap.size ≤ (W.alloc (.cells #[.int .u8 0] 5)).heap.size := by have := h.bel.size; simp; omega
  have hgen : Byt.Gen W' s p nn c a := (h.gen.alloc _).grown hgr (fun e => h.ne e.symm)
  have hbel : Below w.heap.size w W' := (keepB h.bel (alloc_below _ _)).grown hgr hsz (fun j e => by cases e; exact h.hg)
  rcases hown.2 with ⟨hv, _⟩ | ⟨g', d', cur, hv, hg', _⟩
  · exact absurd hv hnil
  · subst hv
    refine ⟨g', d', rfl, hgen, ⟨l ++ [0], by simp [h1], fun x hx => ?_, by simpa using hown⟩, hbel, h.hs, hg', fun e => ?_, by omega, by omega⟩
    · rcases List.mem_append.1 hx with hx | hx
      · exact h2 x hx
      · simp at hx; subst hx; omega
    · subst e
      have c1 := hgen.c1
      have hk1 := h.k1
      rw [hown.cellAt 1 (by omega)] at c1
      have hm := List.mem_of_getElem? c1
      rcases List.mem_append.1 hm with hm | hm
      · obtain ⟨y, _, hy⟩ := List.mem_map.1 hm
        cases hy
      · simp at hm

/-- Bytes that were drawn. -/
def DatAns (w : World) (e : Ending) (w' : World) : Prop :=
  ∃ g v d l, e = .returned (.slice (some ⟨g, 0, none⟩) v d) ∧ w.heap.size ≤ g ∧ v ≤ 42 ∧ v ≤ d ∧ d ≤ 9223372036854775807 ∧ Byt.Row w' g 0 v l ∧ Below w.heap.size w w'

theorem Db.ans {w W : World} {s nn c a g k d : Nat} {p : Option Addr} (h : Db w W s p nn c a g k d) {v : Nat} (hv : v ≤ k) : DatAns w (.returned (.slice (some ⟨g, 0, none⟩) v d)) W := by
  obtain ⟨l, h1, h2, ho⟩ := h.own
  have hc : k ≤ d ∧ d ≤ maxLen := by
    rcases ho.2 with ⟨e, _⟩ | ⟨g9, cap, cur, e, _, _, h3, h4, _⟩
    · cases e
    · simp at e; rw [e.2]; exact ⟨h3, h4⟩
  have hk2 := h.k2
  have hml := hc.2
  unfold maxLen at hml
  refine ⟨g, v, d, l.take v, rfl, h.hg, by omega, by omega, by omega, ⟨by simp; omega, by omega, fun i => ?_, (ho.lt g rfl).2, fun i hi => ?_⟩, h.bel⟩
  · rw [List.getD_eq_getElem?_getD]
    by_cases hi : i < (l.take v).length
    · rw [List.getElem?_eq_getElem hi]; exact h2 _ (List.mem_of_mem_take (List.getElem_mem hi))
    · rw [List.getElem?_eq_none (by omega)]; simp
  · rw [Nat.zero_add, ho.cellAt _ (by omega)]
    have hil : i < l.length := by omega
    simp [List.getD_eq_getElem?_getD, hi, List.getElem?_eq_getElem hil]

set_option maxRecDepth 20000 in
set_option maxHeartbeats 3200000 in
theorem drawRd_any (p : Option Addr) (nn c : Nat) (l : List Int) (w : World) (h : Byt.Src w p nn l) :
    Calls Try.prog 10 #[.slice p nn c] w fun e w' => DatAns w e w' := by
  have H := hidden h
  clear h
  go_enter Try.func10, Try.ntmps10
  go_wp2_with fail
  with_reducible refine (Byt.l1Source_any p nn c _).mono ?_
  rintro e w1 ⟨s, rfl, hs, hgn, hb⟩
  have HG := hidden hgn
  have BB := hidden hb
  have HS := hidden hs
  clear hgn hb hs
  go_wp2_with fail
  with_reducible refine (l2Sig_any s p nn c 0 l w _ HG.out H.out BB.out HS.out (by omega)).mono ?_
  rintro e w2 ⟨j, g, rfl, hge, ho, hgn, hgr⟩
  have LS := hidden HG.out.blk
  replace HG := hidden (hgn.alloc (.cells #[.slice (some ⟨g, 0, none⟩) (sigL j).length (sigL j).length] 26))
  replace BB := hidden ((BB.out.grown hgr BB.out.size (fun k e => by cases e; exact HS.out)).alloc (Nat.le_trans BB.out.size hgr.size) (.cells #[.slice (some ⟨g, 0, none⟩) (sigL j).length (sigL j).length] 26))
  have D := hidden (One.new w2 (.slice (some ⟨g, 0, none⟩) (sigL j).length (sigL j).length) 26)
  have Q := hidden (ho.keep (alloc_below w2 (.cells #[.slice (some ⟨g, 0, none⟩) (sigL j).length (sigL j).length] 26)))
  have RT := hidden (sigL_right j)
  clear ho hgn hgr hge
  go_wp2_with fail
  with_reducible refine (l2Pack_any _ _ _ _ _ (nmL (sigL j)) (arL (sigL j)) _ (Q.out.syms (fun i hi => by have := nm_le (RT.out.name i hi); unfold maxLen; omega) (fun i hi => by have := RT.out.arity i hi; omega)) D.out RT.out).mono ?_
  rintro e w3 ⟨g3, d3, rfl, ho, hb⟩
  have hkl := packV_len RT.out (sigL j).length (Nat.le_refl _)
  have h6 := RT.out.most
  have ST := hidden (show Db w w3 s p nn c (0 + 1) g3 (packV (nmL (sigL j)) (arL (sigL j)) (sigL j).length (sigL j).length).length d3 from by
    have hs2 := HG.out.blk
    have hz3 := BB.out.size
    refine ⟨HG.out.keep hb, ⟨packL (nmL (sigL j)) (arL (sigL j)) (sigL j).length (sigL j).length, ?_, packL_byt RT.out _ (Nat.le_refl _), ?_⟩, keepB BB.out hb, HS.out, Nat.le_trans hz3 ho.base, ?_, packV_pos _ _ _ _, by omega⟩
    · rw [packV_map]; simp
    · rw [← packV_map]; exact own_base2 ho.own (Nat.le_trans hz3 ho.base)
    · have := ho.base; omega)
  clear ho hb HG BB HS D Q
  generalize (packV (nmL (sigL j)) (arL (sigL j)) (sigL j).length (sigL j).length).length = K at *
  have hK31 : K ≤ 31 := by omega
  clear hkl h6 RT
  have hk1 := ST.out.k1
  have hk2 := ST.out.k2
  go_wp2_with fail
  with_reducible refine (Byt.l1Chance_any s p nn c (0 + 1) l 3 w _ ST.out.gen H.out ST.out.bel ST.out.hs (by omega) (by omega) (by omega)).mono ?_
  rintro e w4 ⟨cv, rfl, hgn, hgr, hz⟩
  replace ST := hidden (ST.out.call hgn hgr)
  clear hgn hgr hz hk1 hk2
  cases cv
  · have hk1 := ST.out.k1
    have hk2 := ST.out.k2
    go_wp2_with fail
    with_reducible refine (Byt.l1Chance_any s p nn c (0 + 1 + 1) l 9 w _ ST.out.gen H.out ST.out.bel ST.out.hs (by omega) (by omega) (by omega)).mono ?_
    rintro e w7 ⟨cv, rfl, hgn, hgr, hz⟩
    replace ST := hidden (ST.out.call hgn hgr)
    clear hgn hgr hz hk1 hk2
    cases cv
    · have hk1 := ST.out.k1
      have hk2 := ST.out.k2
      have NB := hidden (show w7.heap.size ≠ s from fun e => by have := ST.out.gen.blk; omega)
      have PC := hidden (Byt.l1Pick_any s p nn c ((0 + 1 + 1) + 1) l w7.heap.size 4 4 [(K : Int), (K : Int), (K : Int) - 1, 0] w _ (ST.out.gen.alloc (.cells #[.int .i64 K, .int .i64 K, .int .i64 (K - 1), .int .i64 0] 2)) H.out (keepB ST.out.bel (alloc_below _ _)) ST.out.hs (by omega) (nums_rd w7 K) NB.out (by omega) (by omega))
      go_wp2_with fail
      refine PC.out.mono ?_
      rintro e w8 ⟨i, hi, rfl, hgn, hgr, hz⟩
      have SA := hidden (ST.out.alloc (.cells #[.int .i64 K, .int .i64 K, .int .i64 (K - 1), .int .i64 0] 2))
      have SE := hidden (SA.out.call hgn hgr)
      clear hgn hgr hz PC NB
      obtain ⟨v, hv, hvk⟩ := rd_pick (K := K) hk1 hi
      rw [hv]
      have hd := SE.out.cap
      have i1 : (0 : Int) ≤ v := by omega
      have i2 : (v : Int) ≤ d3 := by omega
      have AN := hidden (SE.out.ans hvk)
      clear hv ST SA
      go_wp2
      go_ret
      exact AN.out
    · obtain ⟨l0, h1, h2, ho⟩ := ST.out.own
      have O1 := hidden ho
      have hl0 : l0.length = K := h1
      clear ho
      have W1 := hidden ST.out.bel.size
      have G1 := ST.out.hg
      go_wp2_with (first | (at_builtin; refine wpList_append_own _ rfl _ _ 22 rfl w.heap.size 5 _ (.int .u8 0) 1 1 Try.underlying22 rfl rfl rfl rfl rfl (by decide) _ _ _ rfl (O1.out.alloc _) ⟨w7.heap.size, 0, none⟩ 1 1 [.int .u8 0] rfl rfl (one_srcB _ _ _) (oneValB _) (by unfold maxLen; omega) (by omega) (by have := W1.out; simp; omega) ?_) | go_in)
      intro v' wA hown hgrow hnil
      obtain ⟨g6, d6, rfl, S6⟩ := Db.more ST.out hl0 h2 hown hgrow (by simpa using hnil) (by omega)
      replace ST := hidden S6
      clear hown hgrow hnil S6 O1 W1 G1 hl0 h1 h2
      generalize hK2 : K + 1 = K2 at *
      have hk1 := ST.out.k1
      have hk2 := ST.out.k2
      have NB := hidden (show wA.heap.size ≠ s from fun e => by have := ST.out.gen.blk; omega)
      have PC := hidden (Byt.l1Pick_any s p nn c ((0 + 1 + 1) + 1) l wA.heap.size 4 4 [(K2 : Int), (K2 : Int), (K2 : Int) - 1, 0] w _ (ST.out.gen.alloc (.cells #[.int .i64 K2, .int .i64 K2, .int .i64 (K2 - 1), .int .i64 0] 2)) H.out (keepB ST.out.bel (alloc_below _ _)) ST.out.hs (by omega) (nums_rd wA K2) NB.out (by omega) (by omega))
      go_wp2_with fail
      refine PC.out.mono ?_
      rintro e w8 ⟨i, hi, rfl, hgn, hgr, hz⟩
      have SA := hidden (ST.out.alloc (.cells #[.int .i64 K2, .int .i64 K2, .int .i64 (K2 - 1), .int .i64 0] 2))
      have SE := hidden (SA.out.call hgn hgr)
      clear hgn hgr hz PC NB
      obtain ⟨v, hv, hvk⟩ := rd_pick (K := K2) hk1 hi
      rw [hv]
      have hd := SE.out.cap
      have i1 : (0 : Int) ≤ v := by omega
      have i2 : (v : Int) ≤ d6 := by omega
      have AN := hidden (SE.out.ans hvk)
      clear hv ST SA
      go_wp2
      go_ret
      exact AN.out
  · have hk1 := ST.out.k1
    have hk2 := ST.out.k2
    go_wp2_with fail
    with_reducible refine (Byt.l1Next_any s p nn c (0 + 1 + 1) l K w _ ST.out.gen H.out ST.out.bel ST.out.hs (by omega) (by omega) (by omega)).mono ?_
    rintro e w5 ⟨vi, rfl, hv0, hv1, hgn, hgr, hz⟩
    replace ST := hidden (ST.out.call hgn hgr)
    clear hgn hgr hz
    obtain ⟨i, rfl⟩ := Int.eq_ofNat_of_zero_le hv0
    have hi : i < K := by omega
    go_wp2_with fail
    with_reducible refine (Byt.l1Next_any s p nn c (0 + 1 + 1 + 1) l 8 w _ ST.out.gen H.out ST.out.bel ST.out.hs (by omega) (by omega) (by omega)).mono ?_
    rintro e w6 ⟨x, rfl, hx0, hx1, hgn, hgr, hz⟩
    replace ST := hidden (ST.out.call hgn hgr)
    clear hgn hgr hz
    obtain ⟨⟨u0, p0⟩, f0, S2⟩ := ST.out.put hi x ⟨hx0, by omega⟩
    replace ST := hidden S2
    clear S2 hk1 hk2
    have hk1 := ST.out.k1
    have hk2 := ST.out.k2
    go_wp2_with fail
    with_reducible refine (Byt.l1Chance_any s p nn c (0 + 1 + 1 + 1 + 1) l 9 w _ ST.out.gen H.out ST.out.bel ST.out.hs (by omega) (by omega) (by omega)).mono ?_
    rintro e w7 ⟨cv, rfl, hgn, hgr, hz⟩
    replace ST := hidden (ST.out.call hgn hgr)
    clear hgn hgr hz hk1 hk2
    cases cv
    · have hk1 := ST.out.k1
      have hk2 := ST.out.k2
      have NB := hidden (show w7.heap.size ≠ s from fun e => by have := ST.out.gen.blk; omega)
      have PC := hidden (Byt.l1Pick_any s p nn c ((0 + 1 + 1 + 1 + 1) + 1) l w7.heap.size 4 4 [(K : Int), (K : Int), (K : Int) - 1, 0] w _ (ST.out.gen.alloc (.cells #[.int .i64 K, .int .i64 K, .int .i64 (K - 1), .int .i64 0] 2)) H.out (keepB ST.out.bel (alloc_below _ _)) ST.out.hs (by omega) (nums_rd w7 K) NB.out (by omega) (by omega))
      go_wp2_with fail
      refine PC.out.mono ?_
      rintro e w8 ⟨i, hi, rfl, hgn, hgr, hz⟩
      have SA := hidden (ST.out.alloc (.cells #[.int .i64 K, .int .i64 K, .int .i64 (K - 1), .int .i64 0] 2))
      have SE := hidden (SA.out.call hgn hgr)
      clear hgn hgr hz PC NB
      obtain ⟨v, hv, hvk⟩ := rd_pick (K := K) hk1 hi
      rw [hv]
      have hd := SE.out.cap
      have i1 : (0 : Int) ≤ v := by omega
      have i2 : (v : Int) ≤ d3 := by omega
      have AN := hidden (SE.out.ans hvk)
      clear hv ST SA
      go_wp2
      go_ret
      exact AN.out
    · obtain ⟨l0, h1, h2, ho⟩ := ST.out.own
      have O1 := hidden ho
      have hl0 : l0.length = K := h1
      clear ho
      have W1 := hidden ST.out.bel.size
      have G1 := ST.out.hg
      go_wp2_with (first | (at_builtin; refine wpList_append_own _ rfl _ _ 22 rfl w.heap.size 5 _ (.int .u8 0) 1 1 Try.underlying22 rfl rfl rfl rfl rfl (by decide) _ _ _ rfl (O1.out.alloc _) ⟨w7.heap.size, 0, none⟩ 1 1 [.int .u8 0] rfl rfl (one_srcB _ _ _) (oneValB _) (by unfold maxLen; omega) (by omega) (by have := W1.out; simp; omega) ?_) | go_in)
      intro v' wA hown hgrow hnil
      obtain ⟨g6, d6, rfl, S6⟩ := Db.more ST.out hl0 h2 hown hgrow (by simpa using hnil) (by omega)
      replace ST := hidden S6
      clear hown hgrow hnil S6 O1 W1 G1 hl0 h1 h2
      generalize hK2 : K + 1 = K2 at *
      have hk1 := ST.out.k1
      have hk2 := ST.out.k2
      have NB := hidden (show wA.heap.size ≠ s from fun e => by have := ST.out.gen.blk; omega)
      have PC := hidden (Byt.l1Pick_any s p nn c ((0 + 1 + 1 + 1 + 1) + 1) l wA.heap.size 4 4 [(K2 : Int), (K2 : Int), (K2 : Int) - 1, 0] w _ (ST.out.gen.alloc (.cells #[.int .i64 K2, .int .i64 K2, .int .i64 (K2 - 1), .int .i64 0] 2)) H.out (keepB ST.out.bel (alloc_below _ _)) ST.out.hs (by omega) (nums_rd wA K2) NB.out (by omega) (by omega))
      go_wp2_with fail
      refine PC.out.mono ?_
      rintro e w8 ⟨i, hi, rfl, hgn, hgr, hz⟩
      have SA := hidden (ST.out.alloc (.cells #[.int .i64 K2, .int .i64 K2, .int .i64 (K2 - 1), .int .i64 0] 2))
      have SE := hidden (SA.out.call hgn hgr)
      clear hgn hgr hz PC NB
      obtain ⟨v, hv, hvk⟩ := rd_pick (K := K2) hk1 hi
      rw [hv]
      have hd := SE.out.cap
      have i1 : (0 : Int) ≤ v := by omega
      have i2 : (v : Int) ≤ d6 := by omega
      have AN := hidden (SE.out.ans hvk)
      clear hv ST SA
      go_wp2
      go_ret
      exact AN.out

end Go.Proofs.Ythgoclbgepfjmaa
