/- Contracts: lists of lists of numbers: how great they are, their copies and their comparison. -/
import Derived.Test.YtdcngfdklpdpkaaEqn
import Derived.Test.YtdcngfdklpdpkaaSameT
namespace Go.Proofs.Ytdcngfdklpdpkaa
open Go.RowKit

/-- The lists of a list: how long they are, and their numbers. -/
structure LsL where
  m : Nat → Nat
  L : Nat → Nat → Int

/-- Lists that came in, in a row. -/
structure RowM (w : World) (b off n : Nat) (D : LsL) : Prop where
  blk : 0 < n → b < w.heap.size
  row : ∀ i, i < n → ∃ p c, w.cell? ⟨b, off + i, none⟩ = some (.slice p (D.m i) c) ∧ SrcI w p (D.m i) (D.L i) ∧ D.m i ≤ maxLen

theorem RowM.keep {w w' : World} {b off n : Nat} {D : LsL} (h : RowM w b off n D) (hb : Below w.heap.size w w') : RowM w' b off n D :=
  ⟨fun h0 => Nat.lt_of_lt_of_le (h.blk h0) hb.size, fun i hi => by
    obtain ⟨p1, c1, h1, h3, h5⟩ := h.row i hi
    have hk := h.blk (by omega)
    exact ⟨p1, c1, by rw [(bcell hb).1 _ _ hk]; exact h1, h3.keep hb, h5⟩⟩

/-- What came in: no list, or a row of them. -/
def SrcM (w : World) (p : Option Addr) (n : Nat) (D : LsL) : Prop :=
  n ≤ maxLen ∧ (n = 0 ∨ ∃ b off, p = some ⟨b, off, none⟩ ∧ RowM w b off n D)

theorem SrcM.keep {w w' : World} {p : Option Addr} {n : Nat} {D : LsL} (h : SrcM w p n D) (hb : Below w.heap.size w w') : SrcM w' p n D :=
  ⟨h.1, h.2.imp id fun ⟨b, off, hp, hs⟩ => ⟨b, off, hp, hs.keep hb⟩⟩

/-- Copies of lists, in a row. -/
structure Mats (w : World) (b off n : Nat) (D : LsL) : Prop where
  blk : 0 < n → b < w.heap.size
  row : ∀ i, i < n → ∃ g o c, w.cell? ⟨b, off + i, none⟩ = some (.slice (some ⟨g, o, none⟩) (D.m i) c) ∧ Ints w g o (D.m i) (D.L i) ∧ D.m i ≤ c

theorem Mats.keep {w w' : World} {b off n : Nat} {D : LsL} (h : Mats w b off n D) (hb : Below w.heap.size w w') : Mats w' b off n D :=
  ⟨fun h0 => Nat.lt_of_lt_of_le (h.blk h0) hb.size, fun i hi => by
    obtain ⟨g1, o1, c1, h1, h3, h4⟩ := h.row i hi
    have hk := h.blk (by omega)
    exact ⟨g1, o1, c1, by rw [(bcell hb).1 _ _ hk]; exact h1, h3.keep hb, h4⟩⟩

/-- What a law copies. -/
structure KeptM (n : Nat) (D : LsL) : Prop where
  most : n ≤ 1048576
  m : ∀ i, i < n → D.m i ≤ 1048576

set_option maxRecDepth 20000 in
set_option maxHeartbeats 400000 in
theorem szInt64SS_many (p : Option Addr) (n c : Nat) (left : Int) (w : World) (hn : n ≤ maxLen) (h0 : 0 ≤ left) (h1 : left ≤ 1048576) (h : left < n) :
    Calls Try.prog 38 #[.slice p n c, .int .i64 left] w fun e w' => e = .returned (.int .i64 (-1)) ∧ Below w.heap.size w w' := by
  unfold maxLen at hn
  go_enter Try.func38, Try.ntmps38
  go_wp2
  go_ret
  exact ⟨rfl, Below.refl _ _⟩

set_option maxRecDepth 20000 in
set_option maxHeartbeats 800000 in
theorem szInt64SS_any (b off n c : Nat) (D : LsL) (left : Int) (w : World) (h : RowM w b off n D) (h0 : 0 ≤ left) (h1 : left ≤ 1048576) (hn : ¬ left < n) :
    Calls Try.prog 38 #[.slice (some ⟨b, off, none⟩) n c, .int .i64 left] w fun e w' => (∃ r, e = .returned (.int .i64 r) ∧ (r = -1 ∨ (0 ≤ r ∧ r ≤ left ∧ KeptM n D))) ∧ Below w.heap.size w w' := by
  have HR := hidden h
  clear h
  go_enter Try.func38, Try.ntmps38
  go_wp2
  go_loopw [1, 5] (fun l i wr => ∃ (k : Nat) (r : Int), k ≤ n ∧ i = .int .i64 k ∧ l = .int .i64 r ∧ 0 ≤ r ∧ r ≤ left ∧ Hid (∀ i, i < k → D.m i ≤ 1048576) ∧ Hid (Below w.heap.size w wr)) (fun _ i _ => n - (intOf i).toNat)
  case atStart => exact ⟨0, _, Nat.zero_le _, rfl, rfl, by omega, by omega, hidden (fun i hi => by omega), hidden (Below.refl _ _)⟩
  case round =>
    obtain ⟨k, r, hk, rfl, rfl, hr0, hr1, HZ, HB⟩ := hrel
    by_cases hlt : k < n
    · obtain ⟨p1, c1, e1, e3, e5⟩ := (HR.out.keep HB.out).row k hlt
      have E5 := hidden e5
      clear e3 e5
      go_wp2_with fail
      with_reducible refine (szInt64S_any _ _ _ _ _ E5.out hr0 (by omega)).mono ?_
      rintro e w1 ⟨⟨r1, rfl, hr⟩, hb1⟩
      have B1 := hidden (keepB HB.out hb1)
      clear hb1 e1
      rcases hr with rfl | ⟨q0, q1, q2⟩
      · go_wp2
        go_ret
        exact ⟨⟨_, rfl, Or.inl rfl⟩, B1.out⟩
      · have Q := hidden q2
        clear q2
        go_wp2
        go_roundw
        case rel => exact ⟨k + 1, r1, by omega, by go_num, rfl, q0, by omega, hidden (fun i hi => by
          by_cases e : i = k
          · rw [e]; exact Q.out
          · exact HZ.out i (by omega)), B1⟩
        case measure => simp [intOf]; omega
    · go_wp2
      go_ret
      exact ⟨⟨_, rfl, Or.inr ⟨hr0, hr1, by omega, fun i hi => HZ.out i (by omega)⟩⟩, HB.out⟩

set_option maxRecDepth 20000 in
set_option maxHeartbeats 400000 in
theorem szInt64SS_none (p : Option Addr) (c : Nat) (left : Int) (w : World) (h0 : 0 ≤ left) (h1 : left ≤ 1048576) :
    Calls Try.prog 38 #[.slice p 0 c, .int .i64 left] w fun e w' => e = .returned (.int .i64 left) ∧ Below w.heap.size w w' := by
  go_enter Try.func38, Try.ntmps38
  go_wp2
  refine wp_loop_rounds 1 ?_
  rw [rounds_succ]
  go_wp2
  go_ret
  exact ⟨by simp, Below.refl _ _⟩

theorem szInt64SS_src (p : Option Addr) (n c : Nat) (D : LsL) (left : Int) (w : World) (h : SrcM w p n D) (h0 : 0 ≤ left) (h1 : left ≤ 1048576) :
    Calls Try.prog 38 #[.slice p n c, .int .i64 left] w fun e w' => (∃ r, e = .returned (.int .i64 r) ∧ (r = -1 ∨ (0 ≤ r ∧ r ≤ left ∧ KeptM n D))) ∧ Below w.heap.size w w' := by
  by_cases hn : left < n
  · refine (szInt64SS_many p n c left w h.1 h0 h1 hn).mono ?_
    rintro e w' ⟨rfl, hb⟩
    exact ⟨⟨_, rfl, Or.inl rfl⟩, hb⟩
  · rcases h.2 with rfl | ⟨b, off, rfl, hs⟩
    · refine (szInt64SS_none p c left w h0 h1).mono ?_
      rintro e w' ⟨rfl, hb⟩
      exact ⟨⟨_, rfl, Or.inr ⟨h0, Int.le_refl _, by omega, fun i hi => by omega⟩⟩, hb⟩
    · exact szInt64SS_any b off n c D left w hs h0 h1 hn

/-- A row of copies in memory of its own, of which the first k are known; each lies behind those ahead of it. -/
def OwnM (w : World) (B g n c : Nat) (D : LsL) (k : Nat) : Prop :=
  ∃ (xs : List Value) (G : Nat → Nat), w.ownsRow B 47 1 (.slice (some ⟨g, 0, none⟩) n c) n xs ∧ (∀ i, i < k → ∃ d, xs[i]? = some (.slice (some ⟨G i, 0, none⟩) (D.m i) d) ∧ D.m i ≤ d ∧ B ≤ G i ∧ G i ≠ g ∧ OwnI w B (G i) (D.m i) d (D.L i) (D.m i)) ∧ ∀ i j, i < j → j < k → G i < G j

theorem OwnM.lt {w : World} {B g n c : Nat} {D : LsL} {k : Nat} (h : OwnM w B g n c D k) : g < w.heap.size := by
  obtain ⟨xs, G, ho, _⟩ := h; exact (ho.lt g rfl).2

theorem OwnM.keep {w w' : World} {B g n c : Nat} {D : LsL} {k : Nat} (h : OwnM w B g n c D k) (hb : Below w.heap.size w w') : OwnM w' B g n c D k := by
  have hl := h.lt
  obtain ⟨xs, G, ho, hx, hm⟩ := h
  refine ⟨xs, G, ownsRow_later ho hb hl, fun i hi => ?_, hm⟩
  obtain ⟨d, a1, a2, a3, a4, a5⟩ := hx i hi
  exact ⟨d, a1, a2, a3, a4, a5.keep hb⟩

theorem OwnM.mats {w : World} {B g n c : Nat} {D : LsL} (h : OwnM w B g n c D n) : Mats w g 0 n D := by
  have hl := h.lt
  obtain ⟨xs, G, ho, hx, _⟩ := h
  refine ⟨fun _ => hl, fun i hi => ?_⟩
  obtain ⟨d, a1, a2, _, _, a5⟩ := hx i hi
  exact ⟨G i, 0, d, by rw [Nat.zero_add, ho.cellAt _ (by omega)]; exact a1, a5.ints, a2⟩

theorem OwnM.put {w w1 : World} {B g n c : Nat} {D : LsL} {k : Nat} (h : OwnM w B g n c D k) (hb : Below w.heap.size w w1) (hk : k < n) {g1 d1 : Nat} (l1 : w.heap.size ≤ g1) (l2 : D.m k ≤ d1) (hB : B ≤ w.heap.size) {B' : Nat} (i1 : OwnI w1 B' g1 (D.m k) d1 (D.L k) (D.m k)) :
    (∃ u0, w1.cell? ⟨g, k, none⟩ = some u0) ∧ w1.frozen? ⟨g, k, none⟩ = false ∧
    OwnM (w1.setCell ⟨g, k, none⟩ (.slice (some ⟨g1, 0, none⟩) (D.m k) d1)) B g n c D (k + 1) ∧
    w1.grownBy (w1.setCell ⟨g, k, none⟩ (.slice (some ⟨g1, 0, none⟩) (D.m k) d1)) (some g) := by
  have hl := h.lt
  have h1 := h.keep hb
  obtain ⟨xs, G, ho0, hx0, hm0⟩ := h
  have ho := ownsRow_later ho0 hb hl
  obtain ⟨o1, e1⟩ := ho.stored k (.slice (some ⟨g1, 0, none⟩) (D.m k) d1)
  have hlen : xs.length = n * 1 := ho.1
  refine ⟨⟨_, (ho.cellAt k (by omega)).trans (List.getElem?_eq_getElem (by omega))⟩, ho.frozenAt _, ⟨_, fun i => if i = k then g1 else G i, o1, fun i hi => ?_, fun i j hij hj => ?_⟩, e1⟩
  · by_cases e : i = k
    · subst e
      simp only [if_true]
      exact ⟨d1, by rw [List.getElem?_set_self (by omega)], l2, by omega, by omega, ((i1.base (by omega)).other _ _ (by simp; omega))⟩
    · obtain ⟨d, a1, a2, a3, a4, a5⟩ := hx0 i (by omega)
      simp only [e, if_false]
      exact ⟨d, by rw [List.getElem?_set_ne (by omega)]; exact a1, a2, a3, a4, ((a5.keep hb).other _ _ (by simpa using a4))⟩
  · have hne : i ≠ k := by omega
    obtain ⟨d, _, _, _, _, a5⟩ := hx0 i (by omega)
    have := a5.lt
    simp only [hne, if_false]
    by_cases e : j = k
    · simp only [e, if_true]; omega
    · simp only [e, if_false]; exact hm0 i j hij (by omega)

set_option maxRecDepth 20000 in
theorem makeMats (w : World) (n : Nat) (hn : n ≤ 1048576) : ∃ w', (Instr.makeSlice 25 (.int .i64 (n : Int)) (.int .i64 (n : Int))).run Try.prog w = .ok (.slice (some ⟨w.heap.size, 0, none⟩) n n) w' ∧
      w'.ownsRow w.heap.size 47 1 (.slice (some ⟨w.heap.size, 0, none⟩) n n) n (madeCells (Value.slice none 0 0).cells (n * 1)).toList ∧ w.grownBy w' none :=
  run_make_full (P := Try.prog) w w.heap.size 25 47 _ (.slice none 0 0) 1 Try.underlying25 rfl rfl rfl .i64 .i64 n (by show 24 * n ≤ _; omega) (by unfold maxLen; omega) (Nat.le_refl _)

set_option maxRecDepth 20000 in
set_option maxHeartbeats 800000 in
theorem toInt64SS_any (b off n c : Nat) (D : LsL) (w : World) (h : RowM w b off n D) (hk : KeptM n D) :
    Calls Try.prog 43 #[.slice (some ⟨b, off, none⟩) n c] w fun e w' => e = .returned (.slice (some ⟨w.heap.size, 0, none⟩) n n) ∧ OwnM w' w.heap.size w.heap.size n n D n ∧ Below w.heap.size w w' := by
  have hn := hk.most
  obtain ⟨w1, hmk, how, hgr⟩ := makeMats w n hn
  have HO := hidden how
  have HG := hidden hgr
  have HR := hidden h
  have HK := hidden hk
  clear how hgr h hk
  go_enter Try.func43, Try.ntmps43
  go_wp2
  go_loopw [4] (fun i wr => ∃ k : Nat, k ≤ n ∧ i = .int .i64 k ∧ Hid (OwnM wr w.heap.size w.heap.size n n D k) ∧ Hid (Below w.heap.size w wr)) (fun i _ => n - (intOf i).toNat)
  case atStart =>
    exact ⟨0, Nat.zero_le _, rfl, hidden ⟨_, fun _ => 0, HO.out, fun i hi => by omega, fun i j _ hj => by omega⟩, hidden ((Below.refl _ _).grown HG.out (Nat.le_refl _) (fun k hk => by cases hk))⟩
  case round =>
    obtain ⟨k, hk, rfl, HW, HB⟩ := hrel
    by_cases hlt : k < n
    · obtain ⟨p1, c1, e1, e3, e5⟩ := (HR.out.keep HB.out).row k hlt
      have E3 := hidden e3
      clear e3 e5 hmk
      go_wp2_with fail
      with_reducible refine (toInts_src _ _ _ (D.L k) _ E3.out (HK.out.m k hlt)).mono ?_
      rintro e w2 ⟨g1, rfl, hg1, i1, hb⟩
      have hl := HW.out.lt
      have b2 := keepB HB.out hb
      obtain ⟨⟨u0, q0⟩, f0, o3, g3⟩ := HW.out.put hb hlt hg1 (Nat.le_refl _) HB.out.size i1
      have b3 := b2.grown g3 b2.size (fun j hj => by cases hj; exact Nat.le_refl _)
      have H3 := hidden (And.intro o3 b3)
      clear o3 g3 b3 b2 hb HW HB e1 i1 hg1 hl
      go_wp2
      go_roundw
      case rel => exact ⟨k + 1, by omega, by go_num, hidden H3.out.1, hidden H3.out.2⟩
      case measure => simp [intOf]; omega
    · go_wp2
      go_ret
      have e : k = n := by omega
      subst e
      exact ⟨rfl, HW.out, HB.out⟩

set_option maxRecDepth 20000 in
set_option maxHeartbeats 400000 in
theorem toInt64SS_none (p : Option Addr) (c : Nat) (D : LsL) (w : World) :
    Calls Try.prog 43 #[.slice p 0 c] w fun e w' => e = .returned (.slice (some ⟨w.heap.size, 0, none⟩) 0 0) ∧ OwnM w' w.heap.size w.heap.size 0 0 D 0 ∧ Below w.heap.size w w' := by
  obtain ⟨w1, hmk, how, hgr⟩ := makeMats w 0 (by omega)
  rw [show ((0 : Nat) : Int) = 0 from rfl] at hmk
  have HO := hidden how
  have HG := hidden hgr
  clear how hgr
  go_enter Try.func43, Try.ntmps43
  go_wp2
  refine wp_loop_rounds 1 ?_
  rw [rounds_succ]
  go_wp2
  go_ret
  exact ⟨rfl, ⟨_, fun _ => 0, HO.out, fun i hi => by omega, fun i j _ hj => by omega⟩, (Below.refl _ _).grown HG.out (Nat.le_refl _) (fun k hk => by cases hk)⟩

theorem toMats_new (p : Option Addr) (n c : Nat) (D : LsL) (w : World) (h : SrcM w p n D) (hk : KeptM n D) :
    Calls Try.prog 43 #[.slice p n c] w fun e w' => ∃ g, e = .returned (.slice (some ⟨g, 0, none⟩) n n) ∧ w.heap.size ≤ g ∧ OwnM w' w.heap.size g n n D n ∧ Below w.heap.size w w' := by
  rcases h.2 with rfl | ⟨b, off, rfl, hs⟩
  · refine (toInt64SS_none p c D w).mono ?_
    rintro e w' ⟨rfl, ho, hb⟩
    exact ⟨_, rfl, Nat.le_refl _, ho, hb⟩
  · refine (toInt64SS_any b off n c D w hs hk).mono ?_
    rintro e w' ⟨rfl, ho, hb⟩
    exact ⟨_, rfl, Nat.le_refl _, ho, hb⟩

set_option maxRecDepth 20000 in
set_option maxHeartbeats 800000 in
theorem eqInt64SS_eq (b off b' off' n c c' : Nat) (D : LsL) (w : World) (h : Mats w b off n D) (h' : Mats w b' off' n D) (hk : KeptM n D) :
    Calls Try.prog 48 #[.slice (some ⟨b, off, none⟩) n c, .slice (some ⟨b', off', none⟩) n c'] w fun e w' => e = .returned (.bool true) ∧ Below w.heap.size w w' := by
  have hn := hk.most
  have H := hidden h
  have H' := hidden h'
  have HK := hidden hk
  clear h h' hk
  go_enter Try.func48, Try.ntmps48
  go_wp2
  go_loopw [5] (fun i wr => ∃ k : Nat, k ≤ n ∧ i = .int .i64 k ∧ Hid (Below w.heap.size w wr)) (fun i _ => n - (intOf i).toNat)
  case atStart => exact ⟨0, Nat.zero_le _, rfl, hidden (Below.refl _ _)⟩
  case round =>
    obtain ⟨k, hk, rfl, HB⟩ := hrel
    by_cases hlt : k < n
    · obtain ⟨g1, o1, c1, e1, i1, _⟩ := (H.out.keep HB.out).row k hlt
      obtain ⟨g3, o3, c3, e3, i3, _⟩ := (H'.out.keep HB.out).row k hlt
      have S := hidden (fun wc (hc : Below wr.heap.size wr wc) => eqInt64S_eq g1 o1 g3 o3 (D.m k) c1 c3 (D.L k) wc (i1.keep hc) (i3.keep hc) (HK.out.m k hlt))
      clear i1 i3
      go_wp2_with fail
      go_cut [26] (fun t wc => t = .bool false ∧ Below wr.heap.size wr wc)
      case first =>
        go_region_with (first | (go_at_call 26; with_reducible refine (S.out _ ?_).mono ?_; exact (Below.refl _ _).drew; rintro e w5 ⟨rfl, hb5⟩))
        all_goals (go_wp2_with fail; go_meet)
        all_goals exact ⟨rfl, (Below.refl _ _).drew.trans hb5⟩
      case rest =>
        rename World => w5
        obtain ⟨rfl, bc⟩ := hcut
        have B1 := hidden (keepB HB.out bc)
        clear bc e1 e3
        go_wp2
        go_roundw
        case rel => exact ⟨k + 1, by omega, by go_num, B1⟩
        case measure => simp [intOf]; omega
    · go_wp2
      go_ret
      exact ⟨rfl, HB.out⟩

end Go.Proofs.Ytdcngfdklpdpkaa
