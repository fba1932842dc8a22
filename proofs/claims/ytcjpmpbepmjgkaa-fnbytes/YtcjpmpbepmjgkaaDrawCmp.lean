/- Contracts: what the law FnBytes draws: two lists of bytes, often alike. -/
import Derived.Test.YtcjpmpbepmjgkaaDrawSum
import Derived.Deep.RegionWith
import Derived.Deep.DeepCutAuto
namespace Go.Proofs.Ytcjpmpbepmjgkaa
open Go.RowKit

/-- A list of bytes of the call's own. -/
structure Own (w : World) (B g n d : Nat) (r : List Int) : Prop where
  row : w.ownsRow B 5 1 (.slice (some ⟨g, 0, none⟩) n d) n (r.map (Value.int .u8))
  byt : ∀ i, 0 ≤ r.getD i 0 ∧ r.getD i 0 ≤ 255

theorem Own.blk {w : World} {B g n d : Nat} {r : List Int} (h : Own w B g n d r) : B ≤ g ∧ g < w.heap.size := h.row.lt g rfl
theorem Own.len {w : World} {B g n d : Nat} {r : List Int} (h : Own w B g n d r) : r.length = n := by have := h.row.1; simp at this; exact this
theorem Own.cap {w : World} {B g n d : Nat} {r : List Int} (h : Own w B g n d r) : n ≤ d := by
  rcases h.row.2 with ⟨hv, _⟩ | ⟨_, cap, _, hv, _, _, hcap, _⟩
  · simp at hv
  · simp at hv; omega
theorem Own.isRow {w : World} {B g n d : Nat} {r : List Int} (h : Own w B g n d r) (hn : n ≤ 2000000) : Row w g 0 n r := ownRow h.row hn h.byt
theorem Own.grown {w w' : World} {B g n d s : Nat} {r : List Int} (h : Own w B g n d r) (hg : w.grownBy w' (some s)) (hne : g ≠ s) : Own w' B g n d r := ⟨ownsRow_grown h.row hg hne, h.byt⟩
theorem Own.alloc {w : World} {B g n d : Nat} {r : List Int} (h : Own w B g n d r) (o : Obj) : Own (w.alloc o) B g n d r := ⟨h.row.alloc o, h.byt⟩
theorem Own.mono {w : World} {B B' g n d : Nat} {r : List Int} (h : Own w B' g n d r) (hB : B ≤ B') : Own w B g n d r := ⟨ownsRow_mono h.row hB, h.byt⟩

theorem ownsRow_later {w w' : World} {B B' e size g n c : Nat} {xs : List Value} (h : w.ownsRow B e size (.slice (some ⟨g, 0, none⟩) n c) n xs) (hb : Below B' w w') (hg : g < B') : w'.ownsRow B e size (.slice (some ⟨g, 0, none⟩) n c) n xs := by
  refine ⟨h.1, h.2.imp id ?_⟩
  rintro ⟨g', cap, cur, h1, h2, h3, h4⟩
  have e : g' = g := by simp at h1; exact h1.1.symm
  subst e
  exact ⟨g', cap, cur, h1, h2, by rw [hb.block g' hg]; exact h3, h4⟩
theorem Own.keep {w w' : World} {B g n d : Nat} {r : List Int} (h : Own w B g n d r) (hb : Below w.heap.size w w') : Own w' B g n d r := ⟨ownsRow_later h.row hb h.blk.2, h.byt⟩
theorem alloc_below (w : World) (o : Obj) : Below w.heap.size w (w.alloc o) := (Below.refl _ _).alloc (Nat.le_refl _) o
theorem Gen.keep {w w' : World} {s n c a : Nat} {p : Option Addr} (h : Gen w s p n c a) (hb : Below w.heap.size w w') : Gen w' s p n c a :=
  ⟨Nat.lt_of_lt_of_le h.blk hb.size, by rw [hb.cell (p := ⟨s, 0, none⟩) h.blk]; exact h.c0, by rw [hb.cell (p := ⟨s, 1, none⟩) h.blk]; exact h.c1, by rw [hb.frozen (p := ⟨s, 1, none⟩) h.blk]; exact h.f1⟩

theorem rowCells {w : World} {b n : Nat} {r : List Int} (h : Row w b 0 n r) : ∀ j u, (r.map (Value.int .u8))[j]? = some u → w.cell? ((⟨b, 0, none⟩ : Addr).add j) = some u := by
  intro j u hj
  have hjn : j < r.length := by
    have := (List.getElem?_eq_some_iff.1 hj).1
    simpa using this
  have e : (⟨b, 0, none⟩ : Addr).add j = ⟨b, 0 + j, none⟩ := by unfold Addr.add; split <;> simp_all
  rw [e, h.cell j (by have := h.len; omega), ← hj]
  simp [List.getD_eq_getElem?_getD, List.getElem?_eq_getElem hjn]

set_option maxHeartbeats 800000 in
theorem l1Copy_any (b n c : Nat) (l : List Int) (w : World) (h : Row w b 0 n l) :
    Calls Try.prog 30 #[.slice (some ⟨b, 0, none⟩) n c] w fun e w' => ∃ g d, e = .returned (.slice (some ⟨g, 0, none⟩) n d) ∧ Own w' w.heap.size g n d l ∧ Below w.heap.size w w' := by
  have hm := h.most
  have HL : Hid _ := h.len
  have HR : Hid (Row w b 0 n l) := h
  clear h
  go_enter Try.func30, Try.ntmps30
  go_wp2_with (at_builtin; refine wpList_append_own _ rfl _ _ 22 rfl w.heap.size 5 _ (.int .u8 0) 1 1 Try.underlying22 rfl rfl rfl rfl rfl (by decide) _ _ _ rfl (World.ownsRow_made w #[] 0 (Nat.le_refl _) (Nat.zero_le _) rfl) ⟨b, 0, none⟩ n c (l.map (Value.int .u8)) rfl ?qc1 ?qc2 (byteNews l) ?qc4 ?qc5 ?qc6 ?_)
  case qc1 => rw [List.length_map, HL.out]; omega
  case qc2 => exact rowCells (HR.out.later (alloc_below _ _) HR.out.blk)
  case qc4 => unfold maxLen; omega
  case qc5 => omega
  case qc6 => simp
  intro v' w1 hown hgrow hnil
  go_wp2
  go_ret
  rcases hown.2 with ⟨hv, _⟩ | ⟨g, d, cur, hv, hg, _⟩
  · exact absurd hv hnil
  · subst hv
    refine ⟨g, d, rfl, ⟨hown, HR.out.byt⟩, ?_⟩
    exact ((Below.refl _ w).alloc (Nat.le_refl _) _).grown hgrow (by simp) (by intro k hk; simp [Value.ownBlock] at hk; omega)

set_option maxHeartbeats 1600000 in
theorem drawCmp_any (p : Option Addr) (n c : Nat) (l : List Int) (w : World) (h : Src w p n l) :
    Calls Try.prog 14 #[.slice p n c] w fun e w' => ∃ (ga ma da : Nat) (ra : List Int) (gb mb db : Nat) (rb : List Int), e = .returned (.tuple #[.slice (some ⟨ga, 0, none⟩) ma da, .slice (some ⟨gb, 0, none⟩) mb db]) ∧ ma ≤ 20 ∧ mb ≤ 20 ∧ Own w' w.heap.size ga ma da ra ∧ Own w' w.heap.size gb mb db rb ∧ Below w.heap.size w w' := by
  have H : Hid (Src w p n l) := h
  clear h
  go_enter Try.func14, Try.ntmps14
  go_wp2_with fail
  refine (l1Source_any _ _ _ _).mono ?_
  rintro e w1 ⟨s, rfl, hs, g1, b1⟩
  have G1 : Hid _ := g1
  have B1 : Hid _ := b1
  clear g1 b1
  go_wp2_with fail
  refine (l1Next_any s p n c 0 l 7 w _ G1.out H.out B1.out hs (by omega) (by omega) (by omega)).mono ?_
  rintro e w2 ⟨x, rfl, hx0, hx1, g2, k2, -⟩
  obtain ⟨ma, rfl⟩ := Int.eq_ofNat_of_zero_le hx0
  have G2 : Hid (Gen w2 s p n c (0 + 1)) := g2
  have B2 : Hid (Below w.heap.size w w2) := below_grown B1.out k2 hs
  clear g2 k2 G1 B1
  go_wp2_with fail
  refine (l1Some_any s p n c 1 l ma w _ G2.out H.out B2.out hs (by omega)).mono ?_
  rintro e w3 ⟨ga, da, ra, rfl, hga, o3, hr3, g3, k3⟩
  have A3 : Hid (Own w3 w.heap.size ga ma da ra) := ⟨ownsRow_mono o3 B2.out.size, hr3⟩
  have G3 : Hid (Gen w3 s p n c (1 + ma)) := g3
  have B3 : Hid (Below w.heap.size w w3) := below_grown B2.out k3 hs
  have hsa : ga ≠ s := by have := G2.out.blk; omega
  clear g3 k3 o3 hr3 G2 B2 hga
  go_wp2_with fail
  refine (l1Next_any s p n c (1 + ma) l 7 w _ G3.out H.out B3.out hs (by omega) (by omega) (by omega)).mono ?_
  rintro e w4 ⟨x, rfl, hy0, hy1, g4, k4, -⟩
  obtain ⟨mb, rfl⟩ := Int.eq_ofNat_of_zero_le hy0
  have G4 : Hid (Gen w4 s p n c (1 + ma + 1)) := g4
  have B4 : Hid (Below w.heap.size w w4) := below_grown B3.out k4 hs
  have A4 : Hid (Own w4 w.heap.size ga ma da ra) := A3.out.grown k4 hsa
  clear g4 k4 G3 B3 A3
  go_wp2_with fail
  refine (l1Some_any s p n c (1 + ma + 1) l mb w _ G4.out H.out B4.out hs (by omega)).mono ?_
  rintro e w5 ⟨gb, db, rb, rfl, hgb, o5, hr5, g5, k5⟩
  have C5 : Hid (Own w5 w.heap.size gb mb db rb) := ⟨ownsRow_mono o5 B4.out.size, hr5⟩
  have G5 : Hid (Gen w5 s p n c (1 + ma + 1 + mb)) := g5
  have B5 : Hid (Below w.heap.size w w5) := below_grown B4.out k5 hs
  have A5 : Hid (Own w5 w.heap.size ga ma da ra) := A4.out.grown k5 hsa
  have hsb : gb ≠ s := by have := G4.out.blk; omega
  have hab : ga ≠ gb := by have := A4.out.blk; omega
  clear g5 k5 o5 hr5 G4 B4 A4 hgb
  go_wp2_with fail
  refine (l1Chance_any s p n c (1 + ma + 1 + mb) l 2 w _ G5.out H.out B5.out hs (by omega) (by omega) (by omega)).mono ?_
  rintro e w6 ⟨v, rfl, g6, k6, -⟩
  have G6 : Hid (Gen w6 s p n c (1 + ma + 1 + mb + 1)) := g6
  have B6 : Hid (Below w.heap.size w w6) := below_grown B5.out k6 hs
  have A6 : Hid (Own w6 w.heap.size ga ma da ra) := A5.out.grown k6 hsa
  have C6 : Hid (Own w6 w.heap.size gb mb db rb) := C5.out.grown k6 hsb
  clear g6 k6 G5 B5 A5 C5
  go_upto_if 18 with fail
  go_cut [6] (fun t6 wx => ∃ (g' m' d' a' : Nat) (r' : List Int), t6 = .slice (some ⟨g', 0, none⟩) m' d' ∧ m' ≤ 10 ∧ g' ≠ s ∧ ga ≠ g' ∧ a' ≤ 1000 ∧ Hid (Own wx w.heap.size g' m' d' r') ∧ Hid (Own wx w.heap.size ga ma da ra) ∧ Hid (Gen wx s p n c a') ∧ Hid (Below w.heap.size w wx))
  case first =>
    cases v
    · go_wp2_with fail
      go_meet
      exact ⟨gb, mb, db, _, rb, rfl, by omega, hsb, hab, by omega, C6, A6, G6, B6⟩
    · go_wp2_with fail
      refine (l1Copy_any _ _ _ ra _ (A6.out.isRow (by omega))).mono ?_
      rintro e w7 ⟨g7, d7, rfl, o7, b7⟩
      have O7 : Hid (Own w7 w6.heap.size g7 ma d7 ra) := o7
      have B7 : Hid (Below w.heap.size w w7) := B6.out.trans (b7.mono B6.out.size)
      have A7 : Hid (Own w7 w.heap.size ga ma da ra) := A6.out.keep b7
      have G7 : Hid (Gen w7 s p n c (1 + ma + 1 + mb + 1)) := G6.out.keep b7
      have hs7 : s < w6.heap.size := G6.out.blk
      have ha7 : ga < w6.heap.size := A6.out.blk.2
      have hg7 : w6.heap.size ≤ g7 := o7.blk.1
      clear o7 b7 B6 A6 G6 C6
      go_wp2_with fail
      refine (l1Next_any s p n c _ l 3 w _ G7.out H.out B7.out hs (by omega) (by omega) (by omega)).mono ?_
      rintro e w8 ⟨x, rfl, hz0, hz1, g8, k8, -⟩
      obtain ⟨mc, rfl⟩ := Int.eq_ofNat_of_zero_le hz0
      have G8 : Hid (Gen w8 s p n c (1 + ma + 1 + mb + 1 + 1)) := g8
      have B8 : Hid (Below w.heap.size w w8) := below_grown B7.out k8 hs
      have A8 : Hid (Own w8 w.heap.size ga ma da ra) := A7.out.grown k8 hsa
      have O8 : Hid (Own w8 w6.heap.size g7 ma d7 ra) := O7.out.grown k8 (by omega)
      clear g8 k8 G7 B7 A7 O7
      go_wp2_with fail
      refine (l1Some_any s p n c _ l mc w _ G8.out H.out B8.out hs (by omega)).mono ?_
      rintro e w9 ⟨gc, dc, rc, rfl, hgc, o9, hr9, g9, k9⟩
      have C9 : Hid (Own w9 w.heap.size gc mc dc rc) := ⟨ownsRow_mono o9 B8.out.size, hr9⟩
      have G9 : Hid (Gen w9 s p n c (1 + ma + 1 + mb + 1 + 1 + mc)) := g9
      have B9 : Hid (Below w.heap.size w w9) := below_grown B8.out k9 hs
      have A9 : Hid (Own w9 w.heap.size ga ma da ra) := A8.out.grown k9 hsa
      have O9 : Hid (Own w9 w6.heap.size g7 ma d7 ra) := O8.out.grown k9 (by omega)
      clear g9 k9 o9 hr9 G8 B8 A8 O8
      go_wp2_with (at_builtin; refine wpList_append_own _ rfl _ _ 22 rfl w6.heap.size 5 _ (.int .u8 0) 1 1 Try.underlying22 rfl rfl rfl rfl rfl (by decide) (.slice (some ⟨g7, 0, none⟩) ma d7) ma (ra.map (Value.int .u8)) rfl O9.out.row ⟨gc, 0, none⟩ mc dc (rc.map (Value.int .u8)) rfl ?qc1 ?qc2 (byteNews rc) ?qc4 ?qc5 ?qc6 ?_)
      case qc1 => rw [List.length_map, C9.out.len]; omega
      case qc2 => exact rowCells (C9.out.isRow (by omega))
      case qc4 => unfold maxLen; omega
      case qc5 => omega
      case qc6 => have := G9.out.blk; have := O9.out.blk; omega
      intro v' wa hown hgrow hnil
      rcases hown.2 with ⟨hv, _⟩ | ⟨g2, d2, cur, hv, hg2, _⟩
      · exact absurd hv hnil
      rw [hv] at hown ⊢
      have Ga : Hid (Gen wa s p n c (1 + ma + 1 + mb + 1 + 1 + mc)) := G9.out.grown (g := g7) hgrow (by omega)
      have Aa : Hid (Own wa w.heap.size ga ma da ra) := A9.out.grown (s := g7) hgrow (by omega)
      have Ba : Hid (Below w.heap.size w wa) := below_grown (s := g7) B9.out hgrow (by have := A9.out.blk; omega)
      have Oa : Hid (Own wa w.heap.size g2 (ma + mc) d2 (ra ++ rc)) := by
        refine ⟨ownsRow_mono (B' := w6.heap.size) ?_ (by have := A9.out.blk; omega), ?_⟩
        · rw [List.map_append]; exact hown
        · intro i
          have h1 := A9.out.byt i
          have h2 := C9.out.byt (i - ra.length)
          simp only [List.getD_eq_getElem?_getD, List.getElem?_append] at h1 h2 ⊢
          split
          · exact h1
          · exact h2
      clear hown hgrow hnil hv C9 G9 B9 A9 O9
      go_wp2_with fail
      go_meet
      exact ⟨g2, ma + mc, d2, _, ra ++ rc, rfl, by omega, by omega, by omega, by omega, Oa, Aa, Ga, Ba⟩
  case rest =>
    rename World => wx
    obtain ⟨g', m', d', a', r', rfl, hm', hgs, hag, ha', O1, A1, G1, B1⟩ := hcut
    clear C6 A6 G6 B6 hsb hab hy0 hy1 hx0
    go_wp2_with fail
    refine (l1Chance_any s p n c a' l 4 w _ G1.out H.out B1.out hs (by omega) (by omega) (by omega)).mono ?_
    rintro e w6' ⟨v', rfl, g6, k6, -⟩
    have G2 : Hid (Gen w6' s p n c (a' + 1)) := g6
    have B2 : Hid (Below w.heap.size w w6') := below_grown B1.out k6 hs
    have A2 : Hid (Own w6' w.heap.size ga ma da ra) := A1.out.grown k6 hsa
    have O2 : Hid (Own w6' w.heap.size g' m' d' r') := O1.out.grown k6 hgs
    clear g6 k6 G1 B1 A1 O1
    by_cases hv : v' = true ∧ 0 < m'
    · obtain ⟨rfl, hm0⟩ := hv
      have hmi : (0 : Int) < (m' : Int) := by omega
      go_wp2_with fail
      refine (l1Next_any s p n c _ l m' w _ G2.out H.out B2.out hs (by omega) (by omega) (by omega)).mono ?_
      rintro e w7 ⟨x, rfl, hx0, hx1, g7, k7, -⟩
      obtain ⟨i, rfl⟩ := Int.eq_ofNat_of_zero_le hx0
      have G3 : Hid (Gen w7 s p n c (a' + 1 + 1)) := g7
      have B3 : Hid (Below w.heap.size w w7) := below_grown B2.out k7 hs
      have A3 : Hid (Own w7 w.heap.size ga ma da ra) := A2.out.grown k7 hsa
      have O3 : Hid (Own w7 w.heap.size g' m' d' r') := O2.out.grown k7 hgs
      clear g7 k7 G2 B2 A2 O2
      go_wp2_with fail
      refine (l1Next_any s p n c _ l 256 w _ G3.out H.out B3.out hs (by omega) (by omega) (by omega)).mono ?_
      rintro e w8 ⟨y, rfl, hy0, hy1, g8, k8, -⟩
      have B4 : Hid (Below w.heap.size w w8) := below_grown B3.out k8 hs
      have A4 : Hid (Own w8 w.heap.size ga ma da ra) := A3.out.grown k8 hsa
      have O4 : Hid (Own w8 w.heap.size g' m' d' r') := O3.out.grown k8 hgs
      clear g8 k8 G3 B3 A3 O3
      have f4 := O4.out.row.frozenAt i
      have c4 := O4.out.row.cellAt i (by omega)
      have hsome : ∃ u, (r'.map (Value.int .u8))[i]? = some u := ⟨_, List.getElem?_eq_getElem (by rw [List.length_map, O4.out.len]; omega)⟩
      obtain ⟨u, hu⟩ := hsome
      rw [hu] at c4
      clear hu
      have S4 : Hid (Own (w8.setCell ⟨g', i, none⟩ (.int .u8 y)) w.heap.size g' m' d' (r'.set i y)) := by
        refine ⟨?_, ?_⟩
        · rw [List.map_set]; exact (O4.out.row.stored i (.int .u8 y)).1
        · intro j
          have h1 := O4.out.byt j
          simp only [List.getD_eq_getElem?_getD, List.getElem?_set] at h1 ⊢
          split
          · split
            · simp; omega
            · simp
          · exact h1
      have T4 : Hid (w8.grownBy (w8.setCell ⟨g', i, none⟩ (.int .u8 y)) (some g')) := (O4.out.row.stored i (.int .u8 y)).2
      go_wp2_with fail
      go_ret2
      exact ⟨ga, ma, da, ra, g', m', d', r'.set i y, rfl, by omega, by omega, A4.out.grown T4.out hag, S4.out, below_grown B4.out T4.out O4.out.blk.1⟩
    · cases v'
      · clear hv
        go_wp2_with fail
        go_ret2
        exact ⟨ga, ma, da, ra, g', m', d', r', rfl, by omega, by omega, A2.out, O2.out, B2.out⟩
      · have e : m' = 0 := by
          by_cases h0 : m' = 0
          · exact h0
          · exact absurd ⟨rfl, by omega⟩ hv
        subst e
        clear hv
        go_wp2_with fail
        go_ret2
        exact ⟨ga, ma, da, ra, g', 0, d', r', rfl, by omega, by omega, A2.out, O2.out, B2.out⟩

set_option maxHeartbeats 800000 in
theorem drawBeg_any (p : Option Addr) (n c : Nat) (l : List Int) (w : World) (h : Src w p n l) :
    Calls Try.prog 15 #[.slice p n c] w fun e w' => ∃ (ga ma da : Nat) (ra : List Int) (gb mb db : Nat) (rb : List Int), e = .returned (.tuple #[.slice (some ⟨ga, 0, none⟩) ma da, .slice (some ⟨gb, 0, none⟩) mb db]) ∧ ma ≤ 20 ∧ mb ≤ 20 ∧ Own w' w.heap.size ga ma da ra ∧ Own w' w.heap.size gb mb db rb ∧ Below w.heap.size w w' := by
  have H : Hid (Src w p n l) := h
  clear h
  go_enter Try.func15, Try.ntmps15
  go_wp2_with fail
  refine (drawCmp_any _ _ _ l _ H.out).mono ?_
  rintro e w' ⟨ga, ma, da, ra, gb, mb, db, rb, rfl, ha, hb, oa, ob, bb⟩
  have OA : Hid _ := oa
  have OB : Hid _ := ob
  have BB : Hid _ := bb
  clear oa ob bb
  go_wp2_with fail
  go_ret2
  exact ⟨gb, mb, db, rb, ga, ma, da, ra, rfl, hb, ha, OB.out, OA.out, BB.out⟩

end Go.Proofs.Ytcjpmpbepmjgkaa
