/- Contracts: a source is made; a chance, a choice and some bytes are drawn from it. -/
import Derived.Test.YtcjpmpbepmjgkaaGen
namespace Go.Proofs.Ytcjpmpbepmjgkaa
open Go.RowKit

set_option maxHeartbeats 800000 in
theorem l1Source_any (p : Option Addr) (n c : Nat) (w : World) :
    Calls Try.prog 21 #[.slice p n c] w fun e w' => ∃ s, e = .returned (.pointer (some ⟨s, 0, none⟩)) ∧ w.heap.size ≤ s ∧ Gen w' s p n c 0 ∧ Below w.heap.size w w' := by
  go_enter Try.func21, Try.ntmps21
  go_wp2
  go_ret
  refine ⟨w.heap.size, rfl, Nat.le_refl _, ⟨by simp, by simp [go_sem], by simp [go_sem], by simp [go_sem]⟩, (Below.refl _ _).alloc (Nat.le_refl _) _⟩

set_option maxHeartbeats 800000 in
theorem l1Chance_any (s : Nat) (p : Option Addr) (n c a : Nat) (l : List Int) (m : Int) (w0 w : World) (hs : Gen w s p n c a) (h0 : Src w0 p n l) (hb : Below w0.heap.size w0 w) (hs0 : w0.heap.size ≤ s) (ha : a ≤ 1000000) (hm : 1 ≤ m) (hm2 : m ≤ 4294967296) :
    Calls Try.prog 22 #[.pointer (some ⟨s, 0, none⟩), .int .i64 m] w fun e w' => ∃ v : Bool, e = .returned (.bool v) ∧ Gen w' s p n c (a + 1) ∧ w.grownBy w' (some s) ∧ w'.heap.size = w.heap.size := by
  go_enter Try.func22, Try.ntmps22
  go_wp2_with fail
  refine (l1Next_any s p n c a l m w0 w hs h0 hb hs0 ha hm hm2).mono ?_
  rintro e w' ⟨v, rfl, _, _, hg, hk, hz⟩
  go_wp2
  go_ret
  exact ⟨_, rfl, hg, hk, hz⟩

/-- A row of numbers in memory. -/
structure Nums (w : World) (b n : Nat) (l : List Int) : Prop where
  len : l.length = n
  cell : ∀ i, i < n → w.cell? ⟨b, i, none⟩ = some (.int .i64 (l.getD i 0))

set_option maxHeartbeats 800000 in
theorem l1Pick_any (s : Nat) (p : Option Addr) (n c a : Nat) (l : List Int) (b k d : Nat) (xs : List Int) (w0 w : World) (hs : Gen w s p n c a) (h0 : Src w0 p n l) (hb : Below w0.heap.size w0 w) (hs0 : w0.heap.size ≤ s) (ha : a ≤ 1000000) (hx : Nums w b k xs) (hbs : b ≠ s) (hk : 0 < k) (hk2 : k ≤ 1000000) :
    Calls Try.prog 24 #[.pointer (some ⟨s, 0, none⟩), .slice (some ⟨b, 0, none⟩) k d] w fun e w' => ∃ i, i < k ∧ e = .returned (.int .i64 (xs.getD i 0)) ∧ Gen w' s p n c (a + 1) ∧ w.grownBy w' (some s) ∧ w'.heap.size = w.heap.size := by
  go_enter Try.func24, Try.ntmps24
  go_wp2_with fail
  refine (l1Next_any s p n c a l k w0 w hs h0 hb hs0 ha (by omega) (by omega)).mono ?_
  rintro e w' ⟨v, rfl, hv0, hv1, hg, hgr, hz⟩
  obtain ⟨i, rfl⟩ := Int.eq_ofNat_of_zero_le hv0
  have hi : i < k := by omega
  have hc := hgr.cell (hx.cell i hi) (by simpa using hbs)
  generalize hy : xs.getD i 0 = y at hc
  have HY : Hid _ := hy
  clear hy
  go_wp2
  go_ret
  exact ⟨i, hi, by rw [HY.out]; rfl, hg, hgr, hz⟩

theorem grownBy_new {w a b : World} {s g : Nat} (h : w.grownBy a (some s)) (k : a.grownBy b (some g)) (hg : w.heap.size ≤ g) : w.grownBy b (some s) :=
  ⟨k.os.trans h.os, k.tape.trans h.tape, k.output.trans h.output, Nat.le_trans h.size k.size, fun i hi hr => (k.block i (Nat.lt_of_lt_of_le hi h.size) (by intro e; cases e; omega)).trans (h.block i hi hr)⟩

theorem Gen.grown {w w' : World} {s n c a g : Nat} {p : Option Addr} (h : Gen w s p n c a) (hg : w.grownBy w' (some g)) (hne : s ≠ g) : Gen w' s p n c a :=
  ⟨Nat.lt_of_lt_of_le h.blk hg.size, hg.cell h.c0 (by simpa using hne), hg.cell h.c1 (by simpa using hne), by rw [World.frozen?_of_block (hg.block s h.blk (by simpa using hne))]; exact h.f1⟩

theorem Gen.alloc {w : World} {s n c a : Nat} {p : Option Addr} (h : Gen w s p n c a) (o : Obj) : Gen (w.alloc o) s p n c a :=
  h.grown (World.grownBy_alloc w o (some w.heap.size)) (by have := h.blk; omega)

theorem ownsRow_grown {w w' : World} {B e size g n c s : Nat} {xs : List Value} (h : w.ownsRow B e size (.slice (some ⟨g, 0, none⟩) n c) n xs) (hg : w.grownBy w' (some s)) (hne : g ≠ s) : w'.ownsRow B e size (.slice (some ⟨g, 0, none⟩) n c) n xs :=
  h.kept hg (Or.inr (by simpa [Value.ownBlock] using hne))

theorem append_byte (l : List Int) (x : Int) : l.map (Value.int .u8) ++ [Value.int .u8 x] = (l ++ [x]).map (Value.int .u8) := by simp

theorem byt_append {l : List Int} {x : Int} (h : ∀ i, 0 ≤ l.getD i 0 ∧ l.getD i 0 ≤ 255) (hx : 0 ≤ x ∧ x ≤ 255) : ∀ i, 0 ≤ (l ++ [x]).getD i 0 ∧ (l ++ [x]).getD i 0 ≤ 255 := by
  intro i
  have := h i
  simp only [List.getD_eq_getElem?_getD, List.getElem?_append] at this ⊢
  split
  · exact this
  · by_cases e : i - l.length = 0
    · rw [e]; simpa using hx
    · rw [List.getElem?_eq_none (by simp; omega)]; simp

set_option maxHeartbeats 1600000 in
theorem l1Some_any (s : Nat) (p : Option Addr) (n c a : Nat) (l : List Int) (m : Nat) (w0 w : World) (hs : Gen w s p n c a) (h0 : Src w0 p n l) (hb : Below w0.heap.size w0 w) (hs0 : w0.heap.size ≤ s) (ha : a + m ≤ 1000000) :
    Calls Try.prog 23 #[.pointer (some ⟨s, 0, none⟩), .int .i64 m] w fun e w' => ∃ (g d : Nat) (r : List Int), e = .returned (.slice (some ⟨g, 0, none⟩) m d) ∧ w.heap.size ≤ g ∧ w'.ownsRow w.heap.size 5 1 (.slice (some ⟨g, 0, none⟩) m d) m (r.map (Value.int .u8)) ∧ (∀ i, 0 ≤ r.getD i 0 ∧ r.getD i 0 ≤ 255) ∧ Gen w' s p n c (a + m) ∧ w.grownBy w' (some s) := by
  have HS : Hid (Gen w s p n c a) := hs
  have H0 : Hid (Src w0 p n l) := h0
  have HB : Hid (Below w0.heap.size w0 w) := hb
  have hsw := hs.blk
  clear hs h0 hb
  go_enter Try.func23, Try.ntmps23
  go_wp2
  go_loopw [1, 5] (fun k v wr => ∃ (j : Nat) (g d : Nat) (r : List Int), j + r.length = m ∧ k = .int .i64 j ∧ v = .slice (some ⟨g, 0, none⟩) r.length d ∧ w.heap.size ≤ g ∧ Hid (wr.ownsRow w.heap.size 5 1 (.slice (some ⟨g, 0, none⟩) r.length d) r.length (r.map (Value.int .u8))) ∧ Hid (∀ i, 0 ≤ r.getD i 0 ∧ r.getD i 0 ≤ 255) ∧ Hid (Gen wr s p n c (a + r.length)) ∧ Hid (w.grownBy wr (some s))) (fun k _ _ => (intOf k).toNat)
  case atStart =>
    refine ⟨m, w.heap.size, 0, [], rfl, rfl, rfl, Nat.le_refl _, ?_, fun i => by simp, HS.out.alloc _, World.grownBy_alloc w _ _⟩
    exact World.ownsRow_made w #[] 0 (Nat.le_refl _) (Nat.zero_le _) rfl
  case round =>
    obtain ⟨j, g, d, r, hj, rfl, rfl, hg, HO, HR, HG, HK⟩ := hrel
    by_cases hlt : 0 < j
    · go_wp2_with fail
      refine (l1Next_any s p n c (a + r.length) l 256 w0 _ HG.out H0.out (HB.out.trans ?_) hs0 (by omega) (by omega) (by omega)).mono ?_
      case refine_1 => exact ⟨HK.out.os, HK.out.tape, HK.out.output, HK.out.size, fun k hk => HK.out.block k (by have := HB.out.size; omega) (by intro e; cases e; omega)⟩
      rintro e w' ⟨v, rfl, hv0, hv1, hg', hk', -⟩
      have HG' : Hid (Gen w' s p n c (a + r.length + 1)) := hg'
      have HK' : Hid (w.grownBy w' (some s)) := grownBy_trans HK.out hk'
      have HO' : Hid (w'.ownsRow w.heap.size 5 1 (.slice (some ⟨g, 0, none⟩) r.length d) r.length (r.map (Value.int .u8))) := ownsRow_grown HO.out hk' (by omega)
      clear hg' hk'
      go_wp2_with (at_builtin; refine wpList_append_own _ rfl _ _ 22 rfl w.heap.size 5 _ (.int .u8 0) 1 1 Try.underlying22 rfl rfl rfl rfl rfl (by decide) (.slice (some ⟨g, 0, none⟩) r.length d) r.length (r.map (Value.int .u8)) rfl (HO'.out.alloc _) ⟨w'.heap.size, 0, none⟩ 1 1 [.int .u8 v] rfl rfl ?q1 ?q2 ?q3 ?q4 ?q5 ?_)
      case q1 =>
        intro i u hu
        match i, hu with
        | 0, hu => simp at hu; subst hu; simp [go_sem, Addr.add]
        | k + 1, hu => simp at hu
      case q2 => intro u hu; simp at hu; subst hu; rfl
      case q3 => unfold maxLen; omega
      case q4 => omega
      case q5 => have := HK'.out.size; simp; omega
      intro v' w2 hown hgrow hnil
      rcases hown.2 with ⟨hv, _⟩ | ⟨g2, d2, cur, hv, hg2, _⟩
      · exact absurd hv hnil
      rw [hv] at hown ⊢
      have HG2 : Hid (Gen w2 s p n c (a + r.length + 1)) := (HG'.out.alloc _).grown (g := g) hgrow (by omega)
      have HK2 : Hid (w.grownBy w2 (some s)) := grownBy_new (grownBy_trans HK'.out (World.grownBy_alloc w' _ (some s))) hgrow hg
      have HO2 : Hid (w2.ownsRow w.heap.size 5 1 (.slice (some ⟨g2, 0, none⟩) (r ++ [v]).length d2) (r ++ [v]).length ((r ++ [v]).map (Value.int .u8))) := by
        rw [← append_byte, List.length_append]
        exact hown
      clear hown hgrow hnil hv
      go_wp2
      go_roundw
      case rel =>
        refine ⟨j - 1, g2, d2, r ++ [v], by simp; omega, by go_num, by simp, hg2, HO2, byt_append HR.out ⟨hv0, by omega⟩, ?_, HK2⟩
        rw [List.length_append, ← Nat.add_assoc]
        exact HG2
      case measure => simp [intOf]; omega
    · go_wp2
      go_ret
      have e : j = 0 := by omega
      subst e
      have e : r.length = m := by omega
      subst e
      exact ⟨g, d, r, rfl, hg, HO.out, HR.out, HG.out, HK.out⟩

end Go.Proofs.Ytcjpmpbepmjgkaa
