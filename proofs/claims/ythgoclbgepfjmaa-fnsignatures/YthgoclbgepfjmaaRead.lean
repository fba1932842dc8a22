/- Contracts: a signature at the beginning of bytes, as the model reads it. -/
import Derived.Test.YthgoclbgepfjmaaCutOne
import Derived.Deep.RegionHeld3
import Derived.Deep.RegionLaw
import Derived.Deep.AppendLies
namespace Go.Proofs.Ythgoclbgepfjmaa
open Go.RowKit

def noRead : Value := .tuple #[.agg #[.slice none 0 0], .int .i64 0]

set_option maxRecDepth 20000 in
set_option maxHeartbeats 800000 in
theorem l2Read_none (p : Option Addr) (c : Nat) (w : World) :
    Calls Try.prog 57 #[.slice p 0 c] w fun e w' => e = .returned noRead ∧ Below w.heap.size w w' := by
  go_enter Try.func57, Try.ntmps57
  go_wp2
  exact bodyPost_ret (v := noRead) (by simp [results, Try.results57, go_sem, noRead]) rfl ⟨rfl, keepB (alloc_below _ _) (alloc_below _ _)⟩

/-- What is known while symbols are cut. -/
structure ReadInv (w wr : World) (l : List Int) (k : Nat) (v : Value) : Prop where
  bel : Below w.heap.size w wr
  sz : w.heap.size + 3 ≤ wr.heap.size
  r0 : wr.cell? ⟨w.heap.size, 0, none⟩ = some (.slice none 0 0)
  rf : wr.frozen? ⟨w.heap.size, 0, none⟩ = false
  s0 : wr.cell? ⟨w.heap.size + 2, 0, none⟩ = some v
  sf : wr.frozen? ⟨w.heap.size + 2, 0, none⟩ = false
  n0 : wr.cell? ⟨w.heap.size + 1, 0, none⟩ = some (.slice none 0 0)
  row : SymRow wr (w.heap.size + 3) v k (nmOf l) (arOf l)

theorem ReadInv.keep {w wr w' : World} {l : List Int} {k : Nat} {v : Value} (h : ReadInv w wr l k v) (hb : Below wr.heap.size wr w') : ReadInv w w' l k v := by
  have hs := h.sz
  obtain ⟨xs, ho, hx⟩ := h.row
  exact ⟨keepB h.bel hb, Nat.le_trans h.sz hb.size, by rw [hb.cell (p := ⟨w.heap.size, 0, none⟩) (by show w.heap.size < _; omega)]; exact h.r0, by rw [hb.frozen (p := ⟨w.heap.size, 0, none⟩) (by show w.heap.size < _; omega)]; exact h.rf,
    by rw [hb.cell (p := ⟨w.heap.size + 2, 0, none⟩) (by show w.heap.size + 2 < _; omega)]; exact h.s0, by rw [hb.frozen (p := ⟨w.heap.size + 2, 0, none⟩) (by show w.heap.size + 2 < _; omega)]; exact h.sf, by rw [hb.cell (p := ⟨w.heap.size + 1, 0, none⟩) (by show w.heap.size + 1 < _; omega)]; exact h.n0, xs, own_keep ho hb, hx⟩

theorem ReadInv.new (w : World) (l : List Int) : ReadInv w (((w.alloc (.cells #[.slice none 0 0] 26)).alloc (.cells #[.slice none 0 0] 26)).alloc (.cells #[.slice none 0 0] 26)) l 0 (.slice none 0 0) := by
  refine ⟨keepB (keepB (alloc_below w _) (alloc_below _ _)) (alloc_below _ _), by simp, ?_, ?_, ?_, ?_, ?_, [], ⟨rfl, Or.inl ⟨rfl, rfl⟩⟩, fun i hi => by omega⟩ <;> simp [go_sem]

theorem ReadInv.next {w wa w2 : World} {l : List Int} {k : Nat} {v v' : Value} {xs : List Value} {nm : ByteArray} {ar : Int} (h : ReadInv w wa l k v) (ho : wa.ownsRow (w.heap.size + 3) 41 2 v k xs) (hx : ∀ i, i < k → xs[i * 2]? = some (.string (nmOf l i)) ∧ xs[i * 2 + 1]? = some (.int .i64 (arOf l i)))
    (hg : wa.grownBy w2 v.ownBlock) (hown : w2.ownsRow (w.heap.size + 3) 41 2 v' (k + 1) (xs ++ [.string nm, .int .i64 ar])) (hn : nmOf l k = nm) (ha : arOf l k = ar) :
    w2.cell? ⟨w.heap.size + 2, 0, none⟩ = some v ∧ w2.frozen? ⟨w.heap.size + 2, 0, none⟩ = false ∧ ReadInv w (w2.setCell ⟨w.heap.size + 2, 0, none⟩ v') l (k + 1) v' := by
  have hs := h.sz
  have hblk := own_block ho
  have k0 := hg.block w.heap.size (by omega) (fun e => by have := hblk _ e.symm; omega)
  have k2 := hg.block (w.heap.size + 1) (by omega) (fun e => by have := hblk _ e.symm; omega)
  have k1 := hg.block (w.heap.size + 2) (by omega) (fun e => by have := hblk _ e.symm; omega)
  have a0 : w2.cell? ⟨w.heap.size, 0, none⟩ = some (.slice none 0 0) := (World.cell?_of_block (w := wa) (show w2.heap[(⟨w.heap.size, 0, none⟩ : Addr).block]? = wa.heap[(⟨w.heap.size, 0, none⟩ : Addr).block]? from k0)).trans h.r0
  have a1 : w2.frozen? ⟨w.heap.size, 0, none⟩ = false := (World.frozen?_of_block (w := wa) (show w2.heap[(⟨w.heap.size, 0, none⟩ : Addr).block]? = wa.heap[(⟨w.heap.size, 0, none⟩ : Addr).block]? from k0)).trans h.rf
  have b0 : w2.cell? ⟨w.heap.size + 2, 0, none⟩ = some v := (World.cell?_of_block (w := wa) (show w2.heap[(⟨w.heap.size + 2, 0, none⟩ : Addr).block]? = wa.heap[(⟨w.heap.size + 2, 0, none⟩ : Addr).block]? from k1)).trans h.s0
  have b1 : w2.frozen? ⟨w.heap.size + 2, 0, none⟩ = false := (World.frozen?_of_block (w := wa) (show w2.heap[(⟨w.heap.size + 2, 0, none⟩ : Addr).block]? = wa.heap[(⟨w.heap.size + 2, 0, none⟩ : Addr).block]? from k1)).trans h.sf
  have hl : xs.length = k * 2 := ho.1
  have n1 : w2.cell? ⟨w.heap.size + 1, 0, none⟩ = some (.slice none 0 0) := (World.cell?_of_block (w := wa) (show w2.heap[(⟨w.heap.size + 1, 0, none⟩ : Addr).block]? = wa.heap[(⟨w.heap.size + 1, 0, none⟩ : Addr).block]? from k2)).trans h.n0
  refine ⟨b0, b1, (h.bel.grown hg h.bel.size (fun r hr => by have := hblk r hr; omega)).setCell (by simp) _, by have := hg.size; simp; omega, ?_, by simpa using a1, World.cell?_setCell_same _ _ _ b0, by simpa using b1, ?_, _, own_other hown _ _ (by simp), fun i hi => ?_⟩
  · rw [World.cell?_setCell_other _ _ _ _ (by intro e; injection e with e1; omega)]; exact a0
  · rw [World.cell?_setCell_other _ _ _ _ (by intro e; injection e with e1; omega)]; exact n1
  · by_cases e : i = k
    · subst e
      constructor
      · rw [List.getElem?_append_right (by omega), hl, Nat.sub_self, hn]; rfl
      · rw [List.getElem?_append_right (by omega), hl, show i * 2 + 1 - i * 2 = 1 by omega, ha]; rfl
    · rw [List.getElem?_append_left (by omega), List.getElem?_append_left (by omega)]
      exact hx i (by omega)

/-- The bytes begin with a right signature. -/
def good (l : List Int) (q : Nat) : Prop := q ≤ 6 ∧ fit l q ∧ faultF q (nmOf l) (arOf l) = 0

/-- What l2Read answers. -/
def ReadAns (w : World) (l : List Int) (q : Nat) (e : Ending) (w' : World) : Prop :=
  (good l q ∧ ∃ v, e = .returned (.tuple #[.agg #[v], .int .i64 (pos l q : Nat)]) ∧ SymRow w' w.heap.size v q (nmOf l) (arOf l)) ∨ (¬ good l q ∧ e = .returned noRead)

theorem kept_of {l : List Int} (hb : ∀ i, 0 ≤ l.getD i 0 ∧ l.getD i 0 ≤ 255) (k : Nat) (hk : k ≤ 1048576) : Kept k (nmOf l) (arOf l) := by
  refine ⟨hk, fun i _ => ?_, fun i _ => ?_⟩
  · have h1 : (nmOf l i).size = kk l i := by simp [nmOf, strOfNums, cutOf, ByteArray.size]
    have h2 := hb (pos l i)
    rw [h1, kk]; omega
  · have := hb (pos l i + (1 + kk l i))
    rw [arOf, drop_getD]; omega

theorem fault_seven (N : Nat → ByteArray) (A : Nat → Int) (n : Nat) (h : n < 1 ∨ 6 < n) : faultF n N A = 2 := by rw [faultF, if_pos h]

/-- The fault of what was read, whatever slice holds it. -/
theorem specFault_row (l : List Int) (hb : ∀ i, 0 ≤ l.getD i 0 ∧ l.getD i 0 ≤ 255) (B k : Nat) (v : Value) (w : World) (h : SymRow w B v k (nmOf l) (arOf l)) (hk : k ≤ 1048576) :
    Calls Try.prog 12 #[.agg #[v]] w fun e w' => e = .returned (.int .i64 (faultF k (nmOf l) (arOf l))) ∧ Below w.heap.size w w' := by
  obtain ⟨xs, ho, hx⟩ := h
  rcases ho.2 with ⟨rfl, rfl⟩ | ⟨g, d, cur, rfl, h2, h3⟩
  · exact specFault_many _ 0 0 w (by omega) _ _
  · have hK := kept_of hb k hk
    exact specFault_all g 0 k d _ _ w (OwnS.syms (B := B) (c := d) ⟨xs, ho, hx⟩ hK.big hK.fits) hK

theorem wrap_i64_small (x : Int) (h0 : 0 ≤ x) (h : x < 100000000000000) : IntKind.i64.wrap x = x := by
  have e : x % 2 ^ 64 = x := Int.emod_eq_of_lt (by omega) (by omega)
  simp only [IntKind.wrap, IntKind.bits, IntKind.signed, e]
  rw [if_neg]
  simp
  omega

set_option maxRecDepth 20000 in
set_option maxHeartbeats 3200000 in
theorem l2Read_any (b n c : Nat) (l : List Int) (w : World) (h : Byt.Row w b 0 n l) (hc : n ≤ c) (hx : n ≤ 1048576 ∧ c ≤ 9223372036854775807) (hn : 0 < n) (q : Nat) (hq : l.getD 0 0 = q) :
    Calls Try.prog 57 #[.slice (some ⟨b, 0, none⟩) n c] w fun e w' => ReadAns w l q e w' ∧ Below w.heap.size w w' := by
  have h0 : ¬ (n : Int) < 1 := by omega
  have hq' : q ≤ 255 := by have := h.byt 0; omega
  have HRow := hidden h
  have HL := hidden h.len
  have HQ := hidden hq
  have HV0 := hidden (ReadInv.new w l)
  clear h hq
  go_enter Try.func57, Try.ntmps57
  go_wp2
  go_loopw [6, 7] (fun a i wr => ∃ (k : Nat) (v : Value), k ≤ q ∧ k ≤ 7 ∧ i = .int .i64 (k : Nat) ∧ a = .int .i64 (pos l k : Nat) ∧ pos l k ≤ n ∧ Hid (fit l k ∧ ReadInv w wr l k v)) (fun _ i _ => 7 - (intOf i).toNat)
  case atStart => exact ⟨0, _, Nat.zero_le _, by omega, rfl, rfl, by show 1 ≤ n; omega, hidden ⟨fun i hi => by omega, HV0.out⟩⟩
  case round =>
    obtain ⟨k, v, hk, hk7, rfl, rfl, hp, HI⟩ := hrel
    have c0 : wr.cell? ⟨b, 0, none⟩ = some (.int .u8 (q : Int)) := by
      rw [HI.out.2.bel.cell (p := ⟨b, 0, none⟩) HRow.out.blk, ← HQ.out]; exact HRow.out.cell 0 hn
    by_cases hlt : k < q ∧ k ≤ 6
    · obtain ⟨hlt, hk6⟩ := hlt
      by_cases hok : pos l k + (kk l k + 2) ≤ n
      · have hkb : kk l k ≤ 255 := by have := HRow.out.byt (pos l k); unfold kk; omega
        have c1 : wr.cell? ⟨b, pos l k, none⟩ = some (.int .u8 (kk l k : Nat)) := by
          have h1 := HRow.out.cell (pos l k) (by omega)
          have h2 := HRow.out.byt (pos l k)
          rw [Nat.zero_add] at h1
          rw [HI.out.2.bel.cell (p := ⟨b, pos l k, none⟩) HRow.out.blk, h1, kk]
          congr 2; omega
        have s0 := HI.out.2.s0
        obtain ⟨xs, ho, hxs⟩ := HI.out.2.row
        have hblk := own_block ho
        have hrow0 := HRow.out.later HI.out.2.bel HRow.out.blk
        have hbw := HRow.out.blk
        have hszw := HI.out.2.sz
        generalize hnm : nmOf l k = nm
        generalize har : arOf l k = ar
        have harb : 0 ≤ ar ∧ ar ≤ 255 := by rw [← har, arOf, drop_getD]; exact HRow.out.byt _
        have rel := hidden (show ∀ w', w'.heap[b]? = wr.heap[b]? → w'.cell? ⟨b, pos l k + 1 + kk l k, none⟩ = some (.int .u8 ar) ∧ (∀ cap, (convert 22 9 (.slice (some ⟨b, pos l k + 1, none⟩) (kk l k) cap)).run Try.prog w' = .ok (.string nm) w') from fun w' hg => by
          have cb : ∀ i, i < n → w'.cell? ⟨b, i, none⟩ = some (.int .u8 (l.getD i 0)) := fun i hi => by
            have h1 := hrow0.cell i hi
            rw [Nat.zero_add] at h1
            exact (World.cell?_of_block (w := wr) (show w'.heap[(⟨b, i, none⟩ : Addr).block]? = wr.heap[(⟨b, i, none⟩ : Addr).block]? from hg)).trans h1
          refine ⟨?_, fun cap => ?_⟩
          · rw [cb _ (by omega), ← har, arOf, drop_getD, Nat.add_assoc]
          · rw [← hnm, nmOf]
            exact run_convert_bytes_arg (P := Try.prog) _ 22 5 Try.underlying22 Try.underlying5 b (pos l k + 1) (kk l k) cap _ (by simp [cutOf]) (fun i hi => by
              rw [cb _ (by omega), cutOf_at _ _ _ _ hi, drop_getD, Nat.add_assoc]) 9 Try.underlying9)
        have K1 := hidden (show ∀ o, (wr.alloc o).drew.heap[b]? = wr.heap[b]? from fun o => Below.heap_alloc wr o b (by omega))
        have K2 := hidden (show ∀ o w2, (wr.alloc o).drew.grownBy w2 v.ownBlock → w2.heap[b]? = wr.heap[b]? from fun o w2 hg => (hg.block b (by show b < (wr.alloc o).heap.size; simp; omega) (fun e => by have := hblk b e.symm; omega)).trans (Below.heap_alloc wr o b (by omega)))
        have K3 := hidden (show ∀ o w2 u, (wr.alloc o).drew.grownBy w2 v.ownBlock → (w2.setCell ⟨w.heap.size + 2, 0, none⟩ u).heap[b]? = wr.heap[b]? from fun o w2 u hg => (Below.heap_setCell _ _ _ _ (by show b ≠ w.heap.size + 2; omega)).trans (K2.out o w2 hg))
        have K4 := hidden (show ∀ o w2, (wr.alloc o).drew.grownBy w2 v.ownBlock → w2.cell? ⟨w.heap.size + 2, 0, none⟩ = some v ∧ w2.frozen? ⟨w.heap.size + 2, 0, none⟩ = false from fun o w2 hg => by
          have h1 := (hg.block (w.heap.size + 2) (by show _ < (wr.alloc o).heap.size; simp; omega) (fun e => by have := hblk _ e.symm; omega)).trans (Below.heap_alloc wr o (w.heap.size + 2) (by omega))
          exact ⟨(World.cell?_of_block (w := wr) (show w2.heap[(⟨w.heap.size + 2, 0, none⟩ : Addr).block]? = wr.heap[(⟨w.heap.size + 2, 0, none⟩ : Addr).block]? from h1)).trans s0, (World.frozen?_of_block (w := wr) (show w2.heap[(⟨w.heap.size + 2, 0, none⟩ : Addr).block]? = wr.heap[(⟨w.heap.size + 2, 0, none⟩ : Addr).block]? from h1)).trans HI.out.2.sf⟩)
        obtain ⟨e1, e2⟩ := rel.out wr.drew rfl
        have s1 : ∀ o, (wr.alloc o).drew.cell? ⟨w.heap.size + 2, 0, none⟩ = some v := fun o => keepCell s0 o
        have s2 : wr.drew.cell? ⟨w.heap.size + 2, 0, none⟩ = some v := s0
        have HNM := hidden hnm
        have HAR := hidden har
        have HO := hidden ho
        have HXS := hidden hxs
        have HF2 := hidden (show fit l (k + 1) from fun i hi => by
          by_cases e : i = k
          · rw [e, HL.out]; exact hok
          · exact HI.out.1 i (by omega))
        have nc : ¬ c = pos l k + 1 := by omega
        have SZ := hidden hszw
        have z1 : (0 : Int) ≤ (pos l k : Int) + 1 := by omega
        have z2 : (pos l k : Int) + 1 ≤ (pos l k : Int) + 1 + (kk l k : Int) := by omega
        have z3 : (pos l k : Int) + 1 + (kk l k : Int) ≤ (c : Int) := by omega
        have z4 : (0 : Int) ≤ (pos l k : Int) + 1 + (kk l k : Int) := by omega
        have z5 : (pos l k : Int) + 1 + (kk l k : Int) < (n : Int) := by omega
        have t1 : ((pos l k : Int) + 1 + (kk l k : Int)).toNat = pos l k + 1 + kk l k := by omega
        have t2 : ((pos l k : Int) + 1).toNat = pos l k + 1 := by omega
        have t3 : pos l k + 1 + kk l k - (pos l k + 1) = kk l k := by omega
        have y3 : IntKind.i64.wrap ar = ar := wrap_i64_small _ (by omega) (by omega)
        have y1 : IntKind.i64.wrap ((pos l k : Int) + 1) = (pos l k : Int) + 1 := wrap_i64_small _ (by omega) (by omega)
        have y2 : IntKind.i64.wrap ((pos l k : Int) + 1 + (kk l k : Int)) = (pos l k : Int) + 1 + (kk l k : Int) := wrap_i64_small _ (by omega) (by omega)
        clear hrow0 hnm har hxs ho hblk hbw hszw
        go_wp2_with fail
        go_region_law
          ((refine step_append_lies _ (by rfl) _ _ _ (by rfl) (w.heap.size + 3) 41 _ (.agg #[.string ByteArray.empty, .int .i64 0]) 2 24 Try.underlying24 rfl rfl rfl rfl rfl (by omega) v k xs (by rfl) ((HO.out.alloc _).drew) ⟨wr.heap.size, 0, none⟩ 1 1 [.string nm, .int .i64 ar] (by rfl) (by rfl) (World.news_of_block (cs := #[.string nm, .int .i64 ar]) (t := 41) (fr := (0, 0)) (heap_alloc_new wr _)) (by simp [Value.oneCell']) (by omega) (by unfold maxLen; omega) (by omega) (by have := SZ.out; simp; omega) (wr.heap.size + 1) (by simp) ?_; intro g2 d2 w2 hown hgrow hat hlt2; obtain ⟨k4, k5⟩ := K4.out _ _ hgrow))
        all_goals (
          obtain ⟨b0, b1, hnext⟩ := ReadInv.next ((HI.out.2.keep (alloc_below wr (.cells #[.string nm, .int .i64 ar] 41))).keep (Below.refl _ _).drew) ((HO.out.alloc _).drew) HXS.out hgrow hown HNM.out HAR.out
          have HNX := hidden hnext
          clear hnext b0 b1 hgrow hown hat hlt2 rel K1 K2 K3 K4
          have HEND := hidden (show (pos l k : Int) + kk l k + 2 = (pos l (k + 1) : Nat) by rw [pos_succ]; omega)
          have hp2 : pos l (k + 1) ≤ n := by rw [pos_succ]; omega
          clear t1 t2 t3 z1 z2 z3 z4 z5 y1 y2 y3
          go_wp2
          exact ⟨⟨k + 1, _, by omega, by omega, by go_num, by rw [HEND.out], hp2, hidden ⟨HF2.out, HNX.out⟩⟩, by simp [intOf]; omega⟩)
      · have HNG := hidden (show ¬ good l q from fun hg => hok (by have := hg.2.1 k hlt; rw [HL.out] at this; exact this))
        have r0 := HI.out.2.r0
        have rf := HI.out.2.rf
        have n0 := HI.out.2.n0
        by_cases hpn : pos l k < n
        · have hkb : kk l k ≤ 255 := by have := HRow.out.byt (pos l k); unfold kk; omega
          have c1 : wr.cell? ⟨b, pos l k, none⟩ = some (.int .u8 (kk l k : Nat)) := by
            have h1 := HRow.out.cell (pos l k) (by omega)
            have h2 := HRow.out.byt (pos l k)
            rw [Nat.zero_add] at h1
            rw [HI.out.2.bel.cell (p := ⟨b, pos l k, none⟩) HRow.out.blk, h1, kk]
            congr 2; omega
          have hbad : (n : Int) < (pos l k : Int) + kk l k + 2 := by omega
          clear hok
          go_wp2
          exact bodyPost_ret (v := noRead) (by simp [results, Try.results57, go_sem, noRead, r0]) rfl ⟨Or.inr ⟨HNG.out, rfl⟩, HI.out.2.bel.setCell (by simp) _⟩
        · have hbad : (n : Int) ≤ (pos l k : Int) := by omega
          clear hok
          go_wp2
          exact bodyPost_ret (v := noRead) (by simp [results, Try.results57, go_sem, noRead, r0]) rfl ⟨Or.inr ⟨HNG.out, rfl⟩, HI.out.2.bel.setCell (by simp) _⟩
    · have hke : k = q ∨ (k = 7 ∧ 6 < q) := by omega
      have HKE := hidden hke
      have s0 := HI.out.2.s0
      have C := hidden (specFault_row l HRow.out.byt _ k v wr HI.out.2.row (by omega))
      have tail : (faultF k (nmOf l) (arOf l) = 0 → k = q ∧ good l q) ∧ (faultF k (nmOf l) (arOf l) ≠ 0 → ¬ good l q) := by
        refine ⟨fun hf => ?_, fun hf hg => ?_⟩
        · rcases hke with rfl | ⟨rfl, h7⟩
          · have h6 : k ≤ 6 := by
              by_cases h : 6 < k
              · rw [fault_seven _ _ _ (Or.inr h)] at hf; omega
              · omega
            exact ⟨rfl, h6, HI.out.1, hf⟩
          · rw [fault_seven _ _ _ (by omega)] at hf; omega
        · rcases hke with rfl | ⟨rfl, h7⟩
          · exact hf hg.2.2
          · have := hg.1; omega
      have TL := hidden tail
      obtain ⟨xs, ho, hxs⟩ := HI.out.2.row
      obtain ⟨pv, mv, dv, rfl⟩ : ∃ p m d, v = .slice p m d := by
        rcases ho.2 with ⟨hv, _⟩ | ⟨g2, d2, cur, hv, _⟩ <;> exact ⟨_, _, _, hv⟩
      have HO := hidden ho
      have HXS := hidden hxs
      have D := hidden (One.mk (b := w.heap.size + 2) (by have := HI.out.2.sz; omega) s0)
      clear tail ho hxs
      by_cases hkq : k = q
      · have hd : decide ((k : Int) < (q : Int)) = false := by simp; omega
        clear hlt hke HKE
        go_wp2_with fail
        refine C.out.mono ?_
        rintro e w1 ⟨rfl, hb⟩
        have V := hidden (HI.out.2.keep hb)
        have r0 := V.out.r0
        have rf := V.out.rf
        have n0 := V.out.n0
        have s1 := V.out.s0
        clear s0 c0 hb
        by_cases hf : faultF k (nmOf l) (arOf l) = 0
        · have HG := hidden (TL.out.1 hf)
          rw [hf]
          clear hf
          go_wp2
          refine bodyPost_ret (v := .tuple #[.agg #[.slice pv mv dv], .int .i64 (pos l k : Nat)]) (by simp [results, Try.results57, go_sem, r0]; rw [hkq]) rfl ⟨Or.inl ⟨HG.out.2, .slice pv mv dv, ?_, ?_⟩, V.out.bel.setCell (by simp) _⟩
          · rw [← HG.out.1]
          · obtain ⟨ys, hy, hys⟩ := V.out.row
            have h1 := own_other hy ⟨w.heap.size, 0, none⟩ (.slice pv mv dv) (by show w.heap.size < _; omega)
            rw [← HG.out.1]
            exact ⟨ys, ⟨h1.1, h1.2.imp id fun ⟨g, cap, cur, a1, a2, a3⟩ => ⟨g, cap, cur, a1, by omega, a3⟩⟩, hys⟩
        · have HG := hidden (TL.out.2 hf)
          have hf' : (faultF k (nmOf l) (arOf l) != 0) = true := by simpa using hf
          generalize faultF k (nmOf l) (arOf l) = z at *
          clear hf
          go_wp2
          exact bodyPost_ret (v := noRead) (by simp [results, Try.results57, go_sem, noRead, r0]) rfl ⟨Or.inr ⟨HG.out, rfl⟩, V.out.bel.setCell (by simp) _⟩
      · have hk7' : k = 7 ∧ 6 < q := by omega
        have hd : (k : Int) < (q : Int) := by omega
        have hd2 : ¬ (k : Int) ≤ 6 := by omega
        have hf : faultF k (nmOf l) (arOf l) ≠ 0 := by rw [fault_seven _ _ _ (by omega)]; decide
        have HG := hidden (TL.out.2 hf)
        clear hlt hke HKE hk7'
        go_wp2_with fail
        refine C.out.mono ?_
        rintro e w1 ⟨rfl, hb⟩
        have V := hidden (HI.out.2.keep hb)
        have r0 := V.out.r0
        have rf := V.out.rf
        have n0 := V.out.n0
        have s1 := V.out.s0
        clear s0 c0 hb
        have hf' : (faultF k (nmOf l) (arOf l) != 0) = true := by simpa using hf
        generalize faultF k (nmOf l) (arOf l) = z at *
        clear hf
        go_wp2
        exact bodyPost_ret (v := noRead) (by simp [results, Try.results57, go_sem, noRead, r0]) rfl ⟨Or.inr ⟨HG.out, rfl⟩, V.out.bel.setCell (by simp) _⟩

end Go.Proofs.Ythgoclbgepfjmaa
