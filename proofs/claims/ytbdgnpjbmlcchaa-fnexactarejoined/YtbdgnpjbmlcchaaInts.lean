/- Contracts: lists of numbers: their copies and their comparison. -/
import Derived.Test.YtbdgnpjbmlcchaaArity
namespace Go.Proofs.Ytbdgnpjbmlcchaa
open Go.RowKit

/-- A row of numbers in memory. -/
structure Ints (w : World) (b off n : Nat) (L : Nat → Int) : Prop where
  blk : 0 < n → b < w.heap.size
  cell : ∀ i, i < n → w.cell? ⟨b, off + i, none⟩ = some (.int .i64 (L i))

theorem Ints.keep {w w' : World} {b off n : Nat} {L : Nat → Int} (h : Ints w b off n L) (hb : Below w.heap.size w w') : Ints w' b off n L :=
  ⟨fun h0 => Nat.lt_of_lt_of_le (h.blk h0) hb.size, fun i hi => by rw [hb.cell (p := ⟨b, off + i, none⟩) (h.blk (by omega))]; exact h.cell i hi⟩

/-- What came in: no number, or a row of them; each fits. -/
structure SrcI (w : World) (p : Option Addr) (n : Nat) (L : Nat → Int) : Prop where
  row : n = 0 ∨ ∃ b off, p = some ⟨b, off, none⟩ ∧ Ints w b off n L
  fits : ∀ i, i < n → -9223372036854775808 ≤ L i ∧ L i ≤ 9223372036854775807

theorem SrcI.keep {w w' : World} {p : Option Addr} {n : Nat} {L : Nat → Int} (h : SrcI w p n L) (hb : Below w.heap.size w w') : SrcI w' p n L :=
  ⟨h.row.imp id fun ⟨b, off, hp, hs⟩ => ⟨b, off, hp, hs.keep hb⟩, h.fits⟩

/-- A row of numbers in memory of its own, of which the first k are known. -/
def OwnI (w : World) (B g n c : Nat) (L : Nat → Int) (k : Nat) : Prop :=
  ∃ xs, w.ownsRow B 2 1 (.slice (some ⟨g, 0, none⟩) n c) n xs ∧ ∀ i, i < k → xs[i]? = some (.int .i64 (L i))

theorem ownsRow_later {w w' : World} {B B' e size g n c : Nat} {xs : List Value} (h : w.ownsRow B e size (.slice (some ⟨g, 0, none⟩) n c) n xs) (hb : Below B' w w') (hg : g < B') : w'.ownsRow B e size (.slice (some ⟨g, 0, none⟩) n c) n xs := by
  refine ⟨h.1, h.2.imp id ?_⟩
  rintro ⟨g', cap, cur, h1, h2, h3, h4⟩
  have e : g' = g := by simp at h1; exact h1.1.symm
  subst e
  exact ⟨g', cap, cur, h1, h2, by rw [hb.block g' hg]; exact h3, h4⟩

theorem OwnI.lt {w : World} {B g n c : Nat} {L : Nat → Int} {k : Nat} (h : OwnI w B g n c L k) : g < w.heap.size := by
  obtain ⟨xs, ho, _⟩ := h; exact (ho.lt g rfl).2

theorem OwnI.keep {w w' : World} {B g n c : Nat} {L : Nat → Int} {k : Nat} (h : OwnI w B g n c L k) (hb : Below w.heap.size w w') : OwnI w' B g n c L k := by
  have hl := h.lt
  obtain ⟨xs, ho, hx⟩ := h
  exact ⟨xs, ownsRow_later ho hb hl, hx⟩

theorem OwnI.ints {w : World} {B g n c : Nat} {L : Nat → Int} (h : OwnI w B g n c L n) : Ints w g 0 n L := by
  have hl := h.lt
  obtain ⟨xs, ho, hx⟩ := h
  refine ⟨fun _ => hl, fun i hi => ?_⟩
  rw [Nat.zero_add, ho.cellAt _ (by omega)]; exact hx i hi

theorem OwnI.put {w : World} {B g n c : Nat} {L : Nat → Int} {k : Nat} (h : OwnI w B g n c L k) (hk : k < n) (x : Int) (hx : x = L k) :
    (∃ u0, w.cell? ⟨g, k, none⟩ = some u0) ∧ w.frozen? ⟨g, k, none⟩ = false ∧ OwnI (w.setCell ⟨g, k, none⟩ (.int .i64 x)) B g n c L (k + 1) ∧ w.grownBy (w.setCell ⟨g, k, none⟩ (.int .i64 x)) (some g) := by
  subst hx
  obtain ⟨xs, ho, hx⟩ := h
  obtain ⟨o1, g1⟩ := ho.stored k (.int .i64 (L k))
  have hl : xs.length = n * 1 := ho.1
  refine ⟨⟨_, (ho.cellAt k (by omega)).trans (List.getElem?_eq_getElem (by omega))⟩, ho.frozenAt _, ⟨_, o1, fun i hi => ?_⟩, g1⟩
  by_cases e : i = k
  · subst e; rw [List.getElem?_set_self (by omega)]
  · rw [List.getElem?_set_ne (by omega)]; exact hx i (by omega)

set_option maxRecDepth 10000 in
theorem makeInts (w : World) (n : Nat) (hn : n ≤ 1048576) : ∃ w', (Instr.makeSlice 26 (.int .i64 (n : Int)) (.int .i64 (n : Int))).run Try.prog w = .ok (.slice (some ⟨w.heap.size, 0, none⟩) n n) w' ∧
      w'.ownsRow w.heap.size 2 1 (.slice (some ⟨w.heap.size, 0, none⟩) n n) n (madeCells (Value.int .i64 0).cells (n * 1)).toList ∧ w.grownBy w' none :=
  run_make_full (P := Try.prog) w w.heap.size 26 2 _ (.int .i64 0) 1 Try.underlying26 rfl rfl rfl .i64 .i64 n (by show 8 * n ≤ _; omega) (by unfold maxLen; omega) (Nat.le_refl _)

set_option maxRecDepth 20000 in
set_option maxHeartbeats 400000 in
theorem toInt64S_any (b off n c : Nat) (L : Nat → Int) (w : World) (h : Ints w b off n L) (hn : n ≤ 1048576) :
    Calls Try.prog 9 #[.slice (some ⟨b, off, none⟩) n c] w fun e w' => e = .returned (.slice (some ⟨w.heap.size, 0, none⟩) n n) ∧ OwnI w' w.heap.size w.heap.size n n L n ∧ Below w.heap.size w w' := by
  obtain ⟨w1, hmk, how, hgr⟩ := makeInts w n hn
  have HO := hidden how
  have HG := hidden hgr
  clear how hgr
  go_enter Try.func9, Try.ntmps9
  go_wp2
  go_loopw [4] (fun i wr => ∃ k : Nat, k ≤ n ∧ i = .int .i64 k ∧ Hid (OwnI wr w.heap.size w.heap.size n n L k ∧ Below w.heap.size w wr)) (fun i _ => n - (intOf i).toNat)
  case atStart =>
    exact ⟨0, Nat.zero_le _, rfl, hidden ⟨⟨_, HO.out, fun i hi => by omega⟩, (Below.refl _ _).grown HG.out (Nat.le_refl _) (fun k hk => by cases hk)⟩⟩
  case round =>
    obtain ⟨k, hk, rfl, HI⟩ := hrel
    by_cases hlt : k < n
    · have c1 : wr.cell? ⟨b, off + k, none⟩ = some (.int .i64 (L k)) := by rw [HI.out.2.cell (p := ⟨b, off + k, none⟩) (h.blk (by omega))]; exact h.cell k hlt
      obtain ⟨⟨u0, p0⟩, f0, o3, g3⟩ := HI.out.1.put hlt (L k) rfl
      have H3 := hidden (And.intro o3 (HI.out.2.grown g3 HI.out.2.size (fun j hj => by cases hj; exact Nat.le_refl _)))
      clear o3 g3 HI hmk
      generalize L k = x at *
      go_wp2
      go_roundw
      case rel => exact ⟨k + 1, by omega, by go_num, H3⟩
      case measure => simp [intOf]; omega
    · obtain rfl : n = k := by omega
      go_wp2
      go_ret
      exact ⟨rfl, HI.out.1, HI.out.2⟩

set_option maxRecDepth 20000 in
set_option maxHeartbeats 400000 in
theorem toInt64S_none (p : Option Addr) (c : Nat) (L : Nat → Int) (w : World) :
    Calls Try.prog 9 #[.slice p 0 c] w fun e w' => e = .returned (.slice (some ⟨w.heap.size, 0, none⟩) 0 0) ∧ OwnI w' w.heap.size w.heap.size 0 0 L 0 ∧ Below w.heap.size w w' := by
  obtain ⟨w1, hmk, how, hgr⟩ := makeInts w 0 (by omega)
  rw [show ((0 : Nat) : Int) = 0 from rfl] at hmk
  have HO := hidden how
  have HG := hidden hgr
  clear how hgr
  go_enter Try.func9, Try.ntmps9
  go_wp2
  refine wp_loop_rounds 1 ?_
  rw [rounds_succ]
  go_wp2
  go_ret
  exact ⟨rfl, ⟨_, HO.out, fun i hi => by omega⟩, (Below.refl _ _).grown HG.out (Nat.le_refl _) (fun k hk => by cases hk)⟩

/-- A copy lies in new memory. -/
theorem toInts_src (p : Option Addr) (n c : Nat) (L : Nat → Int) (w : World) (h : SrcI w p n L) (hn : n ≤ 1048576) :
    Calls Try.prog 9 #[.slice p n c] w fun e w' => ∃ g, e = .returned (.slice (some ⟨g, 0, none⟩) n n) ∧ w.heap.size ≤ g ∧ OwnI w' w.heap.size g n n L n ∧ Below w.heap.size w w' := by
  rcases h.row with rfl | ⟨b, off, rfl, hs⟩
  · refine (toInt64S_none p c L w).mono ?_
    rintro e w' ⟨rfl, ho, hb⟩
    exact ⟨_, rfl, Nat.le_refl _, ho, hb⟩
  · refine (toInt64S_any b off n c L w hs hn).mono ?_
    rintro e w' ⟨rfl, ho, hb⟩
    exact ⟨_, rfl, Nat.le_refl _, ho, hb⟩

theorem toInts_new (p : Option Addr) (n c : Nat) (L : Nat → Int) (w : World) (h : SrcI w p n L) (hn : n ≤ 1048576) :
    Calls Try.prog 9 #[.slice p n c] w fun e w' => ∃ g, e = .returned (.slice (some ⟨g, 0, none⟩) n n) ∧ Ints w' g 0 n L ∧ Below w.heap.size w w' := by
  refine (toInts_src p n c L w h hn).mono ?_
  rintro e w' ⟨g, rfl, _, ho, hb⟩
  exact ⟨g, rfl, ho.ints, hb⟩

set_option maxRecDepth 20000 in
set_option maxHeartbeats 400000 in
theorem eqInt64S_eq (b off b' off' n c c' : Nat) (L : Nat → Int) (w : World) (h : Ints w b off n L) (h' : Ints w b' off' n L) (hn : n ≤ 1048576) :
    Calls Try.prog 14 #[.slice (some ⟨b, off, none⟩) n c, .slice (some ⟨b', off', none⟩) n c'] w fun e w' => e = .returned (.bool true) ∧ Below w.heap.size w w' := by
  go_enter Try.func14, Try.ntmps14
  go_wp2
  go_loopw [5] (fun i wr => ∃ k : Nat, k ≤ n ∧ i = .int .i64 k ∧ ∃ q, wr = w.drewN q) (fun i _ => n - (intOf i).toNat)
  case atStart => exact ⟨0, Nat.zero_le _, rfl, 0, rfl⟩
  case round =>
    obtain ⟨k, hk, rfl, q, rfl⟩ := hrel
    by_cases hlt : k < n
    · have c1 := h.cell k hlt
      have c2 := h'.cell k hlt
      generalize L k = x at *
      go_wp2
      go_quiet (fail)
      go_wp2
      go_roundw
      case rel => exact ⟨k + 1, by omega, by go_num, _, rfl⟩
      case measure => simp [intOf]; omega
    · go_wp2
      go_ret
      exact ⟨rfl, below_drewN (Below.refl _ _) _⟩

/-- What the frame tells of a slice of integers that came in. -/
def IsRow (k : IntKind) (w : World) (a : Option Addr) (len cap : Nat) (zs : List Int) : Prop :=
  (a = none ∧ len = 0 ∧ cap = 0 ∧ zs = []) ∨
  ∃ x, a = some x ∧ len ≤ cap ∧ cap ≤ maxLen ∧ zs.length = cap ∧ (∀ i, i < zs.length → w.cell? (x.add i) = some (.int k (zs.getD i 0))) ∧ ∀ n ∈ zs, (Lit.int k n).wf = true

theorem IsRow.srcI {w : World} {a : Option Addr} {len cap : Nat} {zs : List Int} (h : IsRow .i64 w a len cap zs) : SrcI w a len (fun i => zs.getD i 0) := by
  rcases h with ⟨rfl, rfl, rfl, rfl⟩ | ⟨x, rfl, hl, _, hz, hcell, hwz⟩
  · exact ⟨Or.inl rfl, fun i hi => by omega⟩
  · refine ⟨?_, fun i _ => by have := range_i64 hwz i; rw [List.getD_eq_getElem?_getD]; exact this⟩
    by_cases h0 : len = 0
    · exact Or.inl h0
    · obtain ⟨b, off, spot⟩ := x
      have hc := hcell 0 (by omega)
      have hspot : spot = none := by simpa [Addr.add] using World.cell?_spot hc
      subst hspot
      refine Or.inr ⟨b, off, rfl, fun _ => by simpa [Addr.add] using World.block_lt_of_cell? w _ hc, fun i hi => ?_⟩
      have ha : (⟨b, off, none⟩ : Addr).add i = ⟨b, off + i, none⟩ := by
        by_cases hi0 : i = 0 <;> simp [Addr.add, hi0]
      rw [← ha]
      exact hcell i (by omega)

end Go.Proofs.Ytbdgnpjbmlcchaa
