/- Contracts: pieces of bytes put one behind the other: the program's joinBytes. -/
import Derived.Test.YtfandhpjignabaaPkT
import Derived.Laws.CopyOwn
namespace Go.Proofs.Ytfandhpjignabaa
open Go.RowKit

/-- The first k pieces, one behind the other. -/
def joinTo (X : Nat → List Int) : Nat → List Int
  | 0 => []
  | k + 1 => joinTo X k ++ X k

theorem joinTo_le (X : Nat → List Int) {k : Nat} : ∀ n, k ≤ n → (joinTo X k).length ≤ (joinTo X n).length
  | 0, h => by obtain rfl : k = 0 := by omega
               exact Nat.le_refl _
  | n + 1, h => by
    by_cases e : k = n + 1
    · rw [e]; exact Nat.le_refl _
    · have := joinTo_le X n (show k ≤ n by omega)
      simp only [joinTo, List.length_append]; omega

/-- Pieces of bytes in memory. -/
structure Pieces (w : World) (b off n : Nat) (G D : Nat → Nat) (X : Nat → List Int) : Prop where
  blk : 0 < n → b < w.heap.size
  cell : ∀ i, i < n → w.cell? ⟨b, off + i, none⟩ = some (.slice (some ⟨G i, 0, none⟩) (X i).length (D i))
  lt : ∀ i, i < n → G i < w.heap.size
  has : ∀ i, i < n → ∀ j, j < (X i).length → w.cell? ⟨G i, j, none⟩ = some (.int .u8 ((X i).getD j 0))
  pos : ∀ i, i < n → 0 < (X i).length

theorem Pieces.keep {w w' : World} {b off n : Nat} {G D : Nat → Nat} {X : Nat → List Int} (h : Pieces w b off n G D X) (hb : Below w.heap.size w w') : Pieces w' b off n G D X :=
  ⟨fun h0 => Nat.lt_of_lt_of_le (h.blk h0) hb.size, fun i hi => by rw [hb.cell (p := ⟨b, off + i, none⟩) (h.blk (by omega))]; exact h.cell i hi,
   fun i hi => Nat.lt_of_lt_of_le (h.lt i hi) hb.size, fun i hi j hj => by rw [hb.cell (p := ⟨G i, j, none⟩) (h.lt i hi)]; exact h.has i hi j hj, h.pos⟩

/-- What lies there when k pieces are copied. -/
def laidV (X : Nat → List Int) (L k : Nat) : List Value := (joinTo X k).map (Value.int .u8) ++ List.replicate (L - (joinTo X k).length) (Value.int .u8 0)

theorem laidV_len (X : Nat → List Int) (L k : Nat) (h : (joinTo X k).length ≤ L) : (laidV X L k).length = L := by simp [laidV]; omega

theorem laidV_step (X : Nat → List Int) (L k : Nat) (h : (joinTo X (k + 1)).length ≤ L) : splice (laidV X L k) (joinTo X k).length ((X k).map (Value.int .u8)) = laidV X L (k + 1) := by
  have h1 : (joinTo X (k + 1)).length = (joinTo X k).length + (X k).length := by simp [joinTo]
  unfold splice laidV
  rw [List.take_left' (by simp), List.drop_append, List.drop_eq_nil_of_le (by simp)]
  simp only [List.length_map, List.nil_append, List.drop_replicate, joinTo, List.map_append, List.append_assoc, List.length_append]
  congr 3
  omega

theorem piece_src {w : World} {g : Nat} {l : List Int} (h : ∀ j, j < l.length → w.cell? ⟨g, j, none⟩ = some (.int .u8 (l.getD j 0))) : ∀ j v, (l.map (Value.int .u8))[j]? = some v → w.cell? ((⟨g, 0, none⟩ : Addr).add j) = some v := by
  intro j v hj
  have hl : j < l.length := by
    by_cases hl : j < l.length
    · exact hl
    · rw [List.getElem?_eq_none (by simp; omega)] at hj; cases hj
  have ha : (⟨g, 0, none⟩ : Addr).add j = ⟨g, j, none⟩ := by
    by_cases h0 : j = 0 <;> simp [Addr.add, h0]
  rw [ha, h j hl, ← hj, List.getElem?_map, List.getElem?_eq_getElem hl]
  simp [List.getD_eq_getElem?_getD, List.getElem?_eq_getElem hl]

set_option maxRecDepth 20000 in
set_option maxHeartbeats 1600000 in
theorem joinBytes_any (b off n c : Nat) (G D : Nat → Nat) (X : Nat → List Int) (w : World) (h : Pieces w b off n G D X) (hn : n ≤ 100) (ht : (joinTo X n).length ≤ 1048576) :
    Calls Try.prog 58 #[.slice (some ⟨b, off, none⟩) n c] w fun e w' => ∃ g, e = .returned (.slice (some ⟨g, 0, none⟩) (joinTo X n).length (joinTo X n).length) ∧ w.heap.size ≤ g ∧ OwnR w' w.heap.size g (joinTo X n).length (joinTo X n).length ((joinTo X n).map (Value.int .u8)) ∧ Below w.heap.size w w' := by
  have H := hidden h
  clear h
  go_enter Try.func58, Try.ntmps58
  go_wp2
  go_loopw [3, 12] (fun l i wr => ∃ k a : Nat, k ≤ n ∧ i = .int .i64 (k : Nat) ∧ l = .int .i64 (a : Nat) ∧ a ≤ 1048576 ∧ Hid (a = (joinTo X k).length) ∧ Hid (Below w.heap.size w wr)) (fun _ i _ => n - (intOf i).toNat)
  case atStart => exact ⟨0, 0, Nat.zero_le _, rfl, rfl, by omega, hidden rfl, hidden (Below.refl _ _)⟩
  case round =>
    obtain ⟨k, a, hk, rfl, rfl, ha, HA, HB⟩ := hrel
    by_cases hlt : k < n
    · have c1 := (H.out.keep HB.out).cell k hlt
      have h1 := joinTo_le X n (show k + 1 ≤ n by omega)
      have h2 : (joinTo X (k + 1)).length = (joinTo X k).length + (X k).length := by simp [joinTo]
      rw [← HA.out] at h2
      have HA1 := hidden h2.symm
      have hx : a + (X k).length ≤ 1048576 := by omega
      generalize (X k).length = x at *
      clear h1 h2 HA
      go_wp2
      go_roundw
      case rel => exact ⟨k + 1, a + x, by omega, by go_num, by go_num, hx, HA1, HB⟩
      case measure => simp [intOf]; omega
    · obtain rfl : n = k := by omega
      obtain ⟨w1, hmk, how, hgr⟩ := run_make_full (P := Try.prog) wr wr.heap.size 25 5 _ (.int .u8 0) 1 Try.underlying25 rfl rfl rfl .i64 .i64 a (by show 1 * a ≤ _; omega) (by unfold maxLen; omega) (Nat.le_refl _)
      have e : (madeCells (Value.int IntKind.u8 0).cells (a * 1)).toList = List.replicate a (Value.int .u8 0) := by
        rw [Nat.mul_one]; exact toList_madeCells_one _ _
      rw [e] at how
      have hW := HB.out.size
      obtain ⟨g0, hg0⟩ : ∃ g0, g0 = wr.heap.size := ⟨_, rfl⟩
      rw [← hg0] at hmk how
      have hg1 : w.heap.size ≤ g0 := by omega
      have hcur : w1.heap[g0]? = some (.cells (laidV X a 0).toArray 5 (0, 0)) := by
        rcases how.2 with ⟨hv, _⟩ | ⟨g', cap, cur, hv, _, h3, _, _, h6, h7⟩
        · cases hv
        · simp at hv
          obtain ⟨rfl, rfl⟩ := hv
          rw [h3]
          congr 2
          have : cur.toList = laidV X a 0 := by
            rw [List.take_of_length_le (by simp; omega)] at h7
            simpa [laidV, joinTo] using h7
          rw [← this]
      have HC := hidden hcur
      have HB1 := hidden (HB.out.grown hgr hW (fun k hk => by cases hk))
      have HG0 := hidden hg0
      clear how hgr e hcur hg0 HB hlt hW
      go_wp2
      go_loopw [7, 25] (fun l i wq => ∃ k y : Nat, k ≤ n ∧ i = .int .i64 (k : Nat) ∧ l = .int .i64 (y : Nat) ∧ Hid (y = (joinTo X k).length) ∧ Hid (wq.heap[g0]? = some (.cells (laidV X a k).toArray 5 (0, 0))) ∧ Hid (Below w.heap.size w wq)) (fun _ i _ => n - (intOf i).toNat)
      case atStart => exact ⟨0, 0, Nat.zero_le _, rfl, rfl, hidden rfl, HC, HB1⟩
      case round =>
        obtain ⟨k, y, hk2, rfl, rfl, HY, HC2, HB2⟩ := hrel
        by_cases hlt : k < n
        · have c1 := (H.out.keep HB2.out).cell k hlt
          have h1 := joinTo_le X n (show k + 1 ≤ n by omega)
          have h2 : (joinTo X (k + 1)).length = (joinTo X k).length + (X k).length := by simp [joinTo]
          have h0 := H.out.pos k hlt
          rw [← HA.out] at h1
          have HL := hidden (laidV_len X a k (by omega))
          have HST := hidden (laidV_step X a k h1)
          rw [← HY.out] at h2 HST
          have HY1 := hidden h2.symm
          have hx : y + (X k).length ≤ a := by omega
          have HP := hidden (piece_src ((H.out.keep HB2.out).has k hlt))
          obtain ⟨cs, hcs⟩ : ∃ cs, cs = (X k).map (Value.int .u8) := ⟨_, rfl⟩
          have hl : cs.length = (X k).length := by rw [hcs]; simp
          rw [← hcs] at HST HP
          have H1C := hidden (show ∀ v ∈ cs, v.oneCell' = true by rw [hcs]; exact Byt.byteNews _)
          generalize (X k).length = x at *
          have HLC := hidden hl
          have hya : ¬ a = y := by omega
          have hyl : y ≤ a := by omega
          clear h1 h2 hmk hcs hl
          have hcp := run_copy_row (P := Try.prog) wr 25 25 3 5 g0 y (a - y) (a - y) ⟨G k, 0, none⟩ x (D k) (laidV X a k).toArray 5 cs Try.underlying25 rfl HC2.out (by rw [HLC.out]; exact (Nat.min_eq_left (by omega)).symm) HP.out (by rw [HLC.out, List.size_toArray, HL.out]; exact hx) H1C.out
          obtain ⟨w3, hw3⟩ : ∃ w3, w3 = wr.setRow g0 ((laidV X a k).toArray.toList.take y ++ cs ++ (laidV X a k).toArray.toList.drop (y + cs.length)).toArray := ⟨_, rfl⟩
          rw [← hw3, HLC.out] at hcp
          have hg3 := hidden (show w3.heap[g0]? = some (.cells (laidV X a (k + 1)).toArray 5 (0, 0)) by
            rw [hw3, setRow_heap wr g0 _ _ 5 _ HC2.out, ← HST.out]; simp [splice, HLC.out])
          have HB3 := hidden (show Below w.heap.size w w3 by rw [hw3]; exact below_setRow HB2.out hg1 _)
          clear hw3
          clear HST HP H1C HLC HC2 HB2
          go_wp2
          go_roundw
          case rel => exact ⟨k + 1, y + x, by omega, by go_num, by go_num, HY1, hg3, HB3⟩
          case measure => simp [intOf]; omega
        · obtain rfl : n = k := by omega
          go_wp2
          go_ret
          refine ⟨g0, by rw [HA.out]; rfl, hg1, ?_, HB2.out⟩
          have hC := HC2.out
          rw [HA.out] at hC
          have hl0 : laidV X (joinTo X n).length n = (joinTo X n).map (Value.int .u8) := by simp [laidV]
          rw [hl0] at hC
          exact ⟨by simp, Or.inr ⟨g0, _, _, rfl, hg1, hC, Nat.le_refl _, by unfold maxLen; omega, by simp, by simp; exact List.take_of_length_le (by simp)⟩⟩

end Go.Proofs.Ytfandhpjignabaa
