/- Contracts: the draws of signatures. -/
import Derived.Test.YtbgemmhkfbfooaaDraw
import Derived.Test.YtbgemmhkfbfooaaIntsRes
namespace Go.Proofs.Ytbgemmhkfbfooaa
open Go.RowKit

/-- One cell that may be written. -/
structure Cel (w : World) (b : Nat) (v : Value) : Prop where
  blk : b < w.heap.size
  c0 : w.cell? ⟨b, 0, none⟩ = some v
  f0 : w.frozen? ⟨b, 0, none⟩ = false

theorem Cel.new (w : World) (v : Value) (t : TypeId) : Cel (w.alloc (.cells #[v] t)) w.heap.size v :=
  ⟨by simp, by simp [go_sem], by simp [go_sem]⟩

theorem Cel.grown {w w' : World} {b g : Nat} {v : Value} (h : Cel w b v) (hg : w.grownBy w' (some g)) (hne : b ≠ g) : Cel w' b v := by
  have hb := hg.block b h.blk (by simpa using hne)
  exact ⟨Nat.lt_of_lt_of_le h.blk hg.size, (World.cell?_of_block (w := w) hb).trans h.c0, (World.frozen?_of_block (w := w) hb).trans h.f0⟩

theorem Cel.keep {w w' : World} {b : Nat} {v : Value} (h : Cel w b v) (hb : Below w.heap.size w w') : Cel w' b v :=
  ⟨Nat.lt_of_lt_of_le h.blk hb.size, by rw [hb.cell (p := ⟨b, 0, none⟩) h.blk]; exact h.c0, by rw [World.frozen?_of_block (hb.block b h.blk)]; exact h.f0⟩

/-- The signatures that are drawn. -/
def sigL : Nat → List (ByteArray × Int)
  | 0 => [(⟨#[101]⟩, 0), (⟨#[105]⟩, 1), (⟨#[109]⟩, 2), (⟨#[97]⟩, 0)]
  | 1 => [(⟨#[97]⟩, 0), (⟨#[115, 117, 99]⟩, 1), (⟨#[97, 100, 100]⟩, 2), (⟨#[98]⟩, 0)]
  | 2 => [(⟨#[97]⟩, 0), (⟨#[102]⟩, 1), (⟨#[103]⟩, 1)]
  | 3 => [(⟨#[97]⟩, 0), (⟨#[98]⟩, 0), (⟨#[101]⟩, 0), (⟨#[109]⟩, 2), (⟨#[105]⟩, 1), (⟨#[115, 117, 99]⟩, 1)]
  | _ => [(⟨#[97]⟩, 0)]

def nmL (L : List (ByteArray × Int)) (i : Nat) : ByteArray := (L.getD i (ByteArray.empty, 0)).1
def arL (L : List (ByteArray × Int)) (i : Nat) : Int := (L.getD i (ByteArray.empty, 0)).2
def valsL : List (ByteArray × Int) → List Value
  | [] => []
  | x :: r => .string x.1 :: .int .i64 x.2 :: valsL r

theorem valsL_length : ∀ L, (valsL L).length = L.length * 2
  | [] => rfl
  | x :: r => by simp [valsL, valsL_length r]; omega

theorem valsL_at : ∀ (L : List (ByteArray × Int)) (i : Nat), i < L.length → (valsL L)[i * 2]? = some (.string (nmL L i)) ∧ (valsL L)[i * 2 + 1]? = some (.int .i64 (arL L i))
  | [], i, h => by simp at h
  | x :: r, 0, _ => by simp [valsL, nmL, arL]
  | x :: r, i + 1, h => by
    have := valsL_at r i (by simpa using h)
    rw [show (i + 1) * 2 = i * 2 + 2 by omega]
    simpa [valsL, nmL, arL] using this

theorem sigL_len : ∀ j, 1 ≤ (sigL j).length ∧ (sigL j).length ≤ 6
  | 0 => by simp [sigL]
  | 1 => by simp [sigL]
  | 2 => by simp [sigL]
  | 3 => by simp [sigL]
  | _ + 4 => by simp [sigL]

theorem ownS_lit (w : World) (B : Nat) (L : List (ByteArray × Int)) (cs : Array Value) (hc : cs.toList = valsL L) (hB : B ≤ w.heap.size) (hL : L.length ≤ 6) :
    OwnS (w.alloc (.cells cs 70)) B w.heap.size L.length L.length (nmL L) (arL L) L.length := by
  refine ⟨valsL L, ?_, fun i hi => valsL_at L i hi⟩
  have hz : cs.size = L.length * 2 := by rw [← Array.length_toList, hc, valsL_length]
  exact ⟨valsL_length L, .inr ⟨w.heap.size, L.length, cs, rfl, hB, heap_alloc_new w _, Nat.le_refl _, by unfold maxLen; omega, hz, by rw [hc, ← valsL_length, List.take_length]⟩⟩

set_option maxRecDepth 20000 in
set_option maxHeartbeats 3200000 in
theorem l2Sig_any (s : Nat) (p : Option Addr) (n c a : Nat) (l : List Int) (w0 w : World) (hs : Byt.Gen w s p n c a) (h0 : Byt.Src w0 p n l) (hb : Below w0.heap.size w0 w) (hs0 : w0.heap.size ≤ s) (ha : a ≤ 1000000) :
    Calls Try.prog 34 #[.pointer (some ⟨s, 0, none⟩)] w fun e w' => ∃ j g, e = .returned (.agg #[.slice (some ⟨g, 0, none⟩) (sigL j).length (sigL j).length]) ∧ w.heap.size ≤ g ∧ OwnS w' w.heap.size g (sigL j).length (sigL j).length (nmL (sigL j)) (arL (sigL j)) (sigL j).length ∧ Byt.Gen w' s p n c (a + 1) ∧ w.grownBy w' (some s) := by
  have fin : ∀ w1 : World, w1.heap.size = w.heap.size + 7 → Byt.Gen w1 s p n c (a + 1) → w.grownBy w1 (some s) → ∀ j (cs : Array Value), cs.toList = valsL (sigL j) → ∀ k, k = (sigL j).length → ∀ u, ∃ j g, Ending.returned (.agg #[.slice (some ⟨w.heap.size + 7, 0, none⟩) k k]) = Ending.returned (.agg #[.slice (some ⟨g, 0, none⟩) (sigL j).length (sigL j).length]) ∧ w.heap.size ≤ g ∧ OwnS ((w1.setCell ⟨w.heap.size, 0, none⟩ u).alloc (.cells cs 70)) w.heap.size g (sigL j).length (sigL j).length (nmL (sigL j)) (arL (sigL j)) (sigL j).length ∧ Byt.Gen ((w1.setCell ⟨w.heap.size, 0, none⟩ u).alloc (.cells cs 70)) s p n c (a + 1) ∧ w.grownBy ((w1.setCell ⟨w.heap.size, 0, none⟩ u).alloc (.cells cs 70)) (some s) := by
    intro w1 hz hg hgr j cs hc k hk u
    have hsw := hs.blk
    have hz2 : (w1.setCell ⟨w.heap.size, 0, none⟩ u).heap.size = w.heap.size + 7 := by simpa [World.setCell] using hz
    refine ⟨j, w.heap.size + 7, by rw [hk], by omega, ?_, ?_, ?_⟩
    · rw [← hz2]
      exact ownS_lit _ _ _ cs hc (by omega) (sigL_len j).2
    · exact (hg.grown (Byt.setCell_grown _ _ _ _) (by omega)).alloc _
    · exact grownBy_trans (Byt.grownBy_new hgr (Byt.setCell_grown _ _ _ _) (Nat.le_refl _)) (World.grownBy_alloc _ _ (some s))
  have FIN := hidden fin
  clear fin
  go_enter Try.func34, Try.ntmps34
  go_wp2_with fail
  generalize hW : (((((((w.alloc (Obj.cells #[Value.slice none 0 0] 26)).alloc (Obj.cells #[Value.string { data := #[101] }, Value.int IntKind.i64 0] 70)).alloc (Obj.cells #[Value.string { data := #[105] }, Value.int IntKind.i64 1] 70)).alloc (Obj.cells #[Value.string { data := #[109] }, Value.int IntKind.i64 2] 70)).alloc (Obj.cells #[Value.string { data := #[115, 117, 99] }, Value.int IntKind.i64 1] 70)).alloc (Obj.cells #[Value.string { data := #[97] }, Value.int IntKind.i64 0] 70)).alloc (Obj.cells #[Value.string { data := #[98] }, Value.int IntKind.i64 0] 70)) = W
  have hsw := hs.blk
  have hGW : Byt.Gen W s p n c a := by subst hW; exact ((((((hs.alloc _).alloc _).alloc _).alloc _).alloc _).alloc _).alloc _
  have hBW : Below w.heap.size w W := by subst hW; exact keepB (keepB (keepB (keepB (keepB (keepB (alloc_below w _) (alloc_below _ _)) (alloc_below _ _)) (alloc_below _ _)) (alloc_below _ _)) (alloc_below _ _)) (alloc_below _ _)
  refine (Byt.l1Next_any s p n c a l 8 w0 W hGW h0 (keepB hb hBW) hs0 ha (by omega) (by omega)).mono ?_
  rintro e w1 ⟨v, rfl, hv0, hv1, hg, hgr, hz⟩
  have hr : w1.cell? ⟨w.heap.size, 0, none⟩ = some (.slice none 0 0) ∧ w1.frozen? ⟨w.heap.size, 0, none⟩ = false := by
    have hblk := hgr.block w.heap.size (by subst hW; simp; omega) (by simp; omega)
    exact ⟨(World.cell?_of_block hblk).trans (by subst hW; simp [go_sem]), (World.frozen?_of_block hblk).trans (by subst hW; simp [go_sem])⟩
  obtain ⟨r0, r1⟩ := hr
  have tw : ∀ k x y, k < 7 → w.heap.size + k ≠ s → W.cell? ⟨w.heap.size + k, 0, none⟩ = some x → W.cell? ⟨w.heap.size + k, 1, none⟩ = some y → w1.cell? ⟨w.heap.size + k, 0, none⟩ = some x ∧ w1.cell? ⟨w.heap.size + k, 1, none⟩ = some y := by
    intro k x y hk hne h1 h2
    have hblk := hgr.block (w.heap.size + k) (by subst hW; simp; omega) (by simp; omega)
    exact ⟨(World.cell?_of_block hblk).trans h1, (World.cell?_of_block hblk).trans h2⟩
  obtain ⟨a0, a1⟩ := tw 1 (.string ⟨#[101]⟩) (.int .i64 0) (by omega) (by omega) (by subst hW; simp [go_sem]) (by subst hW; simp [go_sem])
  obtain ⟨b0, b1⟩ := tw 2 (.string ⟨#[105]⟩) (.int .i64 1) (by omega) (by omega) (by subst hW; simp [go_sem]) (by subst hW; simp [go_sem])
  obtain ⟨d0, d1⟩ := tw 3 (.string ⟨#[109]⟩) (.int .i64 2) (by omega) (by omega) (by subst hW; simp [go_sem]) (by subst hW; simp [go_sem])
  obtain ⟨e0, e1⟩ := tw 4 (.string ⟨#[115, 117, 99]⟩) (.int .i64 1) (by omega) (by omega) (by subst hW; simp [go_sem]) (by subst hW; simp [go_sem])
  obtain ⟨g0, g1⟩ := tw 5 (.string ⟨#[97]⟩) (.int .i64 0) (by omega) (by omega) (by subst hW; simp [go_sem]) (by subst hW; simp [go_sem])
  obtain ⟨i0, i1⟩ := tw 6 (.string ⟨#[98]⟩) (.int .i64 0) (by omega) (by omega) (by subst hW; simp [go_sem]) (by subst hW; simp [go_sem])
  clear tw
  have hz7 : w1.heap.size = w.heap.size + 7 := by rw [hz]; subst hW; simp
  have GG := hidden (grownBy_trans (below_grown hBW (some s)) hgr)
  have FI := hidden (FIN.out w1 hz7 hg GG.out)
  clear hW hGW hBW hgr hz hg hs h0 hb GG FIN
  rcases (show v = 0 ∨ v = 1 ∨ v = 2 ∨ v = 3 ∨ v = 4 ∨ v = 5 ∨ v = 6 ∨ v = 7 by omega) with rfl | rfl | rfl | rfl | rfl | rfl | rfl | rfl
  · go_wp2
    refine bodyPost_ret (v := .agg #[.slice (some ⟨w.heap.size + 7, 0, none⟩) 4 4]) (by simp [results, Try.results34, go_sem, r0, hz7]) rfl (FI.out 0 _ (by rfl) _ (by rfl) _)
  · go_wp2
    refine bodyPost_ret (v := .agg #[.slice (some ⟨w.heap.size + 7, 0, none⟩) 4 4]) (by simp [results, Try.results34, go_sem, r0, hz7]) rfl (FI.out 0 _ (by rfl) _ (by rfl) _)
  · go_wp2
    refine bodyPost_ret (v := .agg #[.slice (some ⟨w.heap.size + 7, 0, none⟩) 4 4]) (by simp [results, Try.results34, go_sem, r0, hz7]) rfl (FI.out 0 _ (by rfl) _ (by rfl) _)
  · go_wp2
    refine bodyPost_ret (v := .agg #[.slice (some ⟨w.heap.size + 7, 0, none⟩) 4 4]) (by simp [results, Try.results34, go_sem, r0, hz7]) rfl (FI.out 1 _ (by rfl) _ (by rfl) _)
  · go_wp2
    refine bodyPost_ret (v := .agg #[.slice (some ⟨w.heap.size + 7, 0, none⟩) 4 4]) (by simp [results, Try.results34, go_sem, r0, hz7]) rfl (FI.out 1 _ (by rfl) _ (by rfl) _)
  · go_wp2
    refine bodyPost_ret (v := .agg #[.slice (some ⟨w.heap.size + 7, 0, none⟩) 3 3]) (by simp [results, Try.results34, go_sem, r0, hz7]) rfl (FI.out 2 _ (by rfl) _ (by rfl) _)
  · go_wp2
    refine bodyPost_ret (v := .agg #[.slice (some ⟨w.heap.size + 7, 0, none⟩) 6 6]) (by simp [results, Try.results34, go_sem, r0, hz7]) rfl (FI.out 3 _ (by rfl) _ (by rfl) _)
  · go_wp2
    refine bodyPost_ret (v := .agg #[.slice (some ⟨w.heap.size + 7, 0, none⟩) 1 1]) (by simp [results, Try.results34, go_sem, r0, hz7]) rfl (FI.out 4 _ (by rfl) _ (by rfl) _)

end Go.Proofs.Ytbgemmhkfbfooaa
