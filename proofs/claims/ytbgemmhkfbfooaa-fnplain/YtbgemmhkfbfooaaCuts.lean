/- Contracts: all symbols are cut off bytes, as the program does it. -/
import Derived.Test.YtbgemmhkfbfooaaCut
namespace Go.Proofs.Ytbgemmhkfbfooaa
open Go.RowKit

/-- Where the k-th symbol begins, how many letters its name has, its name and its arity, in bytes. -/
def pos (l : List Int) : Nat → Nat
  | 0 => 1
  | k + 1 => pos l k + ((l.getD (pos l k) 0).toNat + 2)
def kk (l : List Int) (k : Nat) : Nat := (l.getD (pos l k) 0).toNat
def nmOf (l : List Int) (k : Nat) : ByteArray := strOfNums (cutOf (l.drop (pos l k)) 1 (kk l k))
def arOf (l : List Int) (k : Nat) : Int := (l.drop (pos l k)).getD (1 + kk l k) 0
/-- The first k symbols end inside of the bytes. -/
def fit (l : List Int) (k : Nat) : Prop := ∀ i, i < k → pos l i + (kk l i + 2) ≤ l.length

theorem pos_succ (l : List Int) (k : Nat) : pos l (k + 1) = pos l k + (kk l k + 2) := rfl

theorem drop_getD (l : List Int) (p i : Nat) : (l.drop p).getD i 0 = l.getD (p + i) 0 := by
  simp [List.getD_eq_getElem?_getD, List.getElem?_drop]

def noSig : Value := .tuple #[.agg #[.slice none 0 0], .bool false]

theorem rowOff {w : World} {b off n : Nat} {l : List Int} (h : Byt.Row w b off n l) (p : Nat) (hp : p ≤ n) (o : Nat) (ho : n - p = 0 ∨ o = off + p) : Byt.Row w b o (n - p) (l.drop p) := by
  refine ⟨by rw [List.length_drop, h.len], by have := h.most; omega, fun i => by rw [drop_getD]; exact h.byt _, h.blk, fun i hi => ?_⟩
  rcases ho with ho | rfl
  · omega
  · rw [drop_getD, Nat.add_assoc]; exact h.cell (p + i) (by omega)

theorem own_keep {w w' : World} {B e size n : Nat} {v : Value} {xs : List Value} (h : w.ownsRow B e size v n xs) (hb : Below w.heap.size w w') : w'.ownsRow B e size v n xs := by
  refine ⟨h.1, h.2.imp id ?_⟩
  rintro ⟨g, cap, cur, h1, h2, h3, h4⟩
  exact ⟨g, cap, cur, h1, h2, by rw [hb.block g (Array.getElem?_eq_some_iff.1 h3).1]; exact h3, h4⟩

/-- A row of symbols that grows: nothing yet, or cells of its own. -/
def SymRow (w : World) (B : Nat) (v : Value) (k : Nat) (N : Nat → ByteArray) (A : Nat → Int) : Prop :=
  ∃ xs, w.ownsRow B 70 2 v k xs ∧ ∀ i, i < k → xs[i * 2]? = some (.string (N i)) ∧ xs[i * 2 + 1]? = some (.int .i64 (A i))

/-- What is known while symbols are cut. -/
structure CutInv (w wr : World) (l : List Int) (k : Nat) (v : Value) : Prop where
  bel : Below w.heap.size w wr
  sz : w.heap.size + 2 ≤ wr.heap.size
  r0 : wr.cell? ⟨w.heap.size, 0, none⟩ = some (.slice none 0 0)
  rf : wr.frozen? ⟨w.heap.size, 0, none⟩ = false
  s0 : wr.cell? ⟨w.heap.size + 1, 0, none⟩ = some v
  sf : wr.frozen? ⟨w.heap.size + 1, 0, none⟩ = false
  row : SymRow wr (w.heap.size + 2) v k (nmOf l) (arOf l)

theorem CutInv.keep {w wr w' : World} {l : List Int} {k : Nat} {v : Value} (h : CutInv w wr l k v) (hb : Below wr.heap.size wr w') : CutInv w w' l k v := by
  have hs := h.sz
  obtain ⟨xs, ho, hx⟩ := h.row
  exact ⟨keepB h.bel hb, Nat.le_trans h.sz hb.size, by rw [hb.cell (p := ⟨w.heap.size, 0, none⟩) (by show w.heap.size < _; omega)]; exact h.r0, by rw [hb.frozen (p := ⟨w.heap.size, 0, none⟩) (by show w.heap.size < _; omega)]; exact h.rf,
    by rw [hb.cell (p := ⟨w.heap.size + 1, 0, none⟩) (by show w.heap.size + 1 < _; omega)]; exact h.s0, by rw [hb.frozen (p := ⟨w.heap.size + 1, 0, none⟩) (by show w.heap.size + 1 < _; omega)]; exact h.sf, xs, own_keep ho hb, hx⟩

theorem CutInv.new (w : World) (l : List Int) : CutInv w ((w.alloc (.cells #[.slice none 0 0] 26)).alloc (.cells #[.slice none 0 0] 26)).drew l 0 (.slice none 0 0) := by
  refine ⟨(keepB (alloc_below w _) (alloc_below _ _)).drew, by show _ ≤ ((w.alloc _).alloc _).heap.size; simp, ?_, ?_, ?_, ?_, [], ⟨rfl, Or.inl ⟨rfl, rfl⟩⟩, fun i hi => by omega⟩
  · show ((w.alloc _).alloc _).cell? _ = _; simp [go_sem]
  · show ((w.alloc _).alloc _).frozen? _ = _; simp [go_sem]
  · show ((w.alloc _).alloc _).cell? _ = _; simp [go_sem]
  · show ((w.alloc _).alloc _).frozen? _ = _; simp [go_sem]

theorem own_block {w : World} {B e size n : Nat} {v : Value} {xs : List Value} (h : w.ownsRow B e size v n xs) : ∀ r, v.ownBlock = some r → B ≤ r := by
  intro r hr
  rcases h.2 with ⟨rfl, _⟩ | ⟨g, cap, cur, rfl, h2, _⟩
  · simp [Value.ownBlock] at hr
  · simp [Value.ownBlock] at hr; omega

theorem own_other {w : World} {B e size n : Nat} {v : Value} {xs : List Value} (h : w.ownsRow B e size v n xs) (a : Addr) (u : Value) (ha : a.block < B) : (w.setCell a u).ownsRow B e size v n xs := by
  refine ⟨h.1, h.2.imp id ?_⟩
  rintro ⟨g, cap, cur, h1, h2, h3, h4⟩
  exact ⟨g, cap, cur, h1, h2, by rw [Below.heap_setCell _ _ _ _ (by omega)]; exact h3, h4⟩

theorem CutInv.next {w wa w2 : World} {l : List Int} {k : Nat} {v v' : Value} {xs : List Value} {nm : ByteArray} {ar : Int} (h : CutInv w wa l k v) (ho : wa.ownsRow (w.heap.size + 2) 70 2 v k xs) (hx : ∀ i, i < k → xs[i * 2]? = some (.string (nmOf l i)) ∧ xs[i * 2 + 1]? = some (.int .i64 (arOf l i)))
    (hg : wa.grownBy w2 v.ownBlock) (hown : w2.ownsRow (w.heap.size + 2) 70 2 v' (k + 1) (xs ++ [.string nm, .int .i64 ar])) (hn : nmOf l k = nm) (ha : arOf l k = ar) :
    w2.cell? ⟨w.heap.size + 1, 0, none⟩ = some v ∧ w2.frozen? ⟨w.heap.size + 1, 0, none⟩ = false ∧ CutInv w (w2.setCell ⟨w.heap.size + 1, 0, none⟩ v') l (k + 1) v' := by
  have hs := h.sz
  have hblk := own_block ho
  have k0 := hg.block w.heap.size (by omega) (fun e => by have := hblk _ e.symm; omega)
  have k1 := hg.block (w.heap.size + 1) (by omega) (fun e => by have := hblk _ e.symm; omega)
  have a0 : w2.cell? ⟨w.heap.size, 0, none⟩ = some (.slice none 0 0) := (World.cell?_of_block (w := wa) (show w2.heap[(⟨w.heap.size, 0, none⟩ : Addr).block]? = wa.heap[(⟨w.heap.size, 0, none⟩ : Addr).block]? from k0)).trans h.r0
  have a1 : w2.frozen? ⟨w.heap.size, 0, none⟩ = false := (World.frozen?_of_block (w := wa) (show w2.heap[(⟨w.heap.size, 0, none⟩ : Addr).block]? = wa.heap[(⟨w.heap.size, 0, none⟩ : Addr).block]? from k0)).trans h.rf
  have b0 : w2.cell? ⟨w.heap.size + 1, 0, none⟩ = some v := (World.cell?_of_block (w := wa) (show w2.heap[(⟨w.heap.size + 1, 0, none⟩ : Addr).block]? = wa.heap[(⟨w.heap.size + 1, 0, none⟩ : Addr).block]? from k1)).trans h.s0
  have b1 : w2.frozen? ⟨w.heap.size + 1, 0, none⟩ = false := (World.frozen?_of_block (w := wa) (show w2.heap[(⟨w.heap.size + 1, 0, none⟩ : Addr).block]? = wa.heap[(⟨w.heap.size + 1, 0, none⟩ : Addr).block]? from k1)).trans h.sf
  have hl : xs.length = k * 2 := ho.1
  refine ⟨b0, b1, (h.bel.grown hg h.bel.size (fun r hr => by have := hblk r hr; omega)).setCell (by simp) _, by have := hg.size; simp; omega, ?_, by simpa using a1, World.cell?_setCell_same _ _ _ b0, by simpa using b1, _, own_other hown _ _ (by simp), fun i hi => ?_⟩
  · rw [World.cell?_setCell_other _ _ _ _ (by intro e; injection e with e1; omega)]; exact a0
  · by_cases e : i = k
    · subst e
      constructor
      · rw [List.getElem?_append_right (by omega), hl, Nat.sub_self, hn]; rfl
      · rw [List.getElem?_append_right (by omega), hl, show i * 2 + 1 - i * 2 = 1 by omega, ha]; rfl
    · rw [List.getElem?_append_left (by omega), List.getElem?_append_left (by omega)]
      exact hx i (by omega)

theorem two_src (W : World) (u v : Value) (t : TypeId) (g : Nat) (hg : g = W.heap.size) : ∀ (j : Nat) (x : Value), [u, v][j]? = some x → (W.alloc (.cells #[u, v] t)).cell? ((⟨g, 0, none⟩ : Addr).add j) = some x := by
  subst hg
  intro j x hj
  match j, hj with
  | 0, hj => simp at hj; subst hj; simp [Addr.add, go_sem]
  | 1, hj => simp at hj; subst hj; simp [Addr.add, go_sem]

end Go.Proofs.Ytbgemmhkfbfooaa
