/- Contracts: answers that hold bytes: compared, marked, looked at again. -/
import Derived.Test.YtcnkkoegfjggaaaIntsRes
import Derived.Test.YtcnkkoegfjggaaaBPairOf
namespace Go.Proofs.Ytcnkkoegfjggaaa
open Go.RowKit

theorem byt_getD {l : List Int} (h : ∀ x ∈ l, 0 ≤ x ∧ x ≤ 255) (i : Nat) : 0 ≤ l.getD i 0 ∧ l.getD i 0 ≤ 255 := by
  rw [List.getD_eq_getElem?_getD]
  cases hx : l[i]? with
  | none => simp
  | some v => simp; exact h v (List.mem_of_getElem? hx)

theorem oneVal (v : Value) (h : v.oneCell' = true) : ∀ u ∈ [v], u.oneCell' = true := by intro u hu; simp at hu; rw [hu]; exact h

theorem one_src (W : World) (v : Value) (t : TypeId) : ∀ (j : Nat) (u : Value), [v][j]? = some u → (W.alloc (.cells #[v] t)).cell? ((⟨W.heap.size, 0, none⟩ : Addr).add j) = some u := by
  intro j u hj
  match j, hj with
  | 0, hj => simp at hj; subst hj; simp [Addr.add, go_sem]

/-- A slice of bytes in memory of its own. -/
structure OwnB (w : World) (B g d : Nat) (xs : List Value) : Prop where
  base : B ≤ g
  own : w.ownsRow B 5 1 (.slice (some ⟨g, 0, none⟩) xs.length d) xs.length xs

theorem own_open {w w1 : World} {B : Nat} {v' : Value} {xs : List Value} {k : Nat} (h : w1.ownsRow B 5 1 v' k xs) (hk : k = xs.length) (hnil : ¬ v' = .slice none 0 0) (hb : Below B w w1) : ∃ g d, v' = .slice (some ⟨g, 0, none⟩) xs.length d ∧ OwnB w1 B g d xs ∧ Below B w w1 := by
  subst hk
  rcases h.2 with ⟨hv, _⟩ | ⟨g, d, cur, hv, hg, _⟩
  · exact absurd hv hnil
  · subst hv; exact ⟨g, d, rfl, ⟨hg, h⟩, hb⟩

/-- A row of bytes in memory of its own. -/
def OwnR (w : World) (B g n d : Nat) (xs : List Value) : Prop := w.ownsRow B 5 1 (.slice (some ⟨g, 0, none⟩) n d) n xs

theorem OwnR.lt {w : World} {B g n d : Nat} {xs : List Value} (h : OwnR w B g n d xs) : g < w.heap.size := (World.ownsRow.lt h g rfl).2
theorem OwnR.keep {w w' : World} {B g n d : Nat} {xs : List Value} (h : OwnR w B g n d xs) (hb : Below w.heap.size w w') : OwnR w' B g n d xs := ownsRow_later h hb h.lt
theorem OwnR.grown {w w' : World} {B g n d g' : Nat} {xs : List Value} (h : OwnR w B g n d xs) (hg : w.grownBy w' (some g')) (hne : g ≠ g') : OwnR w' B g n d xs := by
  have hl := h.lt
  refine ⟨h.1, h.2.imp id ?_⟩
  rintro ⟨g1, cap, cur, h1, h2, h3, h4⟩
  have e : g1 = g := by simp at h1; exact h1.1.symm
  subst e
  exact ⟨g1, cap, cur, h1, h2, by rw [hg.block g1 hl (by simpa using hne)]; exact h3, h4⟩

theorem OwnB.ownR {w : World} {B g d : Nat} {xs : List Value} (h : OwnB w B g d xs) : OwnR w B g xs.length d xs := h.own

theorem OwnR.row {w : World} {B g n d : Nat} {l : List Int} (h : OwnR w B g n d (l.map (Value.int .u8))) (hm : n ≤ 1048576) (hb : ∀ x ∈ l, 0 ≤ x ∧ x ≤ 255) : Byt.Row w g 0 n l := Byt.ownRow h (by omega) (byt_getD hb)

theorem OwnR.other {w : World} {B g n d : Nat} {xs : List Value} (h : OwnR w B g n d xs) (a : Addr) (u : Value) (hg : g ≠ a.block) : OwnR (w.setCell a u) B g n d xs := by
  refine ⟨h.1, h.2.imp id ?_⟩
  rintro ⟨g', cap, cur, h1, h2, h3, h4⟩
  have e : g' = g := by simp at h1; exact h1.1.symm
  subst e
  exact ⟨g', cap, cur, h1, h2, by rw [Below.heap_setCell _ _ _ _ hg]; exact h3, h4⟩

theorem OwnR.base {w : World} {B B' g n d : Nat} {xs : List Value} (h : OwnR w B g n d xs) (hB : B' ≤ g) : OwnR w B' g n d xs := by
  refine ⟨h.1, h.2.imp id ?_⟩
  rintro ⟨g', cap, cur, h1, h2, h3, h4⟩
  have e : g' = g := by simp at h1; exact h1.1.symm
  subst e
  exact ⟨g', cap, cur, h1, hB, h3, h4⟩

/-- An answer that holds bytes: a code and nothing, or 0 and bytes of its own. -/
def BytAns (w : World) (C : Int) (l : List Int) (e : Ending) (w' : World) : Prop :=
  (C ≠ 0 ∧ e = .returned (.agg #[.int .i64 C, .slice none 0 0])) ∨
  (C = 0 ∧ ∃ g d, e = .returned (.agg #[.int .i64 0, .slice (some ⟨g, 0, none⟩) l.length d]) ∧ w.heap.size ≤ g ∧ OwnR w' w.heap.size g l.length d (l.map (Value.int .u8)))

end Go.Proofs.Ytcnkkoegfjggaaa
