/- Contracts: the draws of terms. -/
import Derived.Test.YtbgemmhkfbfooaaOrdBent
import Derived.Test.YtbgemmhkfbfooaaTermF
namespace Go.Proofs.Ytbgemmhkfbfooaa
open Go.RowKit

theorem ownI_one (W : World) (B : Nat) (x : Int) (hB : B ≤ W.heap.size) : OwnI (W.alloc (.cells #[.int .i64 x] 2)) B W.heap.size 1 1 (fun _ => x) 1 :=
  ⟨[.int .i64 x], ⟨rfl, .inr ⟨W.heap.size, 1, #[.int .i64 x], rfl, hB, heap_alloc_new W _, Nat.le_refl _, by unfold maxLen; omega, rfl, rfl⟩⟩, fun i hi => by
    obtain rfl : i = 0 := by omega
    rfl⟩

/-- Where the source is turned alone. -/
structure Sr (w W : World) (s : Nat) (p : Option Addr) (nn c a : Nat) : Prop where
  gen : Byt.Gen W s p nn c a
  grw : w.grownBy W (some s)

theorem Sr.call {w W W' : World} {s nn c a a' : Nat} {p : Option Addr} (h : Sr w W s p nn c a) (hg : Byt.Gen W' s p nn c a') (hk : W.grownBy W' (some s)) : Sr w W' s p nn c a' := ⟨hg, grownBy_trans h.grw hk⟩

theorem Sr.below {w0 w W : World} {s nn c a : Nat} {p : Option Addr} (h : Sr w W s p nn c a) (hb : Below w0.heap.size w0 w) (hs0 : w0.heap.size ≤ s) : Below w0.heap.size w0 W :=
  hb.grown h.grw hb.size (fun k hk => by cases hk; exact hs0)

theorem Syms.grown {w w' : World} {b off n s : Nat} {N : Nat → ByteArray} {A : Nat → Int} (h : Syms w b off n N A) (hg : w.grownBy w' (some s)) (hne : b ≠ s) : Syms w' b off n N A :=
  ⟨fun h0 => Nat.lt_of_lt_of_le (h.blk h0) hg.size, fun i hi => hg.cell (h.name i hi) (by simpa using hne), fun i hi => hg.cell (h.arity i hi) (by simpa using hne), h.big, h.fits⟩

/-- Of k symbols from any one on, round and round, all are met. -/
theorem round_all {k n0 c : Nat} (hn : n0 < k) (hc : c < k) : ∃ j, j < k ∧ (n0 + j) % k = c := by
  by_cases h : n0 ≤ c
  · exact ⟨c - n0, by omega, by rw [show n0 + (c - n0) = c by omega]; exact Nat.mod_eq_of_lt hc⟩
  · refine ⟨c + k - n0, by omega, ?_⟩
    rw [show n0 + (c + k - n0) = c + k by omega, Nat.add_mod_right]
    exact Nat.mod_eq_of_lt hc

/-- One list behind the other, both in new memory. -/
theorem Dr.more {w W W' w2 : World} {s nn c a a' g m d g' m' d' : Nat} {p : Option Addr} {v' : Value} {L M : Nat → Int}
    (h : Dr w W s p nn c a g m d) (hd : Dr W W' s p nn c a' g' m' d') (hgrow : W'.grownBy w2 (some g)) (hown : w2.ownsRow w.heap.size 2 1 v' (m + m') (valsI L m ++ valsI M m')) (hnil : v' ≠ .slice none 0 0) :
    ∃ g2 d2, v' = .slice (some ⟨g2, 0, none⟩) (m + m') d2 ∧ Dr w w2 s p nn c a' g2 (m + m') d2 := by
  obtain ⟨g2, d2, rfl, hg2, ho, _⟩ := row_open hown hnil (Below.refl w.heap.size w2)
  have hs := h.hs
  have hg := h.hg
  refine ⟨g2, d2, rfl, ⟨hd.gen.grown hgrow (by omega), ⟨fun i => if i < m then L i else M (i - m), ?_⟩, Byt.grownBy_new (grownBy_trans h.grw hd.grw) hgrow hg, hs, hg2⟩⟩
  refine ⟨_, ho, fun i hi => ?_⟩
  have l1 : (valsI L m).length = m := by simp [valsI]
  by_cases h1 : i < m
  · rw [List.getElem?_append_left (by omega), valsI_at _ _ _ h1]; simp [h1]
  · rw [List.getElem?_append_right (by omega), l1, valsI_at _ _ _ (by omega)]; simp [h1]

end Go.Proofs.Ytbgemmhkfbfooaa
