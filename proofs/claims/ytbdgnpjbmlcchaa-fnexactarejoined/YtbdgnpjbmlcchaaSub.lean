/- Contracts: the term at a place: SubtermAt, as the model and as the program tells it. -/
import Derived.Test.YtbdgnpjbmlcchaaSizeAt
import Derived.Test.YtbdgnpjbmlcchaaTermRes
namespace Go.Proofs.Ytbdgnpjbmlcchaa
open Go.RowKit

/-- An answer that holds a list: a code and nothing, or 0 and a list of its own. -/
def ListAns (w : World) (C : Int) (k : Nat) (U : Nat → Int) (e : Ending) (w' : World) : Prop :=
  (C ≠ 0 ∧ e = .returned (.agg #[.int .i64 C, .slice none 0 0])) ∨
  (C = 0 ∧ ∃ g d, e = .returned (.agg #[.int .i64 0, .slice (some ⟨g, 0, none⟩) k d]) ∧ w.heap.size ≤ g ∧ OwnI w' w.heap.size g k d U k)

/-- A part of a row of numbers. -/
theorem Ints.part {w : World} {b off n : Nat} {L : Nat → Int} (h : Ints w b off n L) {q k : Nat} (hq : q + k ≤ n) : Ints w b (off + q) k (fun i => L (q + i)) :=
  ⟨fun h0 => h.blk (by omega), fun i hi => by rw [Nat.add_assoc]; exact h.cell (q + i) (by omega)⟩

set_option maxRecDepth 20000 in
set_option maxHeartbeats 1600000 in
theorem l3Sub_any (B b off n c b' off' m c' q e : Nat) (N : Nat → ByteArray) (A T : Nat → Int) (w : World) (hd : One w B (.slice (some ⟨b, off, none⟩) n c)) (h : Syms w b off n N A) (h' : Ints w b' off' m T) (hg : Nods n A m T) (hq : q < m) (hc : m ≤ c') (he : skip (aOf A T) m q 1 = some e) :
    Calls Try.prog 71 #[.pointer (some ⟨B, 0, none⟩), .slice (some ⟨b', off', none⟩) m c', .int .i64 q] w fun r w' => ∃ g d, r = .returned (.slice (some ⟨g, 0, none⟩) (e - q) d) ∧ w.heap.size ≤ g ∧ OwnI w' w.heap.size g (e - q) d (fun i => T (q + i)) (e - q) ∧ Below w.heap.size w w' := by
  have hqe := (skip_le he).2 (by omega)
  have D := hidden hd
  have H := hidden h
  have H' := hidden h'
  have HG := hidden hg
  have HE := hidden (endV_some he)
  have hm24 := hg.most
  have g1 : q ≤ e := by omega
  have g2 : e ≤ c' := by omega
  have g3 : ¬ c' = q := by omega
  clear hd h h' hg he
  go_enter Try.func71, Try.ntmps71
  go_wp2_with fail
  with_reducible refine (l3End_any _ _ _ _ _ _ _ _ _ N A T HG.out m q (by omega) (by omega) _ D.out H.out H'.out).mono ?_
  rintro r w1 ⟨rfl, hb⟩
  rw [HE.out]
  have HB := hidden hb
  have I1 := hidden ((H'.out.keep hb).part (q := q) (k := e - q) (by omega))
  clear hb
  go_wp2_with fail
  with_reducible refine (l1Ints_any _ _ _ _ _ _ I1.out (by omega)).mono ?_
  rintro r w2 ⟨g, d, rfl, hgg, ho, hb⟩
  have O := hidden ho
  have B2 := hidden (keepB HB.out hb)
  have hs := HB.out.size
  clear hb ho
  go_wp2
  go_ret
  exact ⟨g, d, rfl, by omega, O.out.base (by omega), B2.out⟩

set_option maxRecDepth 20000 in
set_option maxHeartbeats 1600000 in
theorem termThere_any (b off n c b' off' m c' q : Nat) (N : Nat → ByteArray) (A T : Nat → Int) (w : World) (h : Syms w b off n N A) (h' : Ints w b' off' m T) (hg : Trm n A m T) (hq : q < m) (hc : m ≤ c') :
    Calls Try.prog 63 #[.agg #[.slice (some ⟨b, off, none⟩) n c], .slice (some ⟨b', off', none⟩) m c', .int .i64 q] w fun e w' => e = .returned (.slice (some ⟨b', off' + q, none⟩) (manyN (aOf A T) m q) (c' - q)) ∧ Below w.heap.size w w' := by
  have D := hidden (One.new w (.slice (some ⟨b, off, none⟩) n c) 34)
  have B := hidden (alloc_below w (.cells #[.slice (some ⟨b, off, none⟩) n c] 34))
  have Q := hidden (h.keep B.out)
  have I := hidden (h'.keep B.out)
  have hm24 := hg.nods.most
  have hle := manyN_le (a := aOf A T) (m := m) (p := q) (by omega)
  have HG := hidden hg
  have d0 := D.out.c0
  clear h h' hg
  go_enter Try.func63, Try.ntmps63
  go_wp2_with fail
  with_reducible refine (sizeThere_any _ _ _ _ _ _ _ _ _ N A T _ Q.out I.out HG.out.nods HG.out.sig.least hq hc).mono ?_
  rintro e2 w3 ⟨rfl, hb⟩
  clear d0
  have B3 := hidden (keepB B.out hb)
  clear hb D Q I B
  generalize hk : manyN (aOf A T) m q = k at *
  have HE := hidden hk
  clear hk
  have g1 : q ≤ q + k := by omega
  have g2 : q + k ≤ c' := by omega
  have g3 : ¬ c' = q := by omega
  go_wp2
  go_ret
  exact ⟨by rw [HE.out, Nat.add_sub_cancel_left]; rfl, B3.out⟩

section
variable {n : Nat} {N : Nat → ByteArray} {A : Nat → Int} {m : Nat} {T : Nat → Int} {x : Int}
theorem sub_fault (h : termF n N A m T ≠ 0) : szC n N A m T x ≠ 0 := by rw [(sz_fault h).1]; exact h
theorem sub_range (h : termF n N A m T = 0) (hx : inB x m = false) : szC n N A m T x ≠ 0 := by rw [(sz_range h hx).1]; decide
end

end Go.Proofs.Ytbdgnpjbmlcchaa
