/- Contracts: terms out of bytes: the program's nodesAhead. -/
import Derived.Test.YtcnkkoegfjggaaaRd
namespace Go.Proofs.Ytcnkkoegfjggaaa
open Go.RowKit

/-- A list of nodes that grows: none, or a row of its own. -/
def Grow (B : Nat) (w : World) (v : Value) (k : Nat) (T : Nat → Int) : Prop :=
  (k = 0 ∧ v = .slice none 0 0) ∨ (0 < k ∧ ∃ g d, v = .slice (some ⟨g, 0, none⟩) k d ∧ B ≤ g ∧ OwnI w B g k d T k)

theorem Grow.row {B : Nat} {w : World} {v : Value} {k : Nat} {T : Nat → Int} (h : Grow B w v k T) : ∃ xs, w.ownsRow B 2 1 v k xs ∧ ∀ i, i < k → xs[i]? = some (.int .i64 (T i)) := by
  rcases h with ⟨rfl, rfl⟩ | ⟨_, g, d, rfl, _, xs, ho, hx⟩
  · exact ⟨[], ⟨rfl, Or.inl ⟨rfl, rfl⟩⟩, fun i hi => by omega⟩
  · exact ⟨xs, ho, hx⟩

theorem Grow.block {B : Nat} {w : World} {v : Value} {k : Nat} {T : Nat → Int} (h : Grow B w v k T) : ∀ q, v.ownBlock = some q → B ≤ q := by
  rcases h with ⟨rfl, rfl⟩ | ⟨_, g, d, rfl, hg, _⟩
  · intro q hq; cases hq
  · intro q hq; simp [Value.ownBlock] at hq; omega

theorem Grow.keep {B : Nat} {w w' : World} {v : Value} {k : Nat} {T : Nat → Int} (h : Grow B w v k T) (hb : Below w.heap.size w w') : Grow B w' v k T :=
  h.imp id fun ⟨h0, g, d, hv, hg, ho⟩ => ⟨h0, g, d, hv, hg, ho.keep hb⟩

theorem Grow.base {B B' : Nat} {w : World} {v : Value} {k : Nat} {T : Nat → Int} (h : Grow B w v k T) (hB : B' ≤ B) : Grow B' w v k T :=
  h.imp id fun ⟨h0, g, d, hv, hg, ho⟩ => ⟨h0, g, d, hv, by omega, ho.base (by omega)⟩

set_option maxRecDepth 20000 in
set_option maxHeartbeats 1600000 in
theorem nodesAhead_any (p : Option Addr) (n c b' off' m c' : Nat) (l : Nat → Int) (w : World) (hm : m ≤ 24)
    (hb' : b' < w.heap.size) (hc : ∀ i, i < m → w.cell? ⟨b', off' + i, none⟩ = some (.int .u8 (l i))) (hl : ∀ i, i < m → 0 ≤ l i ∧ l i ≤ 255) :
    Calls Try.prog 74 #[.agg #[.slice p n c], .slice (some ⟨b', off', none⟩) m c'] w fun e w' => (∃ q v, e = .returned v ∧ q ≤ m ∧ (∀ i, i < q → okN (l i) n = true) ∧ (q = m ∨ okN (l q) n = false) ∧ Grow w.heap.size w' v q (nodT l)) ∧ Below w.heap.size w w' := by
  have D := hidden (One.new w (.slice p n c) 32)
  have B := hidden (alloc_below w (.cells #[.slice p n c] 32))
  have HC := hidden (show ∀ i, i < m → (w.alloc (.cells #[.slice p n c] 32)).cell? ⟨b', off' + i, none⟩ = some (.int .u8 (l i)) from fun i hi => by rw [(bcell B.out).1 _ _ hb']; exact hc i hi)
  have HL := hidden hl
  have W0 := hidden (show (w.alloc (.cells #[.slice p n c] 32)).heap.size = w.heap.size + 1 by simp)
  obtain ⟨w0, hw0⟩ : ∃ w0, w0 = w.alloc (.cells #[.slice p n c] 32) := ⟨_, rfl⟩
  have hbw : b' < w0.heap.size := by rw [hw0, W0.out]; omega
  rw [← hw0] at D B HC W0
  clear hc hl
  go_enter Try.func74, Try.ntmps74
  go_wp2
  rw [← hw0]
  clear hw0
  go_loopw [5, 12] (fun o i wr => ∃ k v, k ≤ m ∧ i = .int .i64 (k : Nat) ∧ o = v ∧ Hid (Grow w0.heap.size wr v k (nodT l) ∧ Below w0.heap.size w0 wr) ∧ Hid (∀ i, i < k → okN (l i) n = true)) (fun _ i _ => m - (intOf i).toNat)
  case atStart => exact ⟨0, _, Nat.zero_le _, rfl, rfl, hidden ⟨Or.inl ⟨rfl, rfl⟩, Below.refl _ _⟩, hidden (fun i hi => by omega)⟩
  case round =>
    obtain ⟨k, v, hk, rfl, rfl, HI, HR⟩ := hrel
    by_cases hlt : k < m
    · have c1 : wr.cell? ⟨b', off' + k, none⟩ = some (.int .u8 (l k)) := by rw [(bcell HI.out.2).1 _ _ hbw]; exact HC.out k hlt
      have d0 := (D.out.keep HI.out.2).c0
      have hx := HL.out k hlt
      have HT := hidden (show nodV (l k) = nodT l k from rfl)
      generalize hy : l k = x at c1 hx HT
      have HY := hidden hy
      clear hy
      go_wp2_with fail
      with_reducible refine (nodeOf_any _ _ _ _ _ hx).mono ?_
      rintro e w1 ⟨rfl, hb⟩
      have G1 := hidden (HI.out.1.keep hb)
      have B1 := hidden (keepB HI.out.2 hb)
      have W1 := hidden B1.out.size
      clear hb c1 HI d0
      generalize ho : okN x n = ib
      cases ib
      · have HF := hidden (show okN (l k) n = false by rw [HY.out]; exact ho)
        clear ho
        go_wp2
        go_ret
        exact ⟨⟨k, _, rfl, hk, HR.out, Or.inr HF.out, G1.out.base (by have := W0.out; omega)⟩, keepB B.out B1.out⟩
      · have HOK := hidden (show ∀ i, i < k + 1 → okN (l i) n = true from fun i hi => by
          by_cases e : i = k
          · rw [e, HY.out]; exact ho
          · exact HR.out i (by omega))
        clear ho
        generalize nodV x = y at HT ⊢
        obtain ⟨xs, hxo, hxa⟩ := G1.out.row
        have XO := hidden hxo
        have XA := hidden hxa
        have GB := hidden G1.out.block
        clear G1 hxo hxa
        go_wp2_with (first | (at_builtin; refine wpList_append_own _ rfl _ _ 25 rfl w0.heap.size 2 _ (.int .i64 0) 1 8 Try.underlying25 rfl rfl rfl rfl rfl (by decide) _ _ _ rfl (World.ownsRow.alloc XO.out _) ⟨w1.heap.size, 0, none⟩ 1 1 [.int .i64 y] rfl rfl (int_src _ _ _) (oneVal _ rfl) (by unfold maxLen; omega) (by omega) (by have := W1.out; simp; omega) ?_) | go_in)
        intro v' w2 hown hgrow hnil
        obtain ⟨g2, d2, rfl, G2, O2, B2⟩ := own_ints hown (push_at XO.out.1 XA.out HT.out) (by simpa using hnil) ((B1.out.alloc W1.out _).grown hgrow (by have := W1.out; simp; omega) GB.out)
        have HG := hidden (show Grow w0.heap.size w2 (.slice (some ⟨g2, 0, none⟩) (k + 1) d2) (k + 1) (nodT l) from Or.inr ⟨by omega, g2, d2, rfl, G2, O2⟩)
        have HB2 := hidden B2
        clear hown hgrow hnil B1 W1 O2 B2 HT XO XA GB G2
        go_wp2
        exact ⟨⟨k + 1, _, by omega, by go_num, rfl, hidden ⟨HG.out, HB2.out⟩, HOK⟩, by simp [intOf]; omega⟩
    · obtain rfl : m = k := by omega
      go_wp2
      go_ret
      exact ⟨⟨m, _, rfl, Nat.le_refl _, HR.out, Or.inl rfl, HI.out.1.base (by have := W0.out; omega)⟩, keepB B.out HI.out.2⟩

end Go.Proofs.Ytcnkkoegfjggaaa
