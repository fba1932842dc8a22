/- Contracts: a signature as bytes, as the model and as the program packs it. -/
import Derived.Test.YthgoclbgepfjmaaIntsRes
import Derived.Lib.AppendStr
namespace Go.Proofs.Ythgoclbgepfjmaa
open Go.RowKit

/-- The bytes of one symbol. -/
def symV (s : ByteArray) (x : Int) : List Value := [.int .u8 (s.size : Int)] ++ Lib.strCells s ++ [.int .u8 x]
/-- The bytes of a signature: how many symbols, and the first k of them. -/
def packV (N : Nat → ByteArray) (A : Nat → Int) (n : Nat) : Nat → List Value
  | 0 => [.int .u8 (n : Int)]
  | k + 1 => packV N A n k ++ symV (N k) (A k)

/-- What a signature without a fault has. -/
structure Right (n : Nat) (N : Nat → ByteArray) (A : Nat → Int) : Prop where
  least : 1 ≤ n
  most : n ≤ 6
  name : ∀ i, i < n → isNm (N i)
  arity : ∀ i, i < n → 0 ≤ A i ∧ A i ≤ 2

theorem fb_all {N : Nat → ByteArray} {A : Nat → Int} : ∀ n, fb N A n = 0 → ∀ i, i < n → oneF (N i) (A i) = 0
  | 0, _, i, hi => by omega
  | n + 1, h, i, hi => by
    have h' : (if fb N A n = 0 then oneF (N n) (A n) else fb N A n) = 0 := h
    by_cases e : fb N A n = 0
    · rw [if_pos e] at h'
      by_cases ei : i = n
      · rw [ei]; exact h'
      · exact fb_all n e i (by omega)
    · rw [if_neg e] at h'; exact absurd h' e

theorem fault_right {n : Nat} {N : Nat → ByteArray} {A : Nat → Int} (h : faultF n N A = 0) : Right n N A := by
  have h0 := h
  unfold faultF at h
  by_cases hn : n < 1 ∨ 6 < n
  · rw [if_pos hn] at h; omega
  · rw [if_neg hn] at h
    by_cases hb : fb N A n = 0
    · have ha := fb_all n hb
      have each : ∀ i, i < n → isNm (N i) ∧ 0 ≤ A i ∧ A i ≤ 2 := by
        intro i hi
        have hx := ha i hi
        unfold oneF at hx
        by_cases hm : nmB (N i) = true
        · rw [if_pos hm] at hx
          by_cases hr : 0 ≤ A i ∧ A i ≤ 2
          · exact ⟨by simpa [nmB] using hm, hr⟩
          · rw [if_neg hr] at hx; omega
        · rw [if_neg hm] at hx; omega
      exact ⟨by omega, by omega, fun i hi => (each i hi).1, fun i hi => (each i hi).2⟩
    · rw [if_neg hb] at h; exact absurd h hb

theorem symV_len (s : ByteArray) (x : Int) : (symV s x).length = s.size + 2 := by simp [symV, Lib.strCells_length]

theorem packV_len {N : Nat → ByteArray} {A : Nat → Int} {n : Nat} (h : Right n N A) : ∀ k, k ≤ n → (packV N A n k).length ≤ 1 + 5 * k
  | 0, _ => by simp [packV]
  | k + 1, hk => by
    have h1 := packV_len h k (by omega)
    have h2 := (h.name k (by omega)).2.1
    simp only [packV, List.length_append, symV_len]
    omega

theorem oneVal (v : Value) (h : v.oneCell' = true) : ∀ u ∈ [v], u.oneCell' = true := by intro u hu; simp at hu; rw [hu]; exact h

theorem one_src (W : World) (v : Value) (t : TypeId) : ∀ (j : Nat) (u : Value), [v][j]? = some u → (W.alloc (.cells #[v] t)).cell? ((⟨W.heap.size, 0, none⟩ : Addr).add j) = some u := by
  intro j u hj
  match j, hj with
  | 0, hj => simp at hj; subst hj; simp [Addr.add, go_sem]

/-- A slice of bytes in memory of its own. -/
structure OwnB (w : World) (B g d : Nat) (xs : List Value) : Prop where
  base : B ≤ g
  own : w.ownsRow B 5 1 (.slice (some ⟨g, 0, none⟩) xs.length d) xs.length xs

theorem own_open {w w1 : World} {B : Nat} {v' : Value} {xs : List Value} {k : Nat} (h : w1.ownsRow B 5 1 v' k xs) (hk : k = xs.length) (hnil : ¬ v' = .slice none 0 0) (hb : Below B w w1) : ∃ g d, v' = .slice (some ⟨g, 0, none⟩) xs.length d ∧ OwnB w1 B g d xs ∧ Below B w w1 := by
  subst hk
  rcases h.2 with ⟨hv, _⟩ | ⟨g, d, cur, hv, hg, _⟩
  · exact absurd hv hnil
  · subst hv; exact ⟨g, d, rfl, ⟨hg, h⟩, hb⟩

set_option maxRecDepth 20000 in
set_option maxHeartbeats 1600000 in
theorem l2Pack_any (P b off n c : Nat) (N : Nat → ByteArray) (A : Nat → Int) (w : World) (h : Syms w b off n N A) (hd : One w P (.slice (some ⟨b, off, none⟩) n c)) (hr : Right n N A) :
    Calls Try.prog 45 #[.pointer (some ⟨P, 0, none⟩)] w fun e w' => ∃ g d, e = .returned (.slice (some ⟨g, 0, none⟩) (packV N A n n).length d) ∧ OwnB w' w.heap.size g d (packV N A n n) ∧ Below w.heap.size w w' := by
  have h6 := hr.most
  have d0 := hd.c0
  have HR := hidden hr
  have HD := hidden hd
  have HO := hidden (World.ownsRow_lit (base := w.heap.size) (e := 5) (size := 1) w #[.int .u8 (n : Int)] 1 (Nat.le_refl _) (by unfold maxLen; omega) rfl)
  clear hr hd
  go_enter Try.func45, Try.ntmps45
  go_wp2
  clear d0
  go_loopw [3, 4] (fun o i wr => ∃ k g d, k ≤ n ∧ i = .int .i64 (k : Nat) ∧ o = .slice (some ⟨g, 0, none⟩) (packV N A n k).length d ∧ Hid (OwnB wr w.heap.size g d (packV N A n k) ∧ Below w.heap.size w wr)) (fun _ i _ => n - (intOf i).toNat)
  case atStart => exact ⟨0, _, _, Nat.zero_le _, rfl, rfl, hidden ⟨⟨Nat.le_refl _, HO.out⟩, alloc_below _ _⟩⟩
  case round =>
    obtain ⟨k, g, d, hk, rfl, rfl, HI⟩ := hrel
    by_cases hlt : k < n
    · have hln := packV_len HR.out k hk
      have hst : packV N A n (k + 1) = packV N A n k ++ symV (N k) (A k) := rfl
      have HST := hidden hst
      clear hst
      generalize packV N A n k = xs at *
      have hsz := (HR.out.name k hlt).2.1
      have har := HR.out.arity k hlt
      have c1 := (h.keep HI.out.2).name k hlt
      have d0 := (HD.out.keep HI.out.2).c0
      have O1 := hidden HI.out.1.own
      have B1 := hidden HI.out.2
      have G1 := HI.out.1.base
      have W1 := hidden HI.out.2.size
      clear HI
      go_wp2_with (first | (at_builtin; refine wpList_append_own _ rfl _ _ 22 rfl w.heap.size 5 _ (.int .u8 0) 1 1 Try.underlying22 rfl rfl rfl rfl rfl (by decide) _ _ _ rfl (O1.out.alloc _) ⟨wr.heap.size, 0, none⟩ 1 1 [.int .u8 ((N k).size : Int)] rfl rfl (one_src _ _ _) (oneVal _ rfl) (by unfold maxLen; omega) (by omega) (by have := W1.out; simp; omega) ?_) | go_in)
      intro v' w1 hown hgrow hnil
      obtain ⟨g2, d2, rfl, O2, B2⟩ := own_open hown (by simp) (by simpa using hnil) ((B1.out.alloc W1.out _).grown hgrow (by have := W1.out; simp; omega) (by intro q hq; simp [Value.ownBlock] at hq; omega))
      clear hown hgrow hnil c1 d0 O1 B1 G1 W1
      have hl2 : (xs ++ [Value.int .u8 ((N k).size : Int)]).length = xs.length + 1 := by simp
      generalize hX2 : xs ++ [Value.int .u8 ((N k).size : Int)] = xs2 at *
      have HX2 := hidden hX2
      have L2 := hidden hl2
      have hln2 : xs2.length ≤ 40 := by omega
      clear hX2 hl2
      have c1 := (h.keep B2).name k hlt
      have d0 := (HD.out.keep B2).c0
      have O2' := hidden O2.own
      have B2' := hidden B2
      have G2 := O2.base
      have W2 := hidden B2.size
      clear O2 B2
      go_wp2_with (first | (at_builtin; refine Lib.wpList_append_own_string _ rfl _ _ 22 9 rfl w.heap.size 5 _ Try.underlying22 Try.underlying9 rfl rfl rfl rfl _ _ _ rfl O2'.out (N k) rfl (by unfold maxLen; omega) (by omega) W2.out ?_) | go_in)
      intro v' w2 hown hgrow hnil
      obtain ⟨g3, d3, rfl, O3, B3⟩ := own_open hown (by rw [List.length_append, Lib.strCells_length]) (by simpa using hnil) (B2'.out.grown hgrow W2.out (by intro q hq; simp [Value.ownBlock] at hq; omega))
      clear hown hgrow hnil c1 d0 O2' B2' G2 W2
      have hl3 : (xs2 ++ Lib.strCells (N k)).length = xs2.length + (N k).size := by rw [List.length_append, Lib.strCells_length]
      generalize hX3 : xs2 ++ Lib.strCells (N k) = xs3 at *
      have HX3 := hidden hX3
      have hln3 : xs3.length ≤ 50 := by omega
      clear hX3 hl3
      have c1 := (h.keep B3).arity k hlt
      have d0 := (HD.out.keep B3).c0
      have O3' := hidden O3.own
      have B3' := hidden B3
      have G3 := O3.base
      have W3 := hidden B3.size
      clear O3 B3
      go_wp2_with (first | (at_builtin; refine wpList_append_own _ rfl _ _ 22 rfl w.heap.size 5 _ (.int .u8 0) 1 1 Try.underlying22 rfl rfl rfl rfl rfl (by decide) _ _ _ rfl (O3'.out.alloc _) ⟨w2.heap.size, 0, none⟩ 1 1 [.int .u8 (A k)] rfl rfl (one_src _ _ _) (oneVal _ rfl) (by unfold maxLen; omega) (by omega) (by have := W3.out; simp; omega) ?_) | go_in)
      intro v' w3 hown hgrow hnil
      obtain ⟨g4, d4, rfl, O4, B4⟩ := own_open hown (by simp) (by simpa using hnil) ((B3'.out.alloc W3.out _).grown hgrow (by have := W3.out; simp; omega) (by intro q hq; simp [Value.ownBlock] at hq; omega))
      have hX4 : xs3 ++ [Value.int .u8 (A k)] = packV N A n (k + 1) := by
        rw [HST.out, ← HX3.out, ← HX2.out, symV]
        simp only [List.append_assoc]
      rw [hX4] at O4 ⊢
      have H4 := hidden (And.intro O4 B4)
      clear hown hgrow hnil c1 d0 O3' B3' G3 W3 O4 B4 hX4 HX2 HX3 HST L2
      generalize hX5 : packV N A n (k + 1) = xs5 at *
      have HX5 := hidden hX5
      clear hX5
      go_wp2
      exact ⟨⟨k + 1, g4, d4, by omega, by go_num, by rw [HX5.out], by rw [HX5.out]; exact H4⟩, by simp [intOf]; omega⟩
    · obtain rfl : n = k := by omega
      have d0 := (HD.out.keep HI.out.2).c0
      go_wp2
      go_ret
      exact ⟨g, d, rfl, HI.out.1, HI.out.2⟩

end Go.Proofs.Ythgoclbgepfjmaa
