/- Contracts: PackSignature of the model and of the program. -/
import Derived.Test.YthgoclbgepfjmaaPack
namespace Go.Proofs.Ythgoclbgepfjmaa
open Go.RowKit

/-- The answer of PackSignature: a code and nothing, or 0 and the bytes. -/
def PackAns (w : World) (n : Nat) (N : Nat → ByteArray) (A : Nat → Int) (e : Ending) (w' : World) : Prop :=
  (faultF n N A ≠ 0 ∧ e = .returned (.agg #[.int .i64 (faultF n N A), .slice none 0 0])) ∨
  (faultF n N A = 0 ∧ ∃ g d, e = .returned (.agg #[.int .i64 0, .slice (some ⟨g, 0, none⟩) (packV N A n n).length d]) ∧ OwnB w' w.heap.size g d (packV N A n n))

theorem OwnB.other {w : World} {B g d : Nat} {xs : List Value} (h : OwnB w B g d xs) (a : Addr) (u : Value) (hg : g ≠ a.block) : OwnB (w.setCell a u) B g d xs := by
  refine ⟨h.base, ⟨h.own.1, h.own.2.imp id ?_⟩⟩
  rintro ⟨g', cap, cur, h1, h2, h3, h4⟩
  have e : g' = g := by simp at h1; exact h1.1.symm
  subst e
  exact ⟨g', cap, cur, h1, h2, by rw [Below.heap_setCell _ _ _ _ hg]; exact h3, h4⟩

theorem OwnB.lower {w : World} {B B' g d : Nat} {xs : List Value} (h : OwnB w B g d xs) (hB : B' ≤ g) : OwnB w B' g d xs := by
  refine ⟨hB, ⟨h.own.1, h.own.2.imp id ?_⟩⟩
  rintro ⟨g', cap, cur, h1, h2, h3, h4⟩
  have e : g' = g := by simp at h1; exact h1.1.symm
  subst e
  exact ⟨g', cap, cur, h1, hB, h3, h4⟩

theorem OwnB.lt {w : World} {B g d : Nat} {xs : List Value} (h : OwnB w B g d xs) : g < w.heap.size := (h.own.lt g rfl).2

theorem OwnB.keep {w w' : World} {B g d : Nat} {xs : List Value} (h : OwnB w B g d xs) (hb : Below w.heap.size w w') : OwnB w' B g d xs := ⟨h.base, ownsRow_later h.own hb h.lt⟩

theorem one_src' (W : World) (v : Value) (t : TypeId) (g : Nat) (hg : g = W.heap.size) : ∀ (j : Nat) (u : Value), [v][j]? = some u → (W.alloc (.cells #[v] t)).cell? ((⟨g, 0, none⟩ : Addr).add j) = some u := by
  subst hg; exact one_src W v t

/-- The block of the loop's variable: two cells of a symbol. -/
structure SymVar (w : World) (q : Nat) (s : ByteArray) (x : Int) : Prop where
  lt : q < w.heap.size
  blk : w.heap[q]? = some (.cells #[.string s, .int .i64 x] 41)

theorem SymVar.new (w : World) (s : ByteArray) (x : Int) : SymVar (w.alloc (.cells #[.string s, .int .i64 x] 41)) w.heap.size s x := ⟨by simp, heap_alloc_new w _⟩

theorem SymVar.cells {w : World} {q : Nat} {s : ByteArray} {x : Int} (h : SymVar w q s x) : w.cell? ⟨q, 0, none⟩ = some (.string s) ∧ w.cell? ⟨q, 1, none⟩ = some (.int .i64 x) := by
  constructor
  · rw [cell_of_row w q 0 _ 41 (0, 0) h.blk]; rfl
  · rw [cell_of_row w q 1 _ 41 (0, 0) h.blk]; rfl

theorem SymVar.alloc {w : World} {q : Nat} {s : ByteArray} {x : Int} (h : SymVar w q s x) (o : Obj) : SymVar (w.alloc o) q s x :=
  ⟨by have := h.lt; simp; omega, by rw [Below.heap_alloc w o q h.lt]; exact h.blk⟩

theorem SymVar.grown {w w' : World} {q g : Nat} {s : ByteArray} {x : Int} (h : SymVar w q s x) (hg : w.grownBy w' (some g)) (hne : q ≠ g) : SymVar w' q s x :=
  ⟨Nat.lt_of_lt_of_le h.lt hg.size, (hg.block q h.lt (by simpa using hne)).trans h.blk⟩

theorem SymVar.apart {w : World} {q B g k d : Nat} {s : ByteArray} {x : Int} {xs : List Value} (h : SymVar w q s x) (ho : w.ownsRow B 5 1 (.slice (some ⟨g, 0, none⟩) k d) k xs) : q ≠ g := by
  rintro rfl
  rcases ho.2 with ⟨hv, _⟩ | ⟨g', cap, cur, hv, _, hh, _⟩
  · simp at hv
  · have e : g' = q := by simp at hv; exact hv.1.symm
    subst e
    rw [h.blk] at hh
    simp at hh

set_option maxRecDepth 20000 in
set_option maxHeartbeats 3200000 in
theorem implPack_any (b off n c : Nat) (N : Nat → ByteArray) (A : Nat → Int) (w : World) (h : Syms w b off n N A) (hk : Kept n N A) :
    Calls Try.prog 9 #[.agg #[.slice (some ⟨b, off, none⟩) n c]] w fun e w' => PackAns w n N A e w' ∧ Below w.heap.size w w' := by
  have D := hidden ((One.new w (.slice (some ⟨b, off, none⟩) n c) 26).keep (alloc_below _ (.cells #[.int .i64 0, .slice none 0 0] 29)))
  have R := hidden (Res.new (w.alloc (.cells #[.slice (some ⟨b, off, none⟩) n c] 26)) (.int .i64 0) (.slice none 0 0) 29)
  have B := hidden (keepB (alloc_below w (.cells #[.slice (some ⟨b, off, none⟩) n c] 26)) (alloc_below _ (.cells #[.int .i64 0, .slice none 0 0] 29)))
  have Q := hidden (h.keep B.out)
  have HK := hidden hk
  rw [World.size_alloc] at R
  clear h hk
  go_enter Try.func9, Try.ntmps9
  go_wp2_with fail
  refine (implFault_all _ _ _ _ N A _ Q.out HK.out).mono ?_
  rintro e w1 ⟨rfl, hb⟩
  replace D := hidden (D.out.keep hb)
  replace R := hidden (R.out.keep hb)
  replace B := hidden (keepB B.out hb)
  replace Q := hidden (Q.out.keep hb)
  clear hb
  by_cases hf : faultF n N A = 0
  · have HF := hidden hf
    have h6 := (fault_right hf).most
    rw [hf]
    clear hf
    have HR := hidden (fault_right HF.out)
    have d0 := D.out.c0
    have d1 : ∀ o, (w1.alloc o).cell? ⟨w.heap.size, 0, none⟩ = some (.slice (some ⟨b, off, none⟩) n c) := fun o => keepCell d0 o
    have HO := hidden (World.ownsRow_lit (base := w1.heap.size) (e := 5) (size := 1) w1 #[.int .u8 (n : Int)] 1 (Nat.le_refl _) (by unfold maxLen; omega) rfl)
    go_wp2_with fail
    clear d0 d1
    go_loopw [4, 21] (fun o i wr => ∃ k g d, k ≤ n ∧ i = .int .i64 (k : Nat) ∧ o = .slice (some ⟨g, 0, none⟩) (packV N A n k).length d ∧ Hid (OwnB wr w1.heap.size g d (packV N A n k) ∧ Below w1.heap.size w1 wr)) (fun _ i _ => n - (intOf i).toNat)
    case atStart => exact ⟨0, _, _, Nat.zero_le _, rfl, rfl, hidden ⟨⟨Nat.le_refl _, HO.out⟩, alloc_below _ _⟩⟩
    case round =>
      obtain ⟨k, g, d, hk, rfl, rfl, HI⟩ := hrel
      by_cases hlt : k < n
      · have hln := packV_len HR.out k hk
        have HST := hidden (show packV N A n (k + 1) = packV N A n k ++ symV (N k) (A k) from rfl)
        generalize packV N A n k = xs at *
        have hsz := (HR.out.name k hlt).2.1
        have har := HR.out.arity k hlt
        have c1 := (Q.out.keep HI.out.2).name k hlt
        have c2 := (Q.out.keep HI.out.2).arity k hlt
        have O1 := hidden (HI.out.1.own.alloc (.cells #[.string (N k), .int .i64 (A k)] 41))
        have B1 := hidden (HI.out.2.alloc HI.out.2.size (.cells #[.string (N k), .int .i64 (A k)] 41))
        have G1 := HI.out.1.base
        have GL := HI.out.1.lt
        have W1 := hidden HI.out.2.size
        have T1 := hidden (SymVar.new wr (N k) (A k))
        clear HI
        go_wp2_with (first | (at_builtin; refine wpList_append_own _ rfl _ _ 22 rfl w1.heap.size 5 _ (.int .u8 0) 1 1 Try.underlying22 rfl rfl rfl rfl rfl (by decide) _ _ _ rfl (O1.out.alloc _) _ 1 1 [.int .u8 ((N k).size : Int)] rfl rfl (one_src' _ _ _ _ (by simp)) (oneVal _ rfl) (by unfold maxLen; omega) (by omega) (by have := W1.out; simp; omega) ?_) | go_in)
        intro v' w2 hown hgrow hnil
        obtain ⟨g2, d2, rfl, O2, B2⟩ := own_open hown (by simp) (by simpa using hnil) ((B1.out.alloc (by have := W1.out; simp; omega) _).grown hgrow (by have := W1.out; simp; omega) (by intro q hq; simp [Value.ownBlock] at hq; omega))
        replace T1 := hidden ((T1.out.alloc _).grown (g := g) hgrow (by omega))
        have hl2 : (xs ++ [Value.int .u8 ((N k).size : Int)]).length = xs.length + 1 := by simp
        clear hown hgrow hnil c1 c2 O1 B1 G1 W1 GL
        generalize hX2 : xs ++ [Value.int .u8 ((N k).size : Int)] = xs2 at *
        have HX2 := hidden hX2
        have hln2 : xs2.length ≤ 40 := by omega
        clear hX2 hl2
        obtain ⟨c1, -⟩ := T1.out.cells
        have O2' := hidden O2.own
        have B2' := hidden B2
        have G2 := O2.base
        have W2 := hidden B2.size
        clear O2 B2
        go_wp2_with (first | (at_builtin; refine Lib.wpList_append_own_string _ rfl _ _ 22 9 rfl w1.heap.size 5 _ Try.underlying22 Try.underlying9 rfl rfl rfl rfl _ _ _ rfl O2'.out (N k) rfl (by unfold maxLen; omega) (by omega) W2.out ?_) | go_in)
        intro v' w3 hown hgrow hnil
        obtain ⟨g3, d3, rfl, O3, B3⟩ := own_open hown (by rw [List.length_append, Lib.strCells_length]) (by simpa using hnil) (B2'.out.grown hgrow W2.out (by intro q hq; simp [Value.ownBlock] at hq; omega))
        replace T1 := hidden (T1.out.grown (g := g2) hgrow (T1.out.apart O2'.out))
        clear hown hgrow hnil c1 O2' B2' G2 W2
        have hl3 : (xs2 ++ Lib.strCells (N k)).length = xs2.length + (N k).size := by rw [List.length_append, Lib.strCells_length]
        generalize hX3 : xs2 ++ Lib.strCells (N k) = xs3 at *
        have HX3 := hidden hX3
        have hln3 : xs3.length ≤ 50 := by omega
        clear hX3 hl3
        obtain ⟨-, c1⟩ := T1.out.cells
        have O3' := hidden O3.own
        have B3' := hidden B3
        have G3 := O3.base
        have W3 := hidden B3.size
        clear O3 B3
        go_wp2_with (first | (at_builtin; refine wpList_append_own _ rfl _ _ 22 rfl w1.heap.size 5 _ (.int .u8 0) 1 1 Try.underlying22 rfl rfl rfl rfl rfl (by decide) _ _ _ rfl (O3'.out.alloc _) _ 1 1 [.int .u8 (A k)] rfl rfl (one_src' _ _ _ _ rfl) (oneVal _ rfl) (by unfold maxLen; omega) (by omega) (by have := W3.out; simp; omega) ?_) | go_in)
        intro v' w4 hown hgrow hnil
        obtain ⟨g4, d4, rfl, O4, B4⟩ := own_open hown (by simp) (by simpa using hnil) ((B3'.out.alloc W3.out _).grown hgrow (by have := W3.out; simp; omega) (by intro q hq; simp [Value.ownBlock] at hq; omega))
        have hX4 : xs3 ++ [Value.int .u8 (A k)] = packV N A n (k + 1) := by
          rw [HST.out, ← HX3.out, ← HX2.out, symV]
          simp only [List.append_assoc]
        rw [hX4] at O4 ⊢
        have H4 := hidden (And.intro O4 B4)
        clear hown hgrow hnil c1 O3' B3' G3 W3 O4 B4 hX4 HX2 HX3 HST T1
        generalize hX5 : packV N A n (k + 1) = xs5 at *
        have HX5 := hidden hX5
        clear hX5
        go_wp2
        exact ⟨⟨k + 1, g4, d4, by omega, by go_num, by rw [HX5.out], by rw [HX5.out]; exact H4⟩, by simp [intOf]; omega⟩
      · obtain rfl : n = k := by omega
        have hR := R.out.blk
        have hgb := HI.out.1.base
        have R2 := hidden (R.out.keep HI.out.2)
        have B2 := hidden (keepB B.out HI.out.2)
        have hgw : w.heap.size ≤ g := by have := B.out.size; omega
        obtain ⟨_, q0, q1, f0, f1⟩ := id R2.out
        generalize hxs : packV N A n n = xs at *
        have HX := hidden hxs
        clear hxs
        go_wp2
        refine bodyPost_ret (v := .agg #[.int .i64 0, .slice (some ⟨g, 0, none⟩) xs.length d]) (by simp [results, Try.results9, go_sem, q0, q1]) rfl ⟨Or.inr ⟨HF.out, g, d, by rw [HX.out], ?_⟩, (B2.out.setCell (by simp) _).setCell (by simp) _⟩
        rw [HX.out]
        exact ((HI.out.1.other _ _ (by simp; omega)).other _ _ (by simp; omega)).lower hgw
  · have HF := hidden hf
    have hf' : (faultF n N A != 0) = true := by simpa using hf
    obtain ⟨_, q0, q1, f0, f1⟩ := id R.out
    generalize hz : faultF n N A = z at *
    have HZ := hidden hz
    clear hf hz
    go_wp2
    exact bodyPost_ret (v := .agg #[.int .i64 z, .slice none 0 0]) (by simp [results, Try.results9, go_sem, q0, q1]) rfl ⟨Or.inl ⟨by rw [HZ.out]; exact HF.out, by rw [HZ.out]⟩, (B.out.setCell (by simp) _).setCell (by simp) _⟩

end Go.Proofs.Ythgoclbgepfjmaa
