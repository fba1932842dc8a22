/- Contracts: a symbol is raised, as the model and as the program does it. -/
import Derived.Test.YthgoclbgepfjmaaMark
import Derived.Test.YthgoclbgepfjmaaOrdMath
import Derived.OwnWalk
import Derived.Lib.Slices
namespace Go.Proofs.Ythgoclbgepfjmaa
open Go.RowKit

def valsI (L : Nat → Int) (n : Nat) : List Value := (List.range n).map (fun i => Value.int .i64 (L i))

theorem intNews (L : Nat → Int) (n : Nat) : ∀ u ∈ valsI L n, u.oneCell' = true := by
  intro u hu
  obtain ⟨x, _, rfl⟩ := List.mem_map.1 hu
  rfl

theorem valsI_at (L : Nat → Int) (n i : Nat) (h : i < n) : (valsI L n)[i]? = some (.int .i64 (L i)) := by simp [valsI, h]

theorem Ints.src {w : World} {b off n : Nat} {L : Nat → Int} (h : Ints w b off n L) (o : Obj) : ∀ (j : Nat) (u : Value), (valsI L n)[j]? = some u → (w.alloc o).cell? ((⟨b, off, none⟩ : Addr).add j) = some u := by
  intro j u hj
  have hjn : j < n := by
    have := (List.getElem?_eq_some_iff.1 hj).1
    simpa [valsI] using this
  have e : (⟨b, off, none⟩ : Addr).add j = ⟨b, off + j, none⟩ := by unfold Addr.add; split <;> simp_all
  rw [valsI_at L n j hjn] at hj
  rw [e, ← hj]
  exact keepCell (h.cell j hjn) o

set_option maxRecDepth 20000 in
set_option maxHeartbeats 800000 in
theorem clone_any (b off n c : Nat) (L : Nat → Int) (w : World) (h : Ints w b off n L) (hm : n ≤ 1048576) :
    Calls Try.prog 60 #[.slice (some ⟨b, off, none⟩) n c] w fun e w' => ∃ g d, e = .returned (.slice (some ⟨g, 0, none⟩) n d) ∧ w.heap.size ≤ g ∧ OwnI w' w.heap.size g n d L n ∧ Below w.heap.size w w' := by
  have HC := hidden h
  have q48 : ∀ (w : World) (a : Option Addr) (n c n' c' : Nat), (binOp .eql 44 (.slice a n c) (.slice none n' c')).run Try.prog w = .ok (.bool a.isNone) w := fun w a n c n' c' => Lib.run_eql_slice_nil w _ _ a n c n' c' Try.underlying44
  clear h
  go_enter Try.func60, Try.ntmps60
  go_wp2_with (at_builtin; refine wpList_append_own _ rfl _ _ 44 rfl w.heap.size 2 _ (.int .i64 0) 1 8 Try.underlying44 rfl rfl rfl rfl rfl (by decide) _ _ _ rfl (World.ownsRow_made w #[] 0 (Nat.le_refl _) (Nat.zero_le _) rfl) ⟨b, off, none⟩ n c (valsI L n) rfl ?qc1 (HC.out.src _) (intNews L n) ?qc4 ?qc5 ?qc6 ?_)
  case qc1 => simp [valsI]
  case qc4 => unfold maxLen; omega
  case qc5 => omega
  case qc6 => simp
  intro v' w1 hown hgrow hnil
  go_wp2
  go_ret
  rcases hown.2 with ⟨hv, _⟩ | ⟨g, d, cur, hv, hg, _⟩
  · exact absurd hv hnil
  · subst hv
    refine ⟨g, d, rfl, hg, ⟨_, hown, fun i hi => valsI_at L n i hi⟩, ?_⟩
    exact ((Below.refl _ w).alloc (Nat.le_refl _) _).grown hgrow (by simp) (by intro k hk; simp [Value.ownBlock] at hk; omega)

set_option maxRecDepth 20000 in
set_option maxHeartbeats 800000 in
theorem l1Ints_any (b off n c : Nat) (L : Nat → Int) (w : World) (h : Ints w b off n L) (hm : n ≤ 1048576) :
    Calls Try.prog 63 #[.slice (some ⟨b, off, none⟩) n c] w fun e w' => ∃ g d, e = .returned (.slice (some ⟨g, 0, none⟩) n d) ∧ w.heap.size ≤ g ∧ OwnI w' w.heap.size g n d L n ∧ Below w.heap.size w w' := by
  have HC := hidden h
  clear h
  go_enter Try.func63, Try.ntmps63
  go_wp2_with (at_builtin; refine wpList_append_own _ rfl _ _ 44 rfl w.heap.size 2 _ (.int .i64 0) 1 8 Try.underlying44 rfl rfl rfl rfl rfl (by decide) _ _ _ rfl (World.ownsRow_made w #[] 0 (Nat.le_refl _) (Nat.zero_le _) rfl) ⟨b, off, none⟩ n c (valsI L n) rfl ?qc1 (HC.out.src _) (intNews L n) ?qc4 ?qc5 ?qc6 ?_)
  case qc1 => simp [valsI]
  case qc4 => unfold maxLen; omega
  case qc5 => omega
  case qc6 => simp
  intro v' w1 hown hgrow hnil
  go_wp2
  go_ret
  rcases hown.2 with ⟨hv, _⟩ | ⟨g, d, cur, hv, hg, _⟩
  · exact absurd hv hnil
  · subst hv
    refine ⟨g, d, rfl, hg, ⟨_, hown, fun i hi => valsI_at L n i hi⟩, ?_⟩
    exact ((Below.refl _ w).alloc (Nat.le_refl _) _).grown hgrow (by simp) (by intro k hk; simp [Value.ownBlock] at hk; omega)

theorem OwnI.store {w : World} {B g n c : Nat} {L : Nat → Int} (h : OwnI w B g n c L n) {i : Nat} (hi : i < n) (x : Int) :
    w.cell? ⟨g, i, none⟩ = some (.int .i64 (L i)) ∧ w.frozen? ⟨g, i, none⟩ = false ∧ OwnI (w.setCell ⟨g, i, none⟩ (.int .i64 x)) B g n c (upd L i x) n ∧ w.grownBy (w.setCell ⟨g, i, none⟩ (.int .i64 x)) (some g) := by
  obtain ⟨xs, ho, hx⟩ := h
  obtain ⟨o1, g1⟩ := ho.stored i (.int .i64 x)
  have hl : xs.length = n * 1 := ho.1
  refine ⟨(ho.cellAt i (by omega)).trans (hx i hi), ho.frozenAt _, ⟨_, o1, fun j hj => ?_⟩, g1⟩
  by_cases e : j = i
  · subst e; rw [List.getElem?_set_self (by omega)]; simp [upd]
  · rw [List.getElem?_set_ne (by omega), hx j hj]; simp [upd, e]

theorem OwnI.other {w : World} {B g n c : Nat} {L : Nat → Int} {k : Nat} (h : OwnI w B g n c L k) (a : Addr) (u : Value) (hg : g ≠ a.block) : OwnI (w.setCell a u) B g n c L k := by
  obtain ⟨xs, ho, hx⟩ := h
  refine ⟨xs, ⟨ho.1, ho.2.imp id ?_⟩, hx⟩
  rintro ⟨g', cap, cur, h1, h2, h3, h4⟩
  have e : g' = g := by simp at h1; exact h1.1.symm
  subst e
  exact ⟨g', cap, cur, h1, h2, by rw [Below.heap_setCell _ _ _ _ hg]; exact h3, h4⟩

theorem OwnI.base {w : World} {B B' g n c : Nat} {L : Nat → Int} {k : Nat} (h : OwnI w B g n c L k) (hB : B' ≤ g) : OwnI w B' g n c L k := by
  obtain ⟨xs, ho, hx⟩ := h
  refine ⟨xs, ⟨ho.1, ho.2.imp id ?_⟩, hx⟩
  rintro ⟨g', cap, cur, h1, h2, h3, h4⟩
  have e : g' = g := by simp at h1; exact h1.1.symm
  subst e
  exact ⟨g', cap, cur, h1, hB, h3, h4⟩

/-- What RaiseSymbol answers: its code. -/
noncomputable def raC (n : Nat) (N : Nat → ByteArray) (A : Nat → Int) (m : Nat) (L : Nat → Int) (x : Int) : Int := if rkC n N A m L x = 0 then (if rkF m L x + 1 = m then 4 else 0) else rkC n N A m L x

section
variable {n : Nat} {N : Nat → ByteArray} {A : Nat → Int} {m : Nat} {L : Nat → Int} {x : Int}
theorem ra_fault (h : orderF n N A m L ≠ 0) : raC n N A m L x = orderF n N A m L := by
  have h1 := (rk_fault (x := x) h).1
  rw [raC, h1, if_neg h]
theorem ra_range (h : orderF n N A m L = 0) (hx : inB x n = false) : raC n N A m L x = 3 := by
  have h1 := (rk_range h hx).1
  rw [raC, h1, if_neg (by decide)]
theorem ra_last (h : orderF n N A m L = 0) (hx : inB x n = true) (hr : rkF m L x + 1 = m) : raC n N A m L x = 4 := by
  have h1 := (rk_ok h hx).1
  rw [raC, h1, if_pos rfl, if_pos hr]
theorem ra_ok (h : orderF n N A m L = 0) (hx : inB x n = true) (hr : ¬ rkF m L x + 1 = m) : raC n N A m L x = 0 := by
  have h1 := (rk_ok h hx).1
  rw [raC, h1, if_pos rfl, if_neg hr]
end

theorem Res.grown {w w' : World} {b g : Nat} {x y : Value} (h : Res w b x y) (hg : w.grownBy w' (some g)) (hne : b ≠ g) : Res w' b x y := by
  have hb := hg.block b h.blk (by simpa using hne)
  exact ⟨Nat.lt_of_lt_of_le h.blk hg.size, (World.cell?_of_block (w := w) hb).trans h.c0, (World.cell?_of_block (w := w) hb).trans h.c1, (World.frozen?_of_block (w := w) hb).trans h.f0, (World.frozen?_of_block (w := w) hb).trans h.f1⟩

/-- The answer of a raise: a code and nothing, or 0 and a list of its own. -/
def RaiseAns (w : World) (n : Nat) (N : Nat → ByteArray) (A : Nat → Int) (m : Nat) (L : Nat → Int) (x : Int) (e : Ending) (w' : World) : Prop :=
  (raC n N A m L x ≠ 0 ∧ e = .returned (.agg #[.int .i64 (raC n N A m L x), .slice none 0 0])) ∨
  (raC n N A m L x = 0 ∧ ∃ i g d, rkF m L x = (i : Nat) ∧ i + 1 < m ∧ m ≤ 6 ∧ e = .returned (.agg #[.int .i64 0, .slice (some ⟨g, 0, none⟩) m d]) ∧ w.heap.size ≤ g ∧ OwnI w' w.heap.size g m d (raised L i) m)

set_option maxRecDepth 20000 in
set_option maxHeartbeats 1600000 in
theorem specRaise_any (b off n c b' off' m c' : Nat) (N : Nat → ByteArray) (A L : Nat → Int) (x : Int) (w : World) (h : Syms w b off n N A) (h' : Ints w b' off' m L) (hk : Kept n N A) (hm : m ≤ 1048576) :
    Calls Try.prog 22 #[.agg #[.slice (some ⟨b, off, none⟩) n c], .slice (some ⟨b', off', none⟩) m c', .int .i64 x] w fun e w' => RaiseAns w n N A m L x e w' ∧ Below w.heap.size w w' := by
  have D := hidden ((One.new w (.slice (some ⟨b, off, none⟩) n c) 26).keep (alloc_below _ (.cells #[.int .i64 0, .slice none 0 0] 48)))
  have R := hidden (Res.new (w.alloc (.cells #[.slice (some ⟨b, off, none⟩) n c] 26)) (.int .i64 0) (.slice none 0 0) 48)
  have B := hidden (keepB (alloc_below w (.cells #[.slice (some ⟨b, off, none⟩) n c] 26)) (alloc_below _ (.cells #[.int .i64 0, .slice none 0 0] 48)))
  have Q := hidden (h.keep B.out)
  have I := hidden (h'.keep B.out)
  have HK := hidden hk
  rw [World.size_alloc] at R
  clear h h' hk
  go_enter Try.func22, Try.ntmps22
  go_wp2_with fail
  refine (specOrder_any _ _ _ _ _ _ _ _ N A L _ Q.out I.out HK.out).mono ?_
  rintro e w1 ⟨rfl, hb⟩
  replace D := hidden (D.out.keep hb)
  replace R := hidden (R.out.keep hb)
  replace B := hidden (keepB B.out hb)
  replace I := hidden (I.out.keep hb)
  clear hb Q
  by_cases hf : orderF n N A m L = 0
  · have HF := hidden hf
    rw [hf]
    clear hf
    go_wp2_with fail
    refine (l2Symbol_any _ _ _ _ _ _ D.out HK.out.most).mono ?_
    rintro e w2 ⟨rfl, hb⟩
    replace R := hidden (R.out.keep hb)
    replace B := hidden (keepB B.out hb)
    replace I := hidden (I.out.keep hb)
    clear hb D
    generalize hx : inB x n = ib
    cases ib
    · have HA := hidden (ra_range HF.out hx)
      clear hx
      obtain ⟨_, q0, q1, f0, f1⟩ := id R.out
      go_wp2
      exact bodyPost_ret (v := .agg #[.int .i64 3, .slice none 0 0]) (by simp [results, Try.results22, go_sem, q0, q1]) rfl ⟨Or.inl ⟨by rw [HA.out]; decide, by rw [HA.out]⟩, (B.out.setCell (by simp) _).setCell (by simp) _⟩
    · obtain ⟨i, hi, hLi, hrk⟩ := rank_at HF.out hx
      have h6 : m ≤ 6 := by have := order_ok HF.out; omega
      have HX := hidden hx
      clear hx
      go_wp2_with fail
      refine (l2Rank_any _ _ _ _ L x _ I.out hm).mono ?_
      rintro e w3 ⟨rfl, hb⟩
      replace R := hidden (R.out.keep hb)
      replace B := hidden (keepB B.out hb)
      replace I := hidden (I.out.keep hb)
      have HRK := hidden hrk
      rw [hrk]
      clear hb hrk
      by_cases hl : i + 1 = m
      · have HA := hidden (ra_last HF.out HX.out (by rw [HRK.out]; omega))
        obtain ⟨_, q0, q1, f0, f1⟩ := id R.out
        have hl' : (i : Int) = (m : Int) - 1 := by omega
        have hl2 : ((i : Int) == (m : Int) - 1) = true := by simpa using hl'
        clear hl hl'
        go_wp2
        exact bodyPost_ret (v := .agg #[.int .i64 4, .slice none 0 0]) (by simp [results, Try.results22, go_sem, q0, q1]) rfl ⟨Or.inl ⟨by rw [HA.out]; decide, by rw [HA.out]⟩, (B.out.setCell (by simp) _).setCell (by simp) _⟩
      · have HA := hidden (ra_ok HF.out HX.out (by rw [HRK.out]; omega))
        have hl2 : ((i : Int) == (m : Int) - 1) = false := by rw [beq_eq_false_iff_ne]; omega
        have hi1 : i + 1 < m := by omega
        clear hl
        go_wp2_with fail
        refine (l1Ints_any _ _ _ _ L _ I.out hm).mono ?_
        rintro e w4 ⟨g, d, rfl, hg, ho, hb⟩
        have hR := R.out.blk
        replace R := hidden (R.out.keep hb)
        replace B := hidden (keepB B.out hb)
        replace I := hidden (I.out.keep hb)
        obtain ⟨_, f5, o5, g5⟩ := ho.store hi (L (i + 1))
        obtain ⟨c6, f6, o6, g6⟩ := o5.store hi1 x
        obtain ⟨c5, _, _, _⟩ := ho.store hi 0
        have R6 := (R.out.grown g5 (by omega)).grown g6 (by omega)
        obtain ⟨_, q0, q1, f0, f1⟩ := id R6
        have c7 := I.out.cell (i + 1) hi1
        have O6 := hidden o6
        have B6 := hidden ((B.out.setCell (p := ⟨g, i, none⟩) (by have := B.out.size; simp; omega) (.int .i64 (L (i + 1)))).setCell (p := ⟨g, i + 1, none⟩) (by have := B.out.size; simp; omega) (.int .i64 x))
        clear hb ho o5 g5 o6 g6 R6
        go_wp2
        refine bodyPost_ret (v := .agg #[.int .i64 0, .slice (some ⟨g, 0, none⟩) m d]) (by simp [results, Try.results22, go_sem, q0, q1]) rfl ⟨Or.inr ⟨HA.out, i, g, d, HRK.out, hi1, h6, rfl, ?_, ?_⟩, (B6.out.setCell (by simp) _).setCell (by simp) _⟩
        · have := B.out.size; omega
        · rw [raised, hLi]
          exact ((O6.out.other _ _ (by simp; omega)).other _ _ (by simp; omega)).base (by omega)
  · have HA := hidden (ra_fault (x := x) hf)
    have hf' : (orderF n N A m L != 0) = true := by simpa using hf
    have HF := hidden hf
    obtain ⟨_, q0, q1, f0, f1⟩ := id R.out
    generalize orderF n N A m L = z at *
    clear hf
    go_wp2
    exact bodyPost_ret (v := .agg #[.int .i64 z, .slice none 0 0]) (by simp [results, Try.results22, go_sem, q0, q1]) rfl ⟨Or.inl ⟨by rw [HA.out]; exact HF.out, by rw [HA.out]⟩, (B.out.setCell (by simp) _).setCell (by simp) _⟩

set_option maxRecDepth 20000 in
set_option maxHeartbeats 1600000 in
theorem implRaise_any (b off n c b' off' m c' : Nat) (N : Nat → ByteArray) (A L : Nat → Int) (x : Int) (w : World) (h : Syms w b off n N A) (h' : Ints w b' off' m L) (hk : Kept n N A) (hm : m ≤ 1048576) :
    Calls Try.prog 21 #[.agg #[.slice (some ⟨b, off, none⟩) n c], .slice (some ⟨b', off', none⟩) m c', .int .i64 x] w fun e w' => RaiseAns w n N A m L x e w' ∧ Below w.heap.size w w' := by
  have R := hidden (Res.new (w.alloc (.cells #[.slice (some ⟨b, off, none⟩) n c] 26)) (.int .i64 0) (.slice none 0 0) 48)
  have B := hidden (keepB (alloc_below w (.cells #[.slice (some ⟨b, off, none⟩) n c] 26)) (alloc_below _ (.cells #[.int .i64 0, .slice none 0 0] 48)))
  have Q := hidden (h.keep B.out)
  have I := hidden (h'.keep B.out)
  have HK := hidden hk
  rw [World.size_alloc] at R
  clear h h' hk
  go_enter Try.func21, Try.ntmps21
  go_wp2_with fail
  refine (implRank_any _ _ _ _ _ _ _ _ N A L x _ Q.out I.out HK.out hm).mono ?_
  rintro e w1 ⟨rfl, hb⟩
  replace hb := keepB hb (alloc_below _ (.cells #[.int .i64 (rkC n N A m L x), .int .i64 (rkV n N A m L x)] 38))
  replace R := hidden (R.out.keep hb)
  replace B := hidden (keepB B.out hb)
  replace I := hidden (I.out.keep hb)
  clear hb Q
  by_cases hf : rkC n N A m L x = 0
  · have ho : orderF n N A m L = 0 := by
      refine Classical.byContradiction fun h => ?_
      rw [(rk_fault h).1] at hf; exact h hf
    have hx : inB x n = true := by
      cases hb : inB x n
      · rw [(rk_range ho hb).1] at hf; omega
      · rfl
    obtain ⟨i, hi, hLi, hrk⟩ := rank_at ho hx
    have h6 : m ≤ 6 := by have := order_ok ho; omega
    have hV : rkV n N A m L x = (i : Int) := by rw [(rk_ok ho hx).2, hrk]
    have V := hidden (Two.new w1 (.int .i64 0) (.int .i64 (i : Int)) 38)
    rw [hV, hf] at R B I ⊢
    have HO := hidden ho
    have HX := hidden hx
    have HRK := hidden hrk
    clear hf hV hrk ho hx
    by_cases hl : i + 1 = m
    · have HA := hidden (ra_last HO.out HX.out (by rw [HRK.out]; omega))
      obtain ⟨_, q0, q1, f0, f1⟩ := id R.out
      obtain ⟨_, v0, v1⟩ := id V.out
      have hl2 : ((i : Int) + 1 == (m : Int)) = true := by rw [beq_iff_eq]; omega
      clear hl
      go_wp2
      exact bodyPost_ret (v := .agg #[.int .i64 4, .slice none 0 0]) (by simp [results, Try.results21, go_sem, q0, q1]) rfl ⟨Or.inl ⟨by rw [HA.out]; decide, by rw [HA.out]⟩, (B.out.setCell (by simp) _).setCell (by simp) _⟩
    · have HA := hidden (ra_ok HO.out HX.out (by rw [HRK.out]; omega))
      have hl2 : ((i : Int) + 1 == (m : Int)) = false := by rw [beq_eq_false_iff_ne]; omega
      have hi1 : i + 1 < m := by omega
      obtain ⟨_, v0, v1⟩ := id V.out
      clear hl
      go_wp2_with fail
      refine (clone_any _ _ _ _ L _ I.out hm).mono ?_
      rintro e w4 ⟨g, d, rfl, hg, ho, hb⟩
      have hR := R.out.blk
      have hV0 := V.out.blk
      replace R := hidden (R.out.keep hb)
      replace B := hidden (keepB B.out hb)
      replace V := hidden (V.out.keep hb)
      clear v0 v1
      obtain ⟨_, v0, v1⟩ := id V.out
      obtain ⟨c5, f5, o5, g5⟩ := ho.store hi (L (i + 1))
      obtain ⟨c6, f6, o6, g6⟩ := o5.store hi1 x
      obtain ⟨c7, _, _, _⟩ := ho.store hi1 0
      have R6 := (R.out.grown g5 (by omega)).grown g6 (by omega)
      obtain ⟨_, q0, q1, f0, f1⟩ := id R6
      have O6 := hidden o6
      have B6 := hidden ((B.out.setCell (p := ⟨g, i, none⟩) (by have := B.out.size; simp; omega) (.int .i64 (L (i + 1)))).setCell (p := ⟨g, i + 1, none⟩) (by have := B.out.size; simp; omega) (.int .i64 x))
      clear hb ho o5 g5 o6 g6 R6
      go_wp2
      go_big_region
      have hgw : w.heap.size ≤ g := by have := B.out.size; omega
      go_wp2
      refine bodyPost_ret (v := .agg #[.int .i64 0, .slice (some ⟨g, 0, none⟩) m d]) (by simp [results, Try.results21, go_sem, q0, q1]) rfl ⟨Or.inr ⟨HA.out, i, g, d, HRK.out, hi1, h6, rfl, hgw, ?_⟩, (B6.out.drew.setCell (by simp) _).setCell (by simp) _⟩
      rw [raised, hLi]
      exact (((O6.out.keep (Below.refl _ _).drew).other _ _ (by simp; omega)).other _ _ (by simp; omega)).base hgw
  · have HA := hidden (show raC n N A m L x = rkC n N A m L x by rw [raC, if_neg hf])
    have hf' : (rkC n N A m L x != 0) = true := by simpa using hf
    have HF := hidden hf
    obtain ⟨_, q0, q1, f0, f1⟩ := id R.out
    obtain ⟨_, v0, v1⟩ := Two.new w1 (.int .i64 (rkC n N A m L x)) (.int .i64 (rkV n N A m L x)) 38
    generalize rkC n N A m L x = z at *
    generalize rkV n N A m L x = zv at *
    clear hf
    go_wp2
    exact bodyPost_ret (v := .agg #[.int .i64 z, .slice none 0 0]) (by simp [results, Try.results21, go_sem, q0, q1]) rfl ⟨Or.inl ⟨by rw [HA.out]; exact HF.out, by rw [HA.out]⟩, (B.out.setCell (by simp) _).setCell (by simp) _⟩

end Go.Proofs.Ythgoclbgepfjmaa
