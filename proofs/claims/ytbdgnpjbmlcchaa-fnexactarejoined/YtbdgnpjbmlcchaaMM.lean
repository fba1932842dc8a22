/- Several texts as one: WiM, With, MatI, MatJ, MatS. -/
import Derived.Test.YtbdgnpjbmlcchaaMB
import Derived.Test.YtbdgnpjbmlcchaaMch
import Derived.Deep.RegionHeld3
import Derived.Test.YtbdgnpjbmlcchaaSameT
/- Plain facts: one variable more in the one way to tell what stands for variables: where it comes. -/
namespace Go.Proofs.Ytbdgnpjbmlcchaa
open Go.RowKit

/-- The j-th variable for which something stands. -/
def cV (M : Nat → List Int) (j : Nat) : Int := (cnL M 12).getD j 0
def cR (M : Nat → List Int) : Nat := (cnL M 12).length

theorem cR_le (M : Nat → List Int) : cR M ≤ 12 := cnL_len M 12

theorem cnL_pair (M : Nat → List Int) (k : Nat) : (cnL M k).Pairwise (· < ·) := by
  unfold cnL flt
  rw [List.pairwise_map]
  refine (List.Pairwise.filter _ (List.pairwise_lt_range' (s := 0) (n := k))).imp ?_
  intro a b h
  omega

theorem cV_get {M : Nat → List Int} {j : Nat} (hj : j < cR M) : ∃ x : Nat, cV M j = x ∧ x < 12 ∧ M x ≠ [] := by
  have hm : cV M j ∈ cnL M 12 := by
    unfold cV cR at *
    rw [List.getD_eq_getElem?_getD, List.getElem?_eq_getElem hj]; exact List.getElem_mem hj
  exact cnL_mem.1 hm

theorem cV_inc {M : Nat → List Int} {i j : Nat} (hij : i < j) (hj : j < cR M) : cV M i < cV M j := by
  have h := List.pairwise_iff_getElem.1 (cnL_pair M 12) i j (by unfold cR at hj; omega) hj hij
  unfold cV
  rw [List.getD_eq_getElem?_getD, List.getD_eq_getElem?_getD, List.getElem?_eq_getElem hj, List.getElem?_eq_getElem (by unfold cR at hj; omega)]
  exact h

theorem cV_all {M : Nat → List Int} {x : Nat} (hx : x < 12) (h : M x ≠ []) : ∃ j, j < cR M ∧ cV M j = x := by
  have hm : (x : Int) ∈ cnL M 12 := cnL_mem.2 ⟨x, rfl, hx, h⟩
  obtain ⟨j, hj, e⟩ := List.getElem_of_mem hm
  refine ⟨j, hj, ?_⟩
  unfold cV
  rw [List.getD_eq_getElem?_getD, List.getElem?_eq_getElem hj]
  exact e

/-- What is so while the variables go over: i of them are over, all below K are told; d: the new one is. -/
structure WiI (M : Nat → List Int) (v i K : Nat) (d : Bool) : Prop where
  top : K ≤ 12
  ahead : ∀ j, i ≤ j → j < cR M → (K : Int) ≤ cV M j
  rest : ∀ x : Nat, K ≤ x → x < 12 → M x ≠ [] → ∃ j, i ≤ j ∧ j < cR M ∧ cV M j = x
  side : (d = false ∧ K ≤ v) ∨ (d = true ∧ v < K)

section
variable {M : Nat → List Int} {v i K x : Nat} {d : Bool} {t : List Int}

theorem WiI.start (M : Nat → List Int) (v : Nat) : WiI M v 0 0 false :=
  ⟨by omega, fun j _ hj => by obtain ⟨x, e, _⟩ := cV_get hj; omega, fun x _ hx h => by obtain ⟨j, hj, e⟩ := cV_all hx h; exact ⟨j, by omega, hj, e⟩, Or.inl ⟨rfl, by omega⟩⟩

theorem hasU_ne {y : Nat} (hy : y ≠ v) (h : M y = []) : hasB (updM M v t) y = false := by
  unfold hasB updM; rw [if_neg hy, h]; rfl
theorem hasU_v (ht : t ≠ []) : hasB (updM M v t) v = true := hasB_true.2 (by simp only [updM, if_true]; exact ht)
theorem hasU_x {y : Nat} (hy : y ≠ v) (h : M y ≠ []) : hasB (updM M v t) y = true := hasB_true.2 (by simp only [updM, hy, if_false]; exact h)

theorem WiI.gapv (h : WiI M v i K false) (hv : v < 12) (hi : ∀ j, i ≤ j → j < cR M → (v : Int) < cV M j) : ∀ y, K ≤ y → y < v → hasB (updM M v t) y = false := fun y h1 h2 => by
  refine hasU_ne (by omega) (Classical.byContradiction fun hM => ?_)
  obtain ⟨j, a1, a2, a3⟩ := h.rest y h1 (by omega) hM
  have := hi j a1 a2
  omega

theorem WiI.gapx (h : WiI M v i K d) (hi : i < cR M) (hx : cV M i = x) (hs : d = true ∨ x < v) : ∀ y, K ≤ y → y < x → hasB (updM M v t) y = false := fun y h1 h2 => by
  have hx12 : x < 12 := by obtain ⟨x', e, h12, _⟩ := cV_get hi; omega
  refine hasU_ne ?_ (Classical.byContradiction fun hM => ?_)
  · rcases h.side with ⟨rfl, hk⟩ | ⟨rfl, hk⟩
    · rcases hs with hs | hs
      · cases hs
      · omega
    · omega
  · obtain ⟨j, a1, a2, a3⟩ := h.rest y h1 (by omega) hM
    by_cases e : j = i
    · subst e; omega
    · have := cV_inc (show i < j by omega) a2; omega

theorem WiI.mid (h : WiI M v i K false) (hv : v < 12) (hi : ∀ j, i ≤ j → j < cR M → (v : Int) < cV M j) : WiI M v i (v + 1) true := by
  have hk : K ≤ v := by rcases h.side with ⟨_, hk⟩ | ⟨hh, _⟩
                        · exact hk
                        · cases hh
  exact ⟨by omega, fun j a1 a2 => by have := hi j a1 a2; omega, fun x a1 a2 a3 => h.rest x (by omega) a2 a3, Or.inr ⟨rfl, by omega⟩⟩

theorem WiI.step (h : WiI M v i K d) (hi : i < cR M) (hx : cV M i = x) (hs : d = true ∨ x < v) : WiI M v (i + 1) (x + 1) d := by
  have hx12 : x < 12 := by obtain ⟨x', e, h12, _⟩ := cV_get hi; omega
  have hK := h.ahead i (Nat.le_refl _) hi
  refine ⟨by omega, fun j a1 a2 => ?_, fun y a1 a2 a3 => ?_, ?_⟩
  · have := cV_inc (show i < j by omega) a2; omega
  · obtain ⟨j, c1, c2, c3⟩ := h.rest y (by omega) a2 a3
    refine ⟨j, ?_, c2, c3⟩
    by_cases e : j = i
    · subst e; omega
    · omega
  · rcases h.side with ⟨rfl, hk⟩ | ⟨rfl, hk⟩
    · rcases hs with hs | hs
      · cases hs
      · exact Or.inl ⟨rfl, by omega⟩
    · exact Or.inr ⟨rfl, by omega⟩

theorem WiI.gape (h : WiI M v (cR M) K true) : ∀ y, K ≤ y → y < 12 → hasB (updM M v t) y = false := fun y h1 h2 => by
  have hk : v < K := by rcases h.side with ⟨hh, _⟩ | ⟨_, hk⟩
                        · cases hh
                        · exact hk
  refine hasU_ne (by omega) (Classical.byContradiction fun hM => ?_)
  obtain ⟨j, a1, a2, a3⟩ := h.rest y h1 h2 hM
  omega
end

theorem BySt.skips {w : World} {B X : Nat} {M : Nat → List Int} {va ta : Value} : ∀ (d : Nat) {k u : Nat}, u - k ≤ d → k ≤ u → (∀ y, k ≤ y → y < u → hasB M y = false) → BySt w B X M k va ta → BySt w B X M u va ta
  | 0, k, u, hd, hk, _, h => by obtain rfl : k = u := by omega
                                exact h
  | d + 1, k, u, hd, hk, hn, h => by
    by_cases e : k = u
    · subst e; exact h
    · exact BySt.skips d (by omega) (by omega) (fun y h1 h2 => hn y (by omega) h2) (h.skip (hn k (Nat.le_refl _) (by omega)))

/-- A binding that tells M: no variable, or rows of them and of their terms. -/
structure BdAt (w : World) (p1 : Option Addr) (c1 : Nat) (p2 : Option Addr) (c2 : Nat) (M : Nat → List Int) : Prop where
  rows : cR M = 0 ∨ ∃ b1 o1 b2 o2, p1 = some ⟨b1, o1, none⟩ ∧ p2 = some ⟨b2, o2, none⟩ ∧ Ints w b1 o1 (cR M) (cV M) ∧ Mats w b2 o2 (cR M) (cnD M 12)

theorem BdAt.keep {w w' : World} {p1 : Option Addr} {c1 : Nat} {p2 : Option Addr} {c2 : Nat} {M : Nat → List Int} (h : BdAt w p1 c1 p2 c2 M) (hb : Below w.heap.size w w') : BdAt w' p1 c1 p2 c2 M :=
  ⟨h.rows.imp id fun ⟨b1, o1, b2, o2, e1, e2, h1, h2⟩ => ⟨b1, o1, b2, o2, e1, e2, h1.keep hb, h2.keep hb⟩⟩

theorem cnD_m {M : Nat → List Int} {j x : Nat} (h : cV M j = x) : (cnD M 12).m j = (M x).length ∧ (cnD M 12).L j = fun i => (M x).getD i 0 := by
  have h' : (cnL M 12).getD j 0 = (x : Int) := h
  simp only [cnD, h']
  exact ⟨rfl, rfl⟩

end Go.Proofs.Ytbdgnpjbmlcchaa

/- Contract: l6With: a binding that binds one variable more, as the model makes it. -/
namespace Go.Proofs.Ytbdgnpjbmlcchaa
open Go.RowKit

theorem cnU_pos {M : Nat → List Int} {v : Nat} {t : List Int} (hv : v < 12) (ht : t ≠ []) : 0 < (cnL (updM M v t) 12).length :=
  List.length_pos_of_mem (cnL_mem.2 ⟨v, rfl, hv, by simp only [updM, if_true]; exact ht⟩)

theorem BySt.far {w : World} {B X : Nat} {M : Nat → List Int} {k : Nat} {va ta : Value} (h : BySt w B X M k va ta) (a : Addr) (u : Value) (ha : a.block < B) (hx : X ≠ a.block) : BySt (w.setCell a u) B X M k va ta := by
  obtain ⟨xs, G, h1, h2, h3⟩ := h.terms
  refine ⟨h.box.other a u hx, h.low, by simpa using h.top, ownsRow_setX h.vars a u ha, ⟨xs, G, ownsRow_setX h1 a u ha, fun i hi => ?_, h3⟩, h.apart, h.full⟩
  obtain ⟨d, a1, a2, a3, a4, a5, a6⟩ := h2 i hi
  exact ⟨d, a1, a2, a3, a4, a5, a6.other a u (by omega)⟩

theorem OwnI.capW {w : World} {B g k d : Nat} {T : Nat → Int} (h : OwnI w B g k d T k) : k ≤ d := by
  obtain ⟨xs, ho, hx⟩ := h
  rcases ho.2 with ⟨hv, h0⟩ | ⟨g', cap, cur, hv, _, hgg, hc, _⟩
  · omega
  · injection hv with h1 h2 h3; omega

set_option maxRecDepth 20000 in
set_option maxHeartbeats 25600000 in
theorem l6With_any (E : Nat) (p1 : Option Addr) (c1 : Nat) (p2 : Option Addr) (c2 : Nat) (M : Nat → List Int) (v bt ot ct : Nat) (t : List Int) (w : World) (he : Two w E (.slice p1 (cR M) c1) (.slice p2 (cR M) c2)) (hbd : BdAt w p1 c1 p2 c2 M) (hi : Ints w bt ot t.length (fun i => t.getD i 0)) (hv : v < 12) (hM0 : M v = []) (ht : t ≠ []) (hl : ∀ x, (updM M v t x).length ≤ 24) :
    Calls Try.prog 73 #[.pointer (some ⟨E, 0, none⟩), .int .i64 (v : Int), .slice (some ⟨bt, ot, none⟩) t.length ct] w fun e w' => ∃ va ta B X, e = .returned (.agg #[va, ta]) ∧ w.heap.size ≤ X ∧ BySt w' B X (updM M v t) 12 va ta ∧ Below w.heap.size w w' := by
  have hr12 := cR_le M
  have ht24 : t.length ≤ 24 := by have := hl v; simpa [updM] using this
  have b0 := alloc_below w (.cells #[.slice none 0 0, .slice none 0 0] 92)
  have r0 := Own2.new w (.slice none 0 0) (.slice none 0 0) 92
  obtain ⟨wa, hwa⟩ : ∃ wa, wa = w.alloc (.cells #[.slice none 0 0, .slice none 0 0] 92) := ⟨_, rfl⟩
  have sa : wa.heap.size = w.heap.size + 1 := by rw [hwa]; simp
  rw [← hwa] at b0 r0
  have b1 := alloc_below wa (.cells #[.slice none 0 0, .slice none 0 0] 92)
  have r1 := Own2.new wa (.slice none 0 0) (.slice none 0 0) 92
  obtain ⟨wb, hwb⟩ : ∃ wb, wb = wa.alloc (.cells #[.slice none 0 0, .slice none 0 0] 92) := ⟨_, rfl⟩
  have sb : wb.heap.size = w.heap.size + 1 + 1 := by rw [hwb]; simp [sa]
  rw [← hwb] at b1 r1
  rw [sa] at r1
  have R := hidden (r0.keep b1)
  have B := hidden (keepB b0 b1)
  have HS := hidden (BySt.start wb (w.heap.size + 1 + 1) (w.heap.size + 1) (updM M v t) r1 (by omega) (by omega))
  have HE := hidden he
  have HBD := hidden hbd
  have HI := hidden hi
  have HM0 := hidden hM0
  have HT := hidden ht
  have HL := hidden hl
  have SB := hidden sb
  have hw2 : wb = (w.alloc (.cells #[.slice none 0 0, .slice none 0 0] 92)).alloc (.cells #[.slice none 0 0, .slice none 0 0] 92) := by rw [hwb, hwa]
  clear b0 b1 r0 r1 he hbd hi hM0 ht hl sa sb hwb hwa
  go_enter Try.func73, Try.ntmps73
  go_wp2
  rw [← hw2]
  clear hw2 wa
  go_loopw [8, 9] (fun d i wr => ∃ (k K : Nat) (db : Bool) (va ta : Value), k ≤ cR M ∧ i = .int .i64 (k : Nat) ∧ d = .bool db ∧ Hid (WiI M v k K db) ∧ Hid (BySt wr (w.heap.size + 1 + 1) (w.heap.size + 1) (updM M v t) K va ta) ∧ Hid (Own2 wr w.heap.size (.slice none 0 0) (.slice none 0 0)) ∧ Hid (Below w.heap.size w wr)) (fun _ i _ => cR M - (intOf i).toNat)
  case atStart => exact ⟨0, 0, false, _, _, Nat.zero_le _, rfl, rfl, hidden (WiI.start M v), HS, R, B⟩
  case round =>
    clear HS R B SB
    obtain ⟨k, K, db, va, ta, hk, rfl, rfl, HW, BS, HR, HB⟩ := hrel
    by_cases hlt : k < cR M
    · rcases HBD.out.rows with h0 | ⟨b1, o1, b2, o2, rfl, rfl, i1, i2⟩
      · omega
      have I1 := hidden i1
      have I2 := hidden i2
      obtain ⟨x, ex, hx12, hMx⟩ := cV_get hlt
      have HEX := hidden ex
      have HMX := hidden hMx
      have HXV := hidden (show x ≠ v by intro e; rw [e] at hMx; exact hMx HM0.out)
      have d0 := (HE.out.keep HB.out).c0
      have c1v := (i1.keep HB.out).cell k hlt
      rw [ex] at c1v
      clear i1 i2 ex hMx
      cases db with
      | true =>
        have HK := hidden (hasU_x (v := v) (t := t) HXV.out HMX.out)
        have HW2 := hidden (HW.out.step hlt HEX.out (Or.inl rfl))
        replace BS := hidden (BySt.skips _ (Nat.le_refl _) (by have := HW.out.ahead k (Nat.le_refl _) hlt; have := HEX.out; omega) (HW.out.gapx hlt HEX.out (Or.inl rfl)) BS.out)
        clear HW
        obtain ⟨nn, hnn⟩ : ∃ nn, nn = (cnL (updM M v t) x).length := ⟨_, rfl⟩
        have HNN := hidden hnn
        have hnl := cnL_len (updM M v t) x
        rw [← hnn] at hnl
        have O1 := hidden BS.out.vars
        rw [← hnn] at O1
        have HBX := hidden (show w.heap.size ≤ w.heap.size + 1 + 1 by omega)
        clear hnn
        go_wp2
        go_cut [56] (fun _ wc => ∃ va', Hid (MidSt wc (w.heap.size + 1 + 1) (w.heap.size + 1) (updM M v t) x va' ta) ∧ Hid (Below w.heap.size w wc) ∧ Hid (Own2 wc w.heap.size (.slice none 0 0) (.slice none 0 0)))
        case first =>
          have CK := hidden (show ∀ w', Below w.heap.size w w' → (w'.cell? ⟨E, 0, none⟩ = some (.slice (some ⟨b1, o1, none⟩) (cR M) c1) ∧ w'.cell? ⟨b1, o1 + k, none⟩ = some (.int .i64 (x : Int))) from fun w' hb => ⟨(HE.out.keep hb).c0, by have := (I1.out.keep hb).cell k hlt; rw [HEX.out] at this; exact this⟩)
          refine wp_region_held_drew (S := fun wz => wz.cell? ⟨E, 0, none⟩ = some (.slice (some ⟨b1, o1, none⟩) (cR M) c1) ∧ wz.cell? ⟨b1, o1 + k, none⟩ = some (.int .i64 (x : Int))) (by kernel_rfl) (CK.out _ (HB.out.drew)) (fun hHeld => ?_)
          refine wpAnyH_take (i := 0) (oi := { dst := some 46, op := Op.fieldAddr 92 (Operand.tmp 7) 0, type := 0, pos := "l06_bind.go:84", after := #[], guard := none }) (v := ?_) rfl (by kernel_rfl) (by kernel_rfl) (by kernel_rfl) (fun _ _ _ h => h) (Or.inl ⟨by rfl, ?_⟩) (by assumption) ?_
          rotate_left
          · (intro wv hSw; (try dsimp only at hSw); go_simp; try with_reducible rfl)
          try simp only [Act.put, List.setIfInBounds_toArray, List.set_cons_zero, List.set_cons_succ]
          refine wpAnyH_take (i := 2) (oi := { dst := some 48, op := Op.move (Operand.tmp 0), type := 97, pos := "l06_bind.go:84", after := #[], guard := none }) (v := ?_) rfl (by kernel_rfl) (by kernel_rfl) (by kernel_rfl) (fun _ _ _ h => h) (Or.inl ⟨by rfl, ?_⟩) (by assumption) ?_
          rotate_left
          · (intro wv hSw; (try dsimp only at hSw); go_simp; try with_reducible rfl)
          try simp only [Act.put, List.setIfInBounds_toArray, List.set_cons_zero, List.set_cons_succ]
          refine wpAnyH_take (i := 3) (oi := { dst := some 49, op := Op.nilCheck (Operand.tmp 48), type := 0, pos := "l06_bind.go:84", after := #[{ on := 2, ground := Ground.data }], guard := none }) (v := ?_) rfl (by kernel_rfl) (by kernel_rfl) (by kernel_rfl) (fun _ _ _ h => h) (Or.inl ⟨by rfl, ?_⟩) (by assumption) ?_
          rotate_left
          · (intro wv hSw; (try dsimp only at hSw); go_simp; try with_reducible rfl)
          try simp only [Act.put, List.setIfInBounds_toArray, List.set_cons_zero, List.set_cons_succ]
          refine wpAnyH_take (i := 4) (oi := { dst := some 50, op := Op.fieldAddr 92 (Operand.tmp 49) 0, type := 0, pos := "l06_bind.go:84", after := #[{ on := 3, ground := Ground.data }], guard := none }) (v := ?_) rfl (by kernel_rfl) (by kernel_rfl) (by kernel_rfl) (fun _ _ _ h => h) (Or.inl ⟨by rfl, ?_⟩) (by assumption) ?_
          rotate_left
          · (intro wv hSw; (try dsimp only at hSw); go_simp; try with_reducible rfl)
          try simp only [Act.put, List.setIfInBounds_toArray, List.set_cons_zero, List.set_cons_succ]
          refine wpAnyH_take (i := 5) (oi := { dst := some 51, op := Op.load 26 (Operand.tmp 50), type := 26, pos := "l06_bind.go:84", after := #[{ on := 4, ground := Ground.data }], guard := none }) (v := ?_) rfl (by kernel_rfl) (by kernel_rfl) (by kernel_rfl) (fun _ _ _ h => h) (Or.inl ⟨by rfl, ?_⟩) (by assumption) ?_
          rotate_left
          · (intro wv hSw; (try dsimp only at hSw); go_simp; try with_reducible rfl)
          try simp only [Act.put, List.setIfInBounds_toArray, List.set_cons_zero, List.set_cons_succ]
          refine wpAnyH_take (i := 6) (oi := { dst := some 52, op := Op.move (Operand.tmp 9), type := 3, pos := "l06_bind.go:84", after := #[], guard := none }) (v := ?_) rfl (by kernel_rfl) (by kernel_rfl) (by kernel_rfl) (fun _ _ _ h => h) (Or.inl ⟨by rfl, ?_⟩) (by assumption) ?_
          rotate_left
          · (intro wv hSw; (try dsimp only at hSw); go_simp; try with_reducible rfl)
          try simp only [Act.put, List.setIfInBounds_toArray, List.set_cons_zero, List.set_cons_succ]
          refine wpAnyH_take (i := 7) (oi := { dst := some 53, op := Op.indexAddr 26 (Operand.tmp 51) (Operand.tmp 52), type := 0, pos := "l06_bind.go:84", after := #[{ on := 5, ground := Ground.data }, { on := 6, ground := Ground.data }], guard := none }) (v := ?_) rfl (by kernel_rfl) (by kernel_rfl) (by kernel_rfl) (fun _ _ _ h => h) (Or.inl ⟨by rfl, ?_⟩) (by assumption) ?_
          rotate_left
          · (intro wv hSw; (try dsimp only at hSw); go_simp; try with_reducible rfl)
          try simp only [Act.put, List.setIfInBounds_toArray, List.set_cons_zero, List.set_cons_succ]
          refine wpAnyH_take (i := 8) (oi := { dst := some 54, op := Op.load 2 (Operand.tmp 53), type := 2, pos := "l06_bind.go:84", after := #[{ on := 7, ground := Ground.data }], guard := none }) (v := ?_) rfl (by kernel_rfl) (by kernel_rfl) (by kernel_rfl) (fun _ _ _ h => h) (Or.inl ⟨by rfl, ?_⟩) (by assumption) ?_
          rotate_left
          · (intro wv hSw; (try dsimp only at hSw); go_simp; try with_reducible rfl)
          try simp only [Act.put, List.setIfInBounds_toArray, List.set_cons_zero, List.set_cons_succ]
          refine wpAnyH_ready (rs := [1, 9]) (by kernel_rfl) (by simp) ?_
          refine AllReadyH.cons (o := { dst := some 47, op := Op.load 26 (Operand.tmp 46), type := 26, pos := "l06_bind.go:84", after := #[{ on := 0, ground := Ground.data }], guard := none }) rfl (fun K hK => ?_) (AllReadyH.cons (o := { dst := some 55, op := Op.buildSlice 26 1 #[(0, Operand.tmp 54)], type := 26, pos := "l06_bind.go:84", after := #[{ on := 8, ground := Ground.data }], guard := none }) rfl (fun K hK => ?_) AllReadyH.nil)
          · have xl := (BS.out.box.keep (Below.refl wr.heap.size wr).drew).two.c0
            go_simp
            refine hK.out _ _ (CK.out _ (keepB HB.out (Below.refl wr.heap.size wr).drew)) (fun hHeld => ?_)
            clear hK K xl
            try simp only [Act.put, List.setIfInBounds_toArray, List.set_cons_zero, List.set_cons_succ]
            refine wpAnyH_ready (rs := [9]) (by kernel_rfl) (by simp) ?_
            refine AllReadyH.cons (o := { dst := some 55, op := Op.buildSlice 26 1 #[(0, Operand.tmp 54)], type := 26, pos := "l06_bind.go:84", after := #[{ on := 8, ground := Ground.data }], guard := none }) rfl (fun K hK => ?_) AllReadyH.nil
            go_simp
            refine hK.out _ _ (CK.out _ (keepB HB.out (keepB (Below.refl wr.heap.size wr).drew (alloc_below _ (.cells #[.int .i64 (x : Int)] 2))))) (fun hHeld => ?_)
            clear hK K
            try simp only [Act.put, List.setIfInBounds_toArray, List.set_cons_zero, List.set_cons_succ]
            refine wpAnyH_ready (rs := [10]) (by kernel_rfl) (by simp) ?_
            refine AllReadyH.cons (o := { dst := some 56, op := Op.call { callee := Callee.builtin Builtin.append, args := #[Operand.tmp 47, Operand.tmp 55], argTypes := #[26, 26] }, type := 26, pos := "l06_bind.go:84", after := #[{ on := 1, ground := Ground.data }, { on := 9, ground := Ground.data }], guard := none }) rfl (fun K hK => ?_) AllReadyH.nil
            refine step_append_lies _ rfl _ _ 26 rfl (w.heap.size + 1 + 1) 2 _ (.int .i64 0) 1 8 Try.underlying26 rfl rfl rfl rfl rfl (by decide) va nn _ rfl (ownsRow_upon O1.out (keepB (Below.refl wr.heap.size wr).drew (alloc_below _ (.cells #[.int .i64 (x : Int)] 2)))) ⟨wr.drew.heap.size, 0, none⟩ 1 1 [.int .i64 (x : Int)] rfl rfl (one_srcI _ _ _) (oneValI _) (by decide) (by unfold maxLen; omega) (by omega) (by have h1 := BS.out.top; simp; omega) _ rfl ?_
            intro g6 d6 v6 hown hgrow hat hlt6
            have bq := keepB HB.out (keepB (Below.refl wr.heap.size wr).drew (alloc_below _ (.cells #[.int .i64 (x : Int)] 2)))
            have bg := bq.grown hgrow bq.size (fun q hq => Nat.le_trans HBX.out (ownsRow_le O1.out q hq))
            have nX : va.ownBlock ≠ some (w.heap.size + 1) := fun ee => by have := (block_lt O1.out _ ee).1; omega
            have bx := (BS.out.box.keep (keepB (Below.refl wr.heap.size wr).drew (alloc_below _ (.cells #[.int .i64 (x : Int)] 2)))).grownO hgrow nX
            have hr := (HR.out.keep (keepB (Below.refl wr.heap.size wr).drew (alloc_below _ (.cells #[.int .i64 (x : Int)] 2)))).grownO hgrow (fun ee => by have := (block_lt O1.out _ ee).1; omega)
            have y0 := bx.two.c0
            have yf := bx.f0
            refine hK.out _ _ (CK.out _ bg) (fun hHeld => ?_)
            clear hK K
            try simp only [Act.put, List.setIfInBounds_toArray, List.set_cons_zero, List.set_cons_succ]
            refine wpAnyH_ready (rs := [11]) (by kernel_rfl) (by simp) ?_
            refine AllReadyH.cons (o := { dst := some 57, op := Op.fieldAddr 92 (Operand.tmp 7) 0, type := 0, pos := "l06_bind.go:84", after := #[{ on := 0, ground := Ground.phase }, { on := 1, ground := Ground.phase }, { on := 2, ground := Ground.phase }, { on := 3, ground := Ground.phase }, { on := 4, ground := Ground.phase }, { on := 5, ground := Ground.phase }, { on := 6, ground := Ground.phase }, { on := 7, ground := Ground.phase }, { on := 8, ground := Ground.phase }, { on := 9, ground := Ground.phase }, { on := 10, ground := Ground.phase }], guard := none }) rfl (fun K hK => ?_) AllReadyH.nil
            go_simp
            refine hK.out _ _ (CK.out _ bg) (fun hHeld => ?_)
            clear hK K
            try simp only [Act.put, List.setIfInBounds_toArray, List.set_cons_zero, List.set_cons_succ]
            refine wpAnyH_ready (rs := [12]) (by kernel_rfl) (by simp) ?_
            refine AllReadyH.cons (o := { dst := none, op := Op.store 26 (Operand.tmp 57) (Operand.tmp 56), type := 0, pos := "l06_bind.go:84", after := #[{ on := 11, ground := Ground.data }, { on := 10, ground := Ground.data }, { on := 10, ground := Ground.chain }, { on := 0, ground := Ground.phase }, { on := 1, ground := Ground.phase }, { on := 2, ground := Ground.phase }, { on := 3, ground := Ground.phase }, { on := 4, ground := Ground.phase }, { on := 5, ground := Ground.phase }, { on := 6, ground := Ground.phase }, { on := 7, ground := Ground.phase }, { on := 8, ground := Ground.phase }, { on := 9, ground := Ground.phase }, { on := 10, ground := Ground.phase }], guard := none }) rfl (fun K hK => ?_) AllReadyH.nil
            have bs := bg.setCell (p := ⟨w.heap.size + 1, 0, none⟩) (by simp) (.slice (some ⟨g6, 0, none⟩) (nn + 1) d6)
            have hr2 := hr.other ⟨w.heap.size + 1, 0, none⟩ (.slice (some ⟨g6, 0, none⟩) (nn + 1) d6) (by simp)
            go_simp
            refine hK.out _ _ (CK.out _ bs) (fun hHeld => ?_)
            clear hK K
            try simp only [Act.put, List.setIfInBounds_toArray, List.set_cons_zero, List.set_cons_succ]
            rw [HNN.out] at hown
            have FB := BS.out.mid HK.out (keepB (Below.refl wr.heap.size wr).drew (alloc_below _ (.cells #[.int .i64 (x : Int)] 2))) hgrow hown hat
            rw [← HNN.out] at FB
            have FBH := hidden FB
            have BSH := hidden bs
            have HRH := hidden hr2
            clear FB bs hr2 hr bg bq bx nX y0 yf hown hgrow hat hlt6 hHeld
            refine wpAnyH_done (by kernel_rfl) ?_ _
            go_wp2_with fail
            go_meet
            exact ⟨_, FBH, BSH, HRH⟩
          · go_simp
            refine hK.out _ _ (CK.out _ (keepB HB.out (keepB (Below.refl wr.heap.size wr).drew (alloc_below _ (.cells #[.int .i64 (x : Int)] 2))))) (fun hHeld => ?_)
            clear hK K
            try simp only [Act.put, List.setIfInBounds_toArray, List.set_cons_zero, List.set_cons_succ]
            refine wpAnyH_ready (rs := [1]) (by kernel_rfl) (by simp) ?_
            refine AllReadyH.cons (o := { dst := some 47, op := Op.load 26 (Operand.tmp 46), type := 26, pos := "l06_bind.go:84", after := #[{ on := 0, ground := Ground.data }], guard := none }) rfl (fun K hK => ?_) AllReadyH.nil
            have xl0 := (BS.out.box.keep (Below.refl wr.heap.size wr).drew).two.c0
            have hlt0 := (BS.out.box.keep (Below.refl wr.heap.size wr).drew).two.blk
            have xl1 := (BS.out.box.keep (alloc_below wr (.cells #[.int .i64 (x : Int)] 2))).two.c0
            have xl2 := BS.out.box.two.c0
            have hlt1 := BS.out.box.two.blk
            have xl := (BS.out.box.keep (keepB (Below.refl wr.heap.size wr).drew (alloc_below _ (.cells #[.int .i64 (x : Int)] 2)))).two.c0
            go_simp
            refine hK.out _ _ (CK.out _ (keepB HB.out (keepB (Below.refl wr.heap.size wr).drew (alloc_below _ (.cells #[.int .i64 (x : Int)] 2))))) (fun hHeld => ?_)
            clear hK K xl
            try simp only [Act.put, List.setIfInBounds_toArray, List.set_cons_zero, List.set_cons_succ]
            refine wpAnyH_ready (rs := [10]) (by kernel_rfl) (by simp) ?_
            refine AllReadyH.cons (o := { dst := some 56, op := Op.call { callee := Callee.builtin Builtin.append, args := #[Operand.tmp 47, Operand.tmp 55], argTypes := #[26, 26] }, type := 26, pos := "l06_bind.go:84", after := #[{ on := 1, ground := Ground.data }, { on := 9, ground := Ground.data }], guard := none }) rfl (fun K hK => ?_) AllReadyH.nil
            refine step_append_lies _ rfl _ _ 26 rfl (w.heap.size + 1 + 1) 2 _ (.int .i64 0) 1 8 Try.underlying26 rfl rfl rfl rfl rfl (by decide) va nn _ rfl (ownsRow_upon O1.out (keepB (Below.refl wr.heap.size wr).drew (alloc_below _ (.cells #[.int .i64 (x : Int)] 2)))) ⟨wr.drew.heap.size, 0, none⟩ 1 1 [.int .i64 (x : Int)] rfl rfl (one_srcI _ _ _) (oneValI _) (by decide) (by unfold maxLen; omega) (by omega) (by have h1 := BS.out.top; simp; omega) _ rfl ?_
            intro g6 d6 v6 hown hgrow hat hlt6
            have bq := keepB HB.out (keepB (Below.refl wr.heap.size wr).drew (alloc_below _ (.cells #[.int .i64 (x : Int)] 2)))
            have bg := bq.grown hgrow bq.size (fun q hq => Nat.le_trans HBX.out (ownsRow_le O1.out q hq))
            have nX : va.ownBlock ≠ some (w.heap.size + 1) := fun ee => by have := (block_lt O1.out _ ee).1; omega
            have bx := (BS.out.box.keep (keepB (Below.refl wr.heap.size wr).drew (alloc_below _ (.cells #[.int .i64 (x : Int)] 2)))).grownO hgrow nX
            have hr := (HR.out.keep (keepB (Below.refl wr.heap.size wr).drew (alloc_below _ (.cells #[.int .i64 (x : Int)] 2)))).grownO hgrow (fun ee => by have := (block_lt O1.out _ ee).1; omega)
            have y0 := bx.two.c0
            have yf := bx.f0
            refine hK.out _ _ (CK.out _ bg) (fun hHeld => ?_)
            clear hK K
            try simp only [Act.put, List.setIfInBounds_toArray, List.set_cons_zero, List.set_cons_succ]
            refine wpAnyH_ready (rs := [11]) (by kernel_rfl) (by simp) ?_
            refine AllReadyH.cons (o := { dst := some 57, op := Op.fieldAddr 92 (Operand.tmp 7) 0, type := 0, pos := "l06_bind.go:84", after := #[{ on := 0, ground := Ground.phase }, { on := 1, ground := Ground.phase }, { on := 2, ground := Ground.phase }, { on := 3, ground := Ground.phase }, { on := 4, ground := Ground.phase }, { on := 5, ground := Ground.phase }, { on := 6, ground := Ground.phase }, { on := 7, ground := Ground.phase }, { on := 8, ground := Ground.phase }, { on := 9, ground := Ground.phase }, { on := 10, ground := Ground.phase }], guard := none }) rfl (fun K hK => ?_) AllReadyH.nil
            go_simp
            refine hK.out _ _ (CK.out _ bg) (fun hHeld => ?_)
            clear hK K
            try simp only [Act.put, List.setIfInBounds_toArray, List.set_cons_zero, List.set_cons_succ]
            refine wpAnyH_ready (rs := [12]) (by kernel_rfl) (by simp) ?_
            refine AllReadyH.cons (o := { dst := none, op := Op.store 26 (Operand.tmp 57) (Operand.tmp 56), type := 0, pos := "l06_bind.go:84", after := #[{ on := 11, ground := Ground.data }, { on := 10, ground := Ground.data }, { on := 10, ground := Ground.chain }, { on := 0, ground := Ground.phase }, { on := 1, ground := Ground.phase }, { on := 2, ground := Ground.phase }, { on := 3, ground := Ground.phase }, { on := 4, ground := Ground.phase }, { on := 5, ground := Ground.phase }, { on := 6, ground := Ground.phase }, { on := 7, ground := Ground.phase }, { on := 8, ground := Ground.phase }, { on := 9, ground := Ground.phase }, { on := 10, ground := Ground.phase }], guard := none }) rfl (fun K hK => ?_) AllReadyH.nil
            have bs := bg.setCell (p := ⟨w.heap.size + 1, 0, none⟩) (by simp) (.slice (some ⟨g6, 0, none⟩) (nn + 1) d6)
            have hr2 := hr.other ⟨w.heap.size + 1, 0, none⟩ (.slice (some ⟨g6, 0, none⟩) (nn + 1) d6) (by simp)
            go_simp
            refine hK.out _ _ (CK.out _ bs) (fun hHeld => ?_)
            clear hK K
            try simp only [Act.put, List.setIfInBounds_toArray, List.set_cons_zero, List.set_cons_succ]
            rw [HNN.out] at hown
            have FB := BS.out.mid HK.out (keepB (Below.refl wr.heap.size wr).drew (alloc_below _ (.cells #[.int .i64 (x : Int)] 2))) hgrow hown hat
            rw [← HNN.out] at FB
            have FBH := hidden FB
            have BSH := hidden bs
            have HRH := hidden hr2
            clear FB bs hr2 hr bg bq bx nX y0 yf hown hgrow hat hlt6 hHeld
            refine wpAnyH_done (by kernel_rfl) ?_ _
            go_wp2_with fail
            go_meet
            exact ⟨_, FBH, BSH, HRH⟩
        case rest =>
          rename World => W2
          obtain ⟨va2, MS, HB2, HR2⟩ := hcut
          clear HB HR BS O1
          have HB := HB2
          have HR := HR2
          clear HB2 HR2 HNN hnl nn
          clear d0 c1v
          obtain ⟨gx, ox, cx, ex2, ix, hxc⟩ := I2.out.row k hlt
          have IX := hidden ix
          have EX2 := hidden ex2
          have hxm := (cnD_m HEX.out).1
          have HXL := hidden (cnD_m HEX.out).2
          rw [hxm] at ex2 ix hxc
          have HUK := hidden (show (M x).length = ((updM M v t) x).length by simp [updM, HXV.out])
          have HUL := hidden (show (fun i => (M x).getD i 0) = (fun i => ((updM M v t) x).getD i 0) by simp [updM, HXV.out])
          have hx24 : (M x).length ≤ 24 := by have := HL.out x; rw [← HUK.out] at this; exact this
          obtain ⟨lx, hlx⟩ : ∃ lx, lx = (M x).length := ⟨_, rfl⟩
          have hlx24 : lx ≤ 24 := by omega
          have IX3 := hidden (show Ints w gx ox lx (fun i => (M x).getD i 0) by rw [hlx, ← hxm, ← HXL.out]; exact IX.out)
          replace HUK := hidden (show lx = ((updM M v t) x).length by rw [hlx]; exact HUK.out)
          replace EX2 := hidden (show w.cell? ⟨b2, o2 + k, none⟩ = some (.slice (some ⟨gx, ox, none⟩) lx cx) by rw [hlx]; exact ex2)
          have hb2 : b2 < w.heap.size := I2.out.blk (by omega)
          clear ex2 ix hxc hxm hx24 hlx IX HXL
          obtain ⟨nt, hnt⟩ : ∃ nt, nt = (cnL (updM M v t) x).length := ⟨_, rfl⟩
          have HNT := hidden hnt
          have hntl := cnL_len (updM M v t) x
          rw [← hnt] at hntl
          clear hnt
          obtain ⟨xs, G, hx1, hx2, hx3⟩ := MS.out.terms
          rw [← HNT.out] at hx1
          have XO := hidden hx1
          have HX2 := hidden hx2
          have HX3 := hidden hx3
          have HBX := hidden (show w.heap.size ≤ w.heap.size + 1 + 1 by omega)
          clear hx1 hx2 hx3
          have SC := hidden (show ∀ wd, Below W2.heap.size W2 wd → Calls Try.prog 42 #[.slice (some ⟨gx, ox, none⟩) lx cx] wd fun e w' => ∃ g d, e = .returned (.slice (some ⟨g, 0, none⟩) lx d) ∧ Hid (W2.heap.size ≤ g ∧ ((updM M v t) x).length ≤ d ∧ OwnI w' W2.heap.size g ((updM M v t) x).length d (fun i => ((updM M v t) x).getD i 0) ((updM M v t) x).length) ∧ Below W2.heap.size W2 w' from fun wd hd => by
            refine (l1Ints_any _ _ _ _ _ wd (IX3.out.keep (keepB HB.out hd)) (by omega)).mono ?_
            rintro e w' ⟨g, d, rfl, hg, ho, hb⟩
            have hgs := hd.size
            have hcap := ho.capW
            refine ⟨g, d, rfl, hidden ⟨by omega, ?_, ?_⟩, keepB hd hb⟩
            · rw [← HUK.out]; exact hcap
            · rw [← HUK.out, ← HUL.out]; exact ho.base (by omega))
          go_wp2
          have CK := hidden (show ∀ w', Below w.heap.size w w' → (w'.cell? ⟨E, 1, none⟩ = some (.slice (some ⟨b2, o2, none⟩) (cR M) c2) ∧ w'.cell? ⟨b2, o2 + k, none⟩ = some (.slice (some ⟨gx, ox, none⟩) lx cx)) from fun w' hb => ⟨(HE.out.keep hb).c1, (hb.cell (p := ⟨b2, o2 + k, none⟩) hb2).trans EX2.out⟩)
          refine wp_region_held_drew (S := fun wz => wz.cell? ⟨E, 1, none⟩ = some (.slice (some ⟨b2, o2, none⟩) (cR M) c2) ∧ wz.cell? ⟨b2, o2 + k, none⟩ = some (.slice (some ⟨gx, ox, none⟩) lx cx)) (by kernel_rfl) (CK.out _ (HB.out.drew)) (fun hHeld => ?_)
          refine wpAnyH_take (i := 0) (oi := { dst := some 58, op := Op.fieldAddr 92 (Operand.tmp 7) 1, type := 0, pos := "l06_bind.go:85", after := #[], guard := none }) (v := ?_) rfl (by kernel_rfl) (by kernel_rfl) (by kernel_rfl) (fun _ _ _ h => h) (Or.inl ⟨by rfl, ?_⟩) (by assumption) ?_
          rotate_left
          · (intro wv hSw; (try dsimp only at hSw); go_simp; try with_reducible rfl)
          try simp only [Act.put, List.setIfInBounds_toArray, List.set_cons_zero, List.set_cons_succ]
          refine wpAnyH_take (i := 2) (oi := { dst := some 60, op := Op.move (Operand.tmp 0), type := 97, pos := "l06_bind.go:85", after := #[], guard := none }) (v := ?_) rfl (by kernel_rfl) (by kernel_rfl) (by kernel_rfl) (fun _ _ _ h => h) (Or.inl ⟨by rfl, ?_⟩) (by assumption) ?_
          rotate_left
          · (intro wv hSw; (try dsimp only at hSw); go_simp; try with_reducible rfl)
          try simp only [Act.put, List.setIfInBounds_toArray, List.set_cons_zero, List.set_cons_succ]
          refine wpAnyH_take (i := 3) (oi := { dst := some 61, op := Op.nilCheck (Operand.tmp 60), type := 0, pos := "l06_bind.go:85", after := #[{ on := 2, ground := Ground.data }], guard := none }) (v := ?_) rfl (by kernel_rfl) (by kernel_rfl) (by kernel_rfl) (fun _ _ _ h => h) (Or.inl ⟨by rfl, ?_⟩) (by assumption) ?_
          rotate_left
          · (intro wv hSw; (try dsimp only at hSw); go_simp; try with_reducible rfl)
          try simp only [Act.put, List.setIfInBounds_toArray, List.set_cons_zero, List.set_cons_succ]
          refine wpAnyH_take (i := 4) (oi := { dst := some 62, op := Op.fieldAddr 92 (Operand.tmp 61) 1, type := 0, pos := "l06_bind.go:85", after := #[{ on := 3, ground := Ground.data }], guard := none }) (v := ?_) rfl (by kernel_rfl) (by kernel_rfl) (by kernel_rfl) (fun _ _ _ h => h) (Or.inl ⟨by rfl, ?_⟩) (by assumption) ?_
          rotate_left
          · (intro wv hSw; (try dsimp only at hSw); go_simp; try with_reducible rfl)
          try simp only [Act.put, List.setIfInBounds_toArray, List.set_cons_zero, List.set_cons_succ]
          refine wpAnyH_take (i := 5) (oi := { dst := some 63, op := Op.load 90 (Operand.tmp 62), type := 90, pos := "l06_bind.go:85", after := #[{ on := 4, ground := Ground.data }], guard := none }) (v := ?_) rfl (by kernel_rfl) (by kernel_rfl) (by kernel_rfl) (fun _ _ _ h => h) (Or.inl ⟨by rfl, ?_⟩) (by assumption) ?_
          rotate_left
          · (intro wv hSw; (try dsimp only at hSw); go_simp; try with_reducible rfl)
          try simp only [Act.put, List.setIfInBounds_toArray, List.set_cons_zero, List.set_cons_succ]
          refine wpAnyH_take (i := 6) (oi := { dst := some 64, op := Op.move (Operand.tmp 9), type := 3, pos := "l06_bind.go:85", after := #[], guard := none }) (v := ?_) rfl (by kernel_rfl) (by kernel_rfl) (by kernel_rfl) (fun _ _ _ h => h) (Or.inl ⟨by rfl, ?_⟩) (by assumption) ?_
          rotate_left
          · (intro wv hSw; (try dsimp only at hSw); go_simp; try with_reducible rfl)
          try simp only [Act.put, List.setIfInBounds_toArray, List.set_cons_zero, List.set_cons_succ]
          refine wpAnyH_take (i := 7) (oi := { dst := some 65, op := Op.indexAddr 90 (Operand.tmp 63) (Operand.tmp 64), type := 0, pos := "l06_bind.go:85", after := #[{ on := 5, ground := Ground.data }, { on := 6, ground := Ground.data }], guard := none }) (v := ?_) rfl (by kernel_rfl) (by kernel_rfl) (by kernel_rfl) (fun _ _ _ h => h) (Or.inl ⟨by rfl, ?_⟩) (by assumption) ?_
          rotate_left
          · (intro wv hSw; (try dsimp only at hSw); go_simp; try with_reducible rfl)
          try simp only [Act.put, List.setIfInBounds_toArray, List.set_cons_zero, List.set_cons_succ]
          refine wpAnyH_take (i := 8) (oi := { dst := some 66, op := Op.load 26 (Operand.tmp 65), type := 26, pos := "l06_bind.go:85", after := #[{ on := 7, ground := Ground.data }], guard := none }) (v := ?_) rfl (by kernel_rfl) (by kernel_rfl) (by kernel_rfl) (fun _ _ _ h => h) (Or.inl ⟨by rfl, ?_⟩) (by assumption) ?_
          rotate_left
          · (intro wv hSw; (try dsimp only at hSw); go_simp; try with_reducible rfl)
          try simp only [Act.put, List.setIfInBounds_toArray, List.set_cons_zero, List.set_cons_succ]
          refine wpAnyH_ready (rs := [1, 9]) (by kernel_rfl) (by simp) ?_
          refine AllReadyH.cons (o := { dst := some 59, op := Op.load 90 (Operand.tmp 58), type := 90, pos := "l06_bind.go:85", after := #[{ on := 0, ground := Ground.data }], guard := none }) rfl (fun K hK => ?_) (AllReadyH.cons (o := { dst := some 67, op := Op.call { callee := Callee.value (Operand.func 42), args := #[Operand.tmp 66], argTypes := #[26] }, type := 26, pos := "l06_bind.go:85", after := #[{ on := 8, ground := Ground.data }], guard := none }) rfl (fun K hK => ?_) AllReadyH.nil)
          · have xl := (MS.out.box.keep (Below.refl W2.heap.size W2).drew).two.c1
            go_simp
            refine hK.out _ _ (CK.out _ (keepB HB.out (Below.refl W2.heap.size W2).drew)) (fun hHeld => ?_)
            clear hK K xl
            try simp only [Act.put, List.setIfInBounds_toArray, List.set_cons_zero, List.set_cons_succ]
            refine wpAnyH_ready (rs := [9]) (by kernel_rfl) (by simp) ?_
            refine AllReadyH.cons (o := { dst := some 67, op := Op.call { callee := Callee.value (Operand.func 42), args := #[Operand.tmp 66], argTypes := #[26] }, type := 26, pos := "l06_bind.go:85", after := #[{ on := 8, ground := Ground.data }], guard := none }) rfl (fun K hK => ?_) AllReadyH.nil
            go_simp
            go_at_call 42; with_reducible refine (SC.out _ (Below.refl _ _).drew).mono ?_; rintro e v1 ⟨gc, dc, rfl, HGC, bc⟩
            try go_wp2_with fail
            refine hK.out _ _ (CK.out _ (keepB HB.out bc)) (fun hHeld => ?_)
            clear hK K
            try simp only [Act.put, List.setIfInBounds_toArray, List.set_cons_zero, List.set_cons_succ]
            refine wpAnyH_ready (rs := [10]) (by kernel_rfl) (by simp) ?_
            refine AllReadyH.cons (o := { dst := some 68, op := Op.buildSlice 90 1 #[(0, Operand.tmp 67)], type := 90, pos := "l06_bind.go:85", after := #[{ on := 9, ground := Ground.data }], guard := none }) rfl (fun K hK => ?_) AllReadyH.nil
            go_simp
            refine hK.out _ _ (CK.out _ (keepB HB.out (keepB bc (alloc_below _ (.cells #[.slice (some ⟨gc, 0, none⟩) lx dc] 26))))) (fun hHeld => ?_)
            clear hK K
            try simp only [Act.put, List.setIfInBounds_toArray, List.set_cons_zero, List.set_cons_succ]
            refine wpAnyH_ready (rs := [11]) (by kernel_rfl) (by simp) ?_
            refine AllReadyH.cons (o := { dst := some 69, op := Op.call { callee := Callee.builtin Builtin.append, args := #[Operand.tmp 59, Operand.tmp 68], argTypes := #[90, 90] }, type := 90, pos := "l06_bind.go:85", after := #[{ on := 1, ground := Ground.data }, { on := 10, ground := Ground.data }, { on := 9, ground := Ground.chain }], guard := none }) rfl (fun K hK => ?_) AllReadyH.nil
            refine step_append_lies _ rfl _ _ 90 rfl (w.heap.size + 1 + 1) 26 _ (.slice none 0 0) 1 24 Try.underlying90 rfl rfl rfl rfl rfl (by decide) ta nt xs rfl (ownsRow_upon XO.out (keepB bc (alloc_below _ (.cells #[.slice (some ⟨gc, 0, none⟩) lx dc] 26)))) ⟨v1.heap.size, 0, none⟩ 1 1 [.slice (some ⟨gc, 0, none⟩) lx dc] rfl rfl (one_srcI _ _ _) (by intro u hu; simp at hu; rw [hu]; rfl) (by decide) (by unfold maxLen; omega) (by omega) (by have h1 := MS.out.top; have h2 := bc.size; simp; omega) _ rfl ?_
            intro g6 d6 v6 hown hgrow hat hlt6
            have bq := keepB HB.out (keepB bc (alloc_below _ (.cells #[.slice (some ⟨gc, 0, none⟩) lx dc] 26)))
            have bg := bq.grown hgrow bq.size (fun q hq => Nat.le_trans HBX.out (ownsRow_le XO.out q hq))
            have nX : ta.ownBlock ≠ some (w.heap.size + 1) := fun ee => by have := (block_lt XO.out _ ee).1; omega
            have bx := (MS.out.box.keep (keepB bc (alloc_below _ (.cells #[.slice (some ⟨gc, 0, none⟩) lx dc] 26)))).grownO hgrow nX
            have hr := (HR.out.keep (keepB bc (alloc_below _ (.cells #[.slice (some ⟨gc, 0, none⟩) lx dc] 26)))).grownO hgrow (fun ee => by have := (block_lt XO.out _ ee).1; omega)
            have y0 := bx.two.c1
            have yf := bx.f1
            refine hK.out _ _ (CK.out _ bg) (fun hHeld => ?_)
            clear hK K
            try simp only [Act.put, List.setIfInBounds_toArray, List.set_cons_zero, List.set_cons_succ]
            refine wpAnyH_ready (rs := [12]) (by kernel_rfl) (by simp) ?_
            refine AllReadyH.cons (o := { dst := some 70, op := Op.fieldAddr 92 (Operand.tmp 7) 1, type := 0, pos := "l06_bind.go:85", after := #[{ on := 0, ground := Ground.phase }, { on := 1, ground := Ground.phase }, { on := 2, ground := Ground.phase }, { on := 3, ground := Ground.phase }, { on := 4, ground := Ground.phase }, { on := 5, ground := Ground.phase }, { on := 6, ground := Ground.phase }, { on := 7, ground := Ground.phase }, { on := 8, ground := Ground.phase }, { on := 9, ground := Ground.phase }, { on := 10, ground := Ground.phase }, { on := 11, ground := Ground.phase }], guard := none }) rfl (fun K hK => ?_) AllReadyH.nil
            go_simp
            refine hK.out _ _ (CK.out _ bg) (fun hHeld => ?_)
            clear hK K
            try simp only [Act.put, List.setIfInBounds_toArray, List.set_cons_zero, List.set_cons_succ]
            refine wpAnyH_ready (rs := [13]) (by kernel_rfl) (by simp) ?_
            refine AllReadyH.cons (o := { dst := none, op := Op.store 90 (Operand.tmp 70) (Operand.tmp 69), type := 0, pos := "l06_bind.go:85", after := #[{ on := 12, ground := Ground.data }, { on := 11, ground := Ground.data }, { on := 11, ground := Ground.chain }, { on := 0, ground := Ground.phase }, { on := 1, ground := Ground.phase }, { on := 2, ground := Ground.phase }, { on := 3, ground := Ground.phase }, { on := 4, ground := Ground.phase }, { on := 5, ground := Ground.phase }, { on := 6, ground := Ground.phase }, { on := 7, ground := Ground.phase }, { on := 8, ground := Ground.phase }, { on := 9, ground := Ground.phase }, { on := 10, ground := Ground.phase }, { on := 11, ground := Ground.phase }], guard := none }) rfl (fun K hK => ?_) AllReadyH.nil
            have bs := bg.setCell (p := ⟨w.heap.size + 1, 1, none⟩) (by simp) (.slice (some ⟨g6, 0, none⟩) (nt + 1) d6)
            have hr2 := hr.other ⟨w.heap.size + 1, 1, none⟩ (.slice (some ⟨g6, 0, none⟩) (nt + 1) d6) (by simp)
            go_simp
            refine hK.out _ _ (CK.out _ bs) (fun hHeld => ?_)
            clear hK K
            try simp only [Act.put, List.setIfInBounds_toArray, List.set_cons_zero, List.set_cons_succ]
            rw [HNT.out] at hown
            have FB := MS.out.fin HK.out (keepB bc (alloc_below _ (.cells #[.slice (some ⟨gc, 0, none⟩) lx dc] 26))) hgrow (by have := ownsRow_upon XO.out (keepB bc (alloc_below _ (.cells #[.slice (some ⟨gc, 0, none⟩) lx dc] 26))); rw [HNT.out] at this; exact this) (fun i hi => by
              obtain ⟨d, a1, a2, a3, a4, a5, a6⟩ := HX2.out i hi
              exact ⟨d, a1, a2, a3, a4, a5, a6.lt, a6.keep (keepB bc (alloc_below _ (.cells #[.slice (some ⟨gc, 0, none⟩) lx dc] 26)))⟩) HX3.out HGC.out.1 (HGC.out.2.2.keep (alloc_below _ _)) HGC.out.2.1 (by have := hown; rw [HUK.out] at this; exact this) hat
            rw [← HNT.out] at FB
            have FBH := hidden FB
            have BSH := hidden bs
            have HRH := hidden hr2
            clear FB bs hr2 hr bg bq bx nX y0 yf hown hgrow hat hlt6 hHeld
            refine wpAnyH_done (by kernel_rfl) ?_ _
            go_wp2
            go_roundw
            case rel => exact ⟨k + 1, x + 1, true, _, _, by omega, by go_num, rfl, HW2, FBH, HRH, BSH⟩
            case measure => simp [intOf]; omega
          · go_simp
            go_at_call 42; with_reducible refine (SC.out _ (Below.refl _ _).drew).mono ?_; rintro e v1 ⟨gc, dc, rfl, HGC, bc⟩
            try go_wp2_with fail
            refine hK.out _ _ (CK.out _ (keepB HB.out bc)) (fun hHeld => ?_)
            clear hK K
            try simp only [Act.put, List.setIfInBounds_toArray, List.set_cons_zero, List.set_cons_succ]
            refine wpAnyH_ready (rs := [1, 10]) (by kernel_rfl) (by simp) ?_
            refine AllReadyH.cons (o := { dst := some 59, op := Op.load 90 (Operand.tmp 58), type := 90, pos := "l06_bind.go:85", after := #[{ on := 0, ground := Ground.data }], guard := none }) rfl (fun K hK => ?_) (AllReadyH.cons (o := { dst := some 68, op := Op.buildSlice 90 1 #[(0, Operand.tmp 67)], type := 90, pos := "l06_bind.go:85", after := #[{ on := 9, ground := Ground.data }], guard := none }) rfl (fun K hK => ?_) AllReadyH.nil)
            · have xl := (MS.out.box.keep bc).two.c1
              go_simp
              refine hK.out _ _ (CK.out _ (keepB HB.out bc)) (fun hHeld => ?_)
              clear hK K xl
              try simp only [Act.put, List.setIfInBounds_toArray, List.set_cons_zero, List.set_cons_succ]
              refine wpAnyH_ready (rs := [10]) (by kernel_rfl) (by simp) ?_
              refine AllReadyH.cons (o := { dst := some 68, op := Op.buildSlice 90 1 #[(0, Operand.tmp 67)], type := 90, pos := "l06_bind.go:85", after := #[{ on := 9, ground := Ground.data }], guard := none }) rfl (fun K hK => ?_) AllReadyH.nil
              go_simp
              refine hK.out _ _ (CK.out _ (keepB HB.out (keepB bc (alloc_below _ (.cells #[.slice (some ⟨gc, 0, none⟩) lx dc] 26))))) (fun hHeld => ?_)
              clear hK K
              try simp only [Act.put, List.setIfInBounds_toArray, List.set_cons_zero, List.set_cons_succ]
              refine wpAnyH_ready (rs := [11]) (by kernel_rfl) (by simp) ?_
              refine AllReadyH.cons (o := { dst := some 69, op := Op.call { callee := Callee.builtin Builtin.append, args := #[Operand.tmp 59, Operand.tmp 68], argTypes := #[90, 90] }, type := 90, pos := "l06_bind.go:85", after := #[{ on := 1, ground := Ground.data }, { on := 10, ground := Ground.data }, { on := 9, ground := Ground.chain }], guard := none }) rfl (fun K hK => ?_) AllReadyH.nil
              refine step_append_lies _ rfl _ _ 90 rfl (w.heap.size + 1 + 1) 26 _ (.slice none 0 0) 1 24 Try.underlying90 rfl rfl rfl rfl rfl (by decide) ta nt xs rfl (ownsRow_upon XO.out (keepB bc (alloc_below _ (.cells #[.slice (some ⟨gc, 0, none⟩) lx dc] 26)))) ⟨v1.heap.size, 0, none⟩ 1 1 [.slice (some ⟨gc, 0, none⟩) lx dc] rfl rfl (one_srcI _ _ _) (by intro u hu; simp at hu; rw [hu]; rfl) (by decide) (by unfold maxLen; omega) (by omega) (by have h1 := MS.out.top; have h2 := bc.size; simp; omega) _ rfl ?_
              intro g6 d6 v6 hown hgrow hat hlt6
              have bq := keepB HB.out (keepB bc (alloc_below _ (.cells #[.slice (some ⟨gc, 0, none⟩) lx dc] 26)))
              have bg := bq.grown hgrow bq.size (fun q hq => Nat.le_trans HBX.out (ownsRow_le XO.out q hq))
              have nX : ta.ownBlock ≠ some (w.heap.size + 1) := fun ee => by have := (block_lt XO.out _ ee).1; omega
              have bx := (MS.out.box.keep (keepB bc (alloc_below _ (.cells #[.slice (some ⟨gc, 0, none⟩) lx dc] 26)))).grownO hgrow nX
              have hr := (HR.out.keep (keepB bc (alloc_below _ (.cells #[.slice (some ⟨gc, 0, none⟩) lx dc] 26)))).grownO hgrow (fun ee => by have := (block_lt XO.out _ ee).1; omega)
              have y0 := bx.two.c1
              have yf := bx.f1
              refine hK.out _ _ (CK.out _ bg) (fun hHeld => ?_)
              clear hK K
              try simp only [Act.put, List.setIfInBounds_toArray, List.set_cons_zero, List.set_cons_succ]
              refine wpAnyH_ready (rs := [12]) (by kernel_rfl) (by simp) ?_
              refine AllReadyH.cons (o := { dst := some 70, op := Op.fieldAddr 92 (Operand.tmp 7) 1, type := 0, pos := "l06_bind.go:85", after := #[{ on := 0, ground := Ground.phase }, { on := 1, ground := Ground.phase }, { on := 2, ground := Ground.phase }, { on := 3, ground := Ground.phase }, { on := 4, ground := Ground.phase }, { on := 5, ground := Ground.phase }, { on := 6, ground := Ground.phase }, { on := 7, ground := Ground.phase }, { on := 8, ground := Ground.phase }, { on := 9, ground := Ground.phase }, { on := 10, ground := Ground.phase }, { on := 11, ground := Ground.phase }], guard := none }) rfl (fun K hK => ?_) AllReadyH.nil
              go_simp
              refine hK.out _ _ (CK.out _ bg) (fun hHeld => ?_)
              clear hK K
              try simp only [Act.put, List.setIfInBounds_toArray, List.set_cons_zero, List.set_cons_succ]
              refine wpAnyH_ready (rs := [13]) (by kernel_rfl) (by simp) ?_
              refine AllReadyH.cons (o := { dst := none, op := Op.store 90 (Operand.tmp 70) (Operand.tmp 69), type := 0, pos := "l06_bind.go:85", after := #[{ on := 12, ground := Ground.data }, { on := 11, ground := Ground.data }, { on := 11, ground := Ground.chain }, { on := 0, ground := Ground.phase }, { on := 1, ground := Ground.phase }, { on := 2, ground := Ground.phase }, { on := 3, ground := Ground.phase }, { on := 4, ground := Ground.phase }, { on := 5, ground := Ground.phase }, { on := 6, ground := Ground.phase }, { on := 7, ground := Ground.phase }, { on := 8, ground := Ground.phase }, { on := 9, ground := Ground.phase }, { on := 10, ground := Ground.phase }, { on := 11, ground := Ground.phase }], guard := none }) rfl (fun K hK => ?_) AllReadyH.nil
              have bs := bg.setCell (p := ⟨w.heap.size + 1, 1, none⟩) (by simp) (.slice (some ⟨g6, 0, none⟩) (nt + 1) d6)
              have hr2 := hr.other ⟨w.heap.size + 1, 1, none⟩ (.slice (some ⟨g6, 0, none⟩) (nt + 1) d6) (by simp)
              go_simp
              refine hK.out _ _ (CK.out _ bs) (fun hHeld => ?_)
              clear hK K
              try simp only [Act.put, List.setIfInBounds_toArray, List.set_cons_zero, List.set_cons_succ]
              rw [HNT.out] at hown
              have FB := MS.out.fin HK.out (keepB bc (alloc_below _ (.cells #[.slice (some ⟨gc, 0, none⟩) lx dc] 26))) hgrow (by have := ownsRow_upon XO.out (keepB bc (alloc_below _ (.cells #[.slice (some ⟨gc, 0, none⟩) lx dc] 26))); rw [HNT.out] at this; exact this) (fun i hi => by
                obtain ⟨d, a1, a2, a3, a4, a5, a6⟩ := HX2.out i hi
                exact ⟨d, a1, a2, a3, a4, a5, a6.lt, a6.keep (keepB bc (alloc_below _ (.cells #[.slice (some ⟨gc, 0, none⟩) lx dc] 26)))⟩) HX3.out HGC.out.1 (HGC.out.2.2.keep (alloc_below _ _)) HGC.out.2.1 (by have := hown; rw [HUK.out] at this; exact this) hat
              rw [← HNT.out] at FB
              have FBH := hidden FB
              have BSH := hidden bs
              have HRH := hidden hr2
              clear FB bs hr2 hr bg bq bx nX y0 yf hown hgrow hat hlt6 hHeld
              refine wpAnyH_done (by kernel_rfl) ?_ _
              go_wp2
              go_roundw
              case rel => exact ⟨k + 1, x + 1, true, _, _, by omega, by go_num, rfl, HW2, FBH, HRH, BSH⟩
              case measure => simp [intOf]; omega
            · go_simp
              refine hK.out _ _ (CK.out _ (keepB HB.out (keepB bc (alloc_below _ (.cells #[.slice (some ⟨gc, 0, none⟩) lx dc] 26))))) (fun hHeld => ?_)
              clear hK K
              try simp only [Act.put, List.setIfInBounds_toArray, List.set_cons_zero, List.set_cons_succ]
              refine wpAnyH_ready (rs := [1]) (by kernel_rfl) (by simp) ?_
              refine AllReadyH.cons (o := { dst := some 59, op := Op.load 90 (Operand.tmp 58), type := 90, pos := "l06_bind.go:85", after := #[{ on := 0, ground := Ground.data }], guard := none }) rfl (fun K hK => ?_) AllReadyH.nil
              have xl0 := (MS.out.box.keep bc).two.c1
              have hlt0 := (MS.out.box.keep bc).two.blk
              have xl := (MS.out.box.keep (keepB bc (alloc_below _ (.cells #[.slice (some ⟨gc, 0, none⟩) lx dc] 26)))).two.c1
              go_simp
              refine hK.out _ _ (CK.out _ (keepB HB.out (keepB bc (alloc_below _ (.cells #[.slice (some ⟨gc, 0, none⟩) lx dc] 26))))) (fun hHeld => ?_)
              clear hK K xl
              try simp only [Act.put, List.setIfInBounds_toArray, List.set_cons_zero, List.set_cons_succ]
              refine wpAnyH_ready (rs := [11]) (by kernel_rfl) (by simp) ?_
              refine AllReadyH.cons (o := { dst := some 69, op := Op.call { callee := Callee.builtin Builtin.append, args := #[Operand.tmp 59, Operand.tmp 68], argTypes := #[90, 90] }, type := 90, pos := "l06_bind.go:85", after := #[{ on := 1, ground := Ground.data }, { on := 10, ground := Ground.data }, { on := 9, ground := Ground.chain }], guard := none }) rfl (fun K hK => ?_) AllReadyH.nil
              refine step_append_lies _ rfl _ _ 90 rfl (w.heap.size + 1 + 1) 26 _ (.slice none 0 0) 1 24 Try.underlying90 rfl rfl rfl rfl rfl (by decide) ta nt xs rfl (ownsRow_upon XO.out (keepB bc (alloc_below _ (.cells #[.slice (some ⟨gc, 0, none⟩) lx dc] 26)))) ⟨v1.heap.size, 0, none⟩ 1 1 [.slice (some ⟨gc, 0, none⟩) lx dc] rfl rfl (one_srcI _ _ _) (by intro u hu; simp at hu; rw [hu]; rfl) (by decide) (by unfold maxLen; omega) (by omega) (by have h1 := MS.out.top; have h2 := bc.size; simp; omega) _ rfl ?_
              intro g6 d6 v6 hown hgrow hat hlt6
              have bq := keepB HB.out (keepB bc (alloc_below _ (.cells #[.slice (some ⟨gc, 0, none⟩) lx dc] 26)))
              have bg := bq.grown hgrow bq.size (fun q hq => Nat.le_trans HBX.out (ownsRow_le XO.out q hq))
              have nX : ta.ownBlock ≠ some (w.heap.size + 1) := fun ee => by have := (block_lt XO.out _ ee).1; omega
              have bx := (MS.out.box.keep (keepB bc (alloc_below _ (.cells #[.slice (some ⟨gc, 0, none⟩) lx dc] 26)))).grownO hgrow nX
              have hr := (HR.out.keep (keepB bc (alloc_below _ (.cells #[.slice (some ⟨gc, 0, none⟩) lx dc] 26)))).grownO hgrow (fun ee => by have := (block_lt XO.out _ ee).1; omega)
              have y0 := bx.two.c1
              have yf := bx.f1
              refine hK.out _ _ (CK.out _ bg) (fun hHeld => ?_)
              clear hK K
              try simp only [Act.put, List.setIfInBounds_toArray, List.set_cons_zero, List.set_cons_succ]
              refine wpAnyH_ready (rs := [12]) (by kernel_rfl) (by simp) ?_
              refine AllReadyH.cons (o := { dst := some 70, op := Op.fieldAddr 92 (Operand.tmp 7) 1, type := 0, pos := "l06_bind.go:85", after := #[{ on := 0, ground := Ground.phase }, { on := 1, ground := Ground.phase }, { on := 2, ground := Ground.phase }, { on := 3, ground := Ground.phase }, { on := 4, ground := Ground.phase }, { on := 5, ground := Ground.phase }, { on := 6, ground := Ground.phase }, { on := 7, ground := Ground.phase }, { on := 8, ground := Ground.phase }, { on := 9, ground := Ground.phase }, { on := 10, ground := Ground.phase }, { on := 11, ground := Ground.phase }], guard := none }) rfl (fun K hK => ?_) AllReadyH.nil
              go_simp
              refine hK.out _ _ (CK.out _ bg) (fun hHeld => ?_)
              clear hK K
              try simp only [Act.put, List.setIfInBounds_toArray, List.set_cons_zero, List.set_cons_succ]
              refine wpAnyH_ready (rs := [13]) (by kernel_rfl) (by simp) ?_
              refine AllReadyH.cons (o := { dst := none, op := Op.store 90 (Operand.tmp 70) (Operand.tmp 69), type := 0, pos := "l06_bind.go:85", after := #[{ on := 12, ground := Ground.data }, { on := 11, ground := Ground.data }, { on := 11, ground := Ground.chain }, { on := 0, ground := Ground.phase }, { on := 1, ground := Ground.phase }, { on := 2, ground := Ground.phase }, { on := 3, ground := Ground.phase }, { on := 4, ground := Ground.phase }, { on := 5, ground := Ground.phase }, { on := 6, ground := Ground.phase }, { on := 7, ground := Ground.phase }, { on := 8, ground := Ground.phase }, { on := 9, ground := Ground.phase }, { on := 10, ground := Ground.phase }, { on := 11, ground := Ground.phase }], guard := none }) rfl (fun K hK => ?_) AllReadyH.nil
              have bs := bg.setCell (p := ⟨w.heap.size + 1, 1, none⟩) (by simp) (.slice (some ⟨g6, 0, none⟩) (nt + 1) d6)
              have hr2 := hr.other ⟨w.heap.size + 1, 1, none⟩ (.slice (some ⟨g6, 0, none⟩) (nt + 1) d6) (by simp)
              go_simp
              refine hK.out _ _ (CK.out _ bs) (fun hHeld => ?_)
              clear hK K
              try simp only [Act.put, List.setIfInBounds_toArray, List.set_cons_zero, List.set_cons_succ]
              rw [HNT.out] at hown
              have FB := MS.out.fin HK.out (keepB bc (alloc_below _ (.cells #[.slice (some ⟨gc, 0, none⟩) lx dc] 26))) hgrow (by have := ownsRow_upon XO.out (keepB bc (alloc_below _ (.cells #[.slice (some ⟨gc, 0, none⟩) lx dc] 26))); rw [HNT.out] at this; exact this) (fun i hi => by
                obtain ⟨d, a1, a2, a3, a4, a5, a6⟩ := HX2.out i hi
                exact ⟨d, a1, a2, a3, a4, a5, a6.lt, a6.keep (keepB bc (alloc_below _ (.cells #[.slice (some ⟨gc, 0, none⟩) lx dc] 26)))⟩) HX3.out HGC.out.1 (HGC.out.2.2.keep (alloc_below _ _)) HGC.out.2.1 (by have := hown; rw [HUK.out] at this; exact this) hat
              rw [← HNT.out] at FB
              have FBH := hidden FB
              have BSH := hidden bs
              have HRH := hidden hr2
              clear FB bs hr2 hr bg bq bx nX y0 yf hown hgrow hat hlt6 hHeld
              refine wpAnyH_done (by kernel_rfl) ?_ _
              go_wp2
              go_roundw
              case rel => exact ⟨k + 1, x + 1, true, _, _, by omega, by go_num, rfl, HW2, FBH, HRH, BSH⟩
              case measure => simp [intOf]; omega
      | false =>
        by_cases hvx : v < x
        · skip
          have hvx' : (v : Int) < (x : Int) := by omega
          have HI0 := hidden (show ∀ j, k ≤ j → j < cR M → (v : Int) < cV M j from fun j h1 h2 => by
            by_cases e : j = k
            · rw [e, HEX.out]; exact hvx'
            · have := cV_inc (show k < j by omega) h2; have := HEX.out; omega)
          have HK := hidden (hasU_v (M := M) (v := v) HT.out)
          have HWm := hidden (HW.out.mid hv HI0.out)
          replace BS := hidden (BySt.skips _ (Nat.le_refl _) (by rcases HW.out.side with ⟨_, hh⟩ | ⟨hh, _⟩; exact hh; cases hh) (HW.out.gapv hv HI0.out) BS.out)
          have HW := HWm
          clear HWm
          obtain ⟨nn, hnn⟩ : ∃ nn, nn = (cnL (updM M v t) v).length := ⟨_, rfl⟩
          have HNN := hidden hnn
          have hnl := cnL_len (updM M v t) v
          rw [← hnn] at hnl
          have O1 := hidden BS.out.vars
          rw [← hnn] at O1
          have x0 := BS.out.box.two.c0
          have HBX := hidden (show w.heap.size ≤ w.heap.size + 1 + 1 by omega)
          clear hnn
          go_wp2_with (at_builtin; refine wpList_append_lies _ rfl _ _ 26 rfl (w.heap.size + 1 + 1) 2 _ (.int .i64 0) 1 8 Try.underlying26 rfl rfl rfl rfl rfl (by decide) va nn _ rfl (O1.out.alloc _) ⟨_, 0, none⟩ 1 1 [.int .i64 (v : Int)] rfl (by simp) (one_srcI _ _ _) (oneValI _) (by omega) (by unfold maxLen; omega) (by omega) (by have := BS.out.top; simp; omega) _ rfl ?_)
          intro g cap w3 hown hgrow hat hlt3
          have nX : va.ownBlock ≠ some (w.heap.size + 1) := fun ee => by have := (block_lt O1.out _ ee).1; omega
          have bx := (BS.out.box.keep (alloc_below _ _)).grownO hgrow nX
          have y0 := bx.two.c0
          have yf := bx.f0
          rw [HNN.out] at hown
          have MS := hidden (BS.out.mid HK.out (alloc_below _ _) hgrow hown (hat.imp id (fun e => by rw [e]; simp)))
          have HB3 := hidden ((((HB.out.alloc HB.out.size _)).grown hgrow (by have := HB.out.size; simp; omega) (fun q hq => Nat.le_trans HBX.out (ownsRow_le O1.out q hq))).setCell (p := ⟨w.heap.size + 1, 0, none⟩) (by simp) (.slice (some ⟨g, 0, none⟩) ((cnL (updM M v t) v).length + 1) cap))
          have HR3 := hidden (((HR.out.keep (alloc_below _ _)).grownO hgrow (fun ee => by have := (block_lt O1.out _ ee).1; omega)).other ⟨w.heap.size + 1, 0, none⟩ (.slice (some ⟨g, 0, none⟩) ((cnL (updM M v t) v).length + 1) cap) (by simp))
          rw [← HNN.out] at MS HB3 HR3
          obtain ⟨W1, hW1⟩ : ∃ W1, W1 = w3.setCell ⟨w.heap.size + 1, 0, none⟩ (.slice (some ⟨g, 0, none⟩) (nn + 1) cap) := ⟨_, rfl⟩
          rw [← hW1] at MS HB3 HR3
          clear hown hgrow hat hlt3 bx x0 nX O1 HBX BS HB HR hnl HNN
          have HB := HB3
          have HR := HR3
          clear HB3 HR3
          go_wp2
          rw [← hW1]
          clear hW1 y0 yf
          have HUK := hidden (show t.length = (updM M v t v).length by simp [updM])
          have HUL := hidden (show (fun i => t.getD i 0) = (fun i => (updM M v t v).getD i 0) by simp [updM])
          clear d0 c1v hvx' HI0
          obtain ⟨nt, hnt⟩ : ∃ nt, nt = (cnL (updM M v t) v).length := ⟨_, rfl⟩
          have HNT := hidden hnt
          have hntl := cnL_len (updM M v t) v
          rw [← hnt] at hntl
          clear hnt
          obtain ⟨xs, G, hx1, hx2, hx3⟩ := MS.out.terms
          rw [← HNT.out] at hx1
          have XO := hidden hx1
          have HX2 := hidden hx2
          have HX3 := hidden hx3
          have HBX := hidden (show w.heap.size ≤ w.heap.size + 1 + 1 by omega)
          clear hx1 hx2 hx3
          have SC := hidden (show ∀ wd, Below W1.heap.size W1 wd → Calls Try.prog 42 #[.slice (some ⟨bt, ot, none⟩) t.length ct] wd fun e w' => ∃ g d, e = .returned (.slice (some ⟨g, 0, none⟩) t.length d) ∧ Hid (W1.heap.size ≤ g ∧ ((updM M v t) v).length ≤ d ∧ OwnI w' W1.heap.size g ((updM M v t) v).length d (fun i => ((updM M v t) v).getD i 0) ((updM M v t) v).length) ∧ Below W1.heap.size W1 w' from fun wd hd => by
            refine (l1Ints_any _ _ _ _ _ wd (HI.out.keep (keepB HB.out hd)) (by omega)).mono ?_
            rintro e w' ⟨g, d, rfl, hg, ho, hb⟩
            have hgs := hd.size
            have hcap := ho.capW
            refine ⟨g, d, rfl, hidden ⟨by omega, ?_, ?_⟩, keepB hd hb⟩
            · rw [← HUK.out]; exact hcap
            · rw [← HUK.out, ← HUL.out]; exact ho.base (by omega))
          go_cut [44] (fun _ wc => ∃ va' ta', Hid (BySt wc (w.heap.size + 1 + 1) (w.heap.size + 1) (updM M v t) (v + 1) va' ta') ∧ Hid (Below w.heap.size w wc) ∧ Hid (Own2 wc w.heap.size (.slice none 0 0) (.slice none 0 0)))
          case first =>
            refine wp_region_held_drew (S := fun _ => True) (by kernel_rfl) trivial (fun hHeld => ?_)
            refine wpAnyH_take (i := 0) (oi := { dst := some 39, op := Op.fieldAddr 92 (Operand.tmp 7) 1, type := 0, pos := "l06_bind.go:81", after := #[], guard := none }) (v := ?_) rfl (by kernel_rfl) (by kernel_rfl) (by kernel_rfl) (fun _ _ _ h => h) (Or.inl ⟨by rfl, ?_⟩) (by assumption) ?_
            rotate_left
            · (intro wv hSw; (try dsimp only at hSw); go_simp; try with_reducible rfl)
            try simp only [Act.put, List.setIfInBounds_toArray, List.set_cons_zero, List.set_cons_succ]
            refine wpAnyH_take (i := 2) (oi := { dst := some 41, op := Op.move (Operand.tmp 2), type := 26, pos := "l06_bind.go:81", after := #[], guard := none }) (v := ?_) rfl (by kernel_rfl) (by kernel_rfl) (by kernel_rfl) (fun _ _ _ h => h) (Or.inl ⟨by rfl, ?_⟩) (by assumption) ?_
            rotate_left
            · (intro wv hSw; (try dsimp only at hSw); go_simp; try with_reducible rfl)
            try simp only [Act.put, List.setIfInBounds_toArray, List.set_cons_zero, List.set_cons_succ]
            refine wpAnyH_ready (rs := [1, 3]) (by kernel_rfl) (by simp) ?_
            refine AllReadyH.cons (o := { dst := some 40, op := Op.load 90 (Operand.tmp 39), type := 90, pos := "l06_bind.go:81", after := #[{ on := 0, ground := Ground.data }], guard := none }) rfl (fun K hK => ?_) (AllReadyH.cons (o := { dst := some 42, op := Op.call { callee := Callee.value (Operand.func 42), args := #[Operand.tmp 41], argTypes := #[26] }, type := 26, pos := "l06_bind.go:81", after := #[{ on := 2, ground := Ground.data }], guard := none }) rfl (fun K hK => ?_) AllReadyH.nil)
            · have xl := (MS.out.box.keep (Below.refl W1.heap.size W1).drew).two.c1
              go_simp
              refine hK.out _ _ trivial (fun hHeld => ?_)
              clear hK K xl
              try simp only [Act.put, List.setIfInBounds_toArray, List.set_cons_zero, List.set_cons_succ]
              refine wpAnyH_ready (rs := [3]) (by kernel_rfl) (by simp) ?_
              refine AllReadyH.cons (o := { dst := some 42, op := Op.call { callee := Callee.value (Operand.func 42), args := #[Operand.tmp 41], argTypes := #[26] }, type := 26, pos := "l06_bind.go:81", after := #[{ on := 2, ground := Ground.data }], guard := none }) rfl (fun K hK => ?_) AllReadyH.nil
              go_simp
              go_at_call 42; with_reducible refine (SC.out _ (Below.refl _ _).drew).mono ?_; rintro e v1 ⟨gc, dc, rfl, HGC, bc⟩
              try go_wp2_with fail
              refine hK.out _ _ trivial (fun hHeld => ?_)
              clear hK K
              try simp only [Act.put, List.setIfInBounds_toArray, List.set_cons_zero, List.set_cons_succ]
              refine wpAnyH_ready (rs := [4]) (by kernel_rfl) (by simp) ?_
              refine AllReadyH.cons (o := { dst := some 43, op := Op.buildSlice 90 1 #[(0, Operand.tmp 42)], type := 90, pos := "l06_bind.go:81", after := #[{ on := 3, ground := Ground.data }], guard := none }) rfl (fun K hK => ?_) AllReadyH.nil
              go_simp
              refine hK.out _ _ trivial (fun hHeld => ?_)
              clear hK K
              try simp only [Act.put, List.setIfInBounds_toArray, List.set_cons_zero, List.set_cons_succ]
              refine wpAnyH_ready (rs := [5]) (by kernel_rfl) (by simp) ?_
              refine AllReadyH.cons (o := { dst := some 44, op := Op.call { callee := Callee.builtin Builtin.append, args := #[Operand.tmp 40, Operand.tmp 43], argTypes := #[90, 90] }, type := 90, pos := "l06_bind.go:81", after := #[{ on := 1, ground := Ground.data }, { on := 4, ground := Ground.data }, { on := 3, ground := Ground.chain }], guard := none }) rfl (fun K hK => ?_) AllReadyH.nil
              refine step_append_lies _ rfl _ _ 90 rfl (w.heap.size + 1 + 1) 26 _ (.slice none 0 0) 1 24 Try.underlying90 rfl rfl rfl rfl rfl (by decide) ta nt xs rfl (ownsRow_upon XO.out (keepB bc (alloc_below _ (.cells #[.slice (some ⟨gc, 0, none⟩) t.length dc] 26)))) ⟨v1.heap.size, 0, none⟩ 1 1 [.slice (some ⟨gc, 0, none⟩) t.length dc] rfl rfl (one_srcI _ _ _) (by intro u hu; simp at hu; rw [hu]; rfl) (by decide) (by unfold maxLen; omega) (by omega) (by have h1 := MS.out.top; have h2 := bc.size; simp; omega) _ rfl ?_
              intro g6 d6 v6 hown hgrow hat hlt6
              have bq := keepB HB.out (keepB bc (alloc_below _ (.cells #[.slice (some ⟨gc, 0, none⟩) t.length dc] 26)))
              have bg := bq.grown hgrow bq.size (fun q hq => Nat.le_trans HBX.out (ownsRow_le XO.out q hq))
              have nX : ta.ownBlock ≠ some (w.heap.size + 1) := fun ee => by have := (block_lt XO.out _ ee).1; omega
              have bx := (MS.out.box.keep (keepB bc (alloc_below _ (.cells #[.slice (some ⟨gc, 0, none⟩) t.length dc] 26)))).grownO hgrow nX
              have hr := (HR.out.keep (keepB bc (alloc_below _ (.cells #[.slice (some ⟨gc, 0, none⟩) t.length dc] 26)))).grownO hgrow (fun ee => by have := (block_lt XO.out _ ee).1; omega)
              have y0 := bx.two.c1
              have yf := bx.f1
              refine hK.out _ _ trivial (fun hHeld => ?_)
              clear hK K
              try simp only [Act.put, List.setIfInBounds_toArray, List.set_cons_zero, List.set_cons_succ]
              refine wpAnyH_ready (rs := [6]) (by kernel_rfl) (by simp) ?_
              refine AllReadyH.cons (o := { dst := some 45, op := Op.fieldAddr 92 (Operand.tmp 7) 1, type := 0, pos := "l06_bind.go:81", after := #[{ on := 0, ground := Ground.phase }, { on := 1, ground := Ground.phase }, { on := 2, ground := Ground.phase }, { on := 3, ground := Ground.phase }, { on := 4, ground := Ground.phase }, { on := 5, ground := Ground.phase }], guard := none }) rfl (fun K hK => ?_) AllReadyH.nil
              go_simp
              refine hK.out _ _ trivial (fun hHeld => ?_)
              clear hK K
              try simp only [Act.put, List.setIfInBounds_toArray, List.set_cons_zero, List.set_cons_succ]
              refine wpAnyH_ready (rs := [7]) (by kernel_rfl) (by simp) ?_
              refine AllReadyH.cons (o := { dst := none, op := Op.store 90 (Operand.tmp 45) (Operand.tmp 44), type := 0, pos := "l06_bind.go:81", after := #[{ on := 6, ground := Ground.data }, { on := 5, ground := Ground.data }, { on := 5, ground := Ground.chain }, { on := 0, ground := Ground.phase }, { on := 1, ground := Ground.phase }, { on := 2, ground := Ground.phase }, { on := 3, ground := Ground.phase }, { on := 4, ground := Ground.phase }, { on := 5, ground := Ground.phase }], guard := none }) rfl (fun K hK => ?_) AllReadyH.nil
              have bs := bg.setCell (p := ⟨w.heap.size + 1, 1, none⟩) (by simp) (.slice (some ⟨g6, 0, none⟩) (nt + 1) d6)
              have hr2 := hr.other ⟨w.heap.size + 1, 1, none⟩ (.slice (some ⟨g6, 0, none⟩) (nt + 1) d6) (by simp)
              go_simp
              refine hK.out _ _ trivial (fun hHeld => ?_)
              clear hK K
              try simp only [Act.put, List.setIfInBounds_toArray, List.set_cons_zero, List.set_cons_succ]
              rw [HNT.out] at hown
              have FB := MS.out.fin HK.out (keepB bc (alloc_below _ (.cells #[.slice (some ⟨gc, 0, none⟩) t.length dc] 26))) hgrow (by have := ownsRow_upon XO.out (keepB bc (alloc_below _ (.cells #[.slice (some ⟨gc, 0, none⟩) t.length dc] 26))); rw [HNT.out] at this; exact this) (fun i hi => by
                obtain ⟨d, a1, a2, a3, a4, a5, a6⟩ := HX2.out i hi
                exact ⟨d, a1, a2, a3, a4, a5, a6.lt, a6.keep (keepB bc (alloc_below _ (.cells #[.slice (some ⟨gc, 0, none⟩) t.length dc] 26)))⟩) HX3.out HGC.out.1 (HGC.out.2.2.keep (alloc_below _ _)) HGC.out.2.1 (by have := hown; rw [HUK.out] at this; exact this) hat
              rw [← HNT.out] at FB
              have FBH := hidden FB
              have BSH := hidden bs
              have HRH := hidden hr2
              clear FB bs hr2 hr bg bq bx nX y0 yf hown hgrow hat hlt6 hHeld
              refine wpAnyH_done (by kernel_rfl) ?_ _
              go_wp2_with fail
              go_meet
              exact ⟨_, _, FBH, BSH, HRH⟩
            · go_simp
              go_at_call 42; with_reducible refine (SC.out _ (Below.refl _ _).drew).mono ?_; rintro e v1 ⟨gc, dc, rfl, HGC, bc⟩
              try go_wp2_with fail
              refine hK.out _ _ trivial (fun hHeld => ?_)
              clear hK K
              try simp only [Act.put, List.setIfInBounds_toArray, List.set_cons_zero, List.set_cons_succ]
              refine wpAnyH_ready (rs := [1, 4]) (by kernel_rfl) (by simp) ?_
              refine AllReadyH.cons (o := { dst := some 40, op := Op.load 90 (Operand.tmp 39), type := 90, pos := "l06_bind.go:81", after := #[{ on := 0, ground := Ground.data }], guard := none }) rfl (fun K hK => ?_) (AllReadyH.cons (o := { dst := some 43, op := Op.buildSlice 90 1 #[(0, Operand.tmp 42)], type := 90, pos := "l06_bind.go:81", after := #[{ on := 3, ground := Ground.data }], guard := none }) rfl (fun K hK => ?_) AllReadyH.nil)
              · have xl := (MS.out.box.keep bc).two.c1
                go_simp
                refine hK.out _ _ trivial (fun hHeld => ?_)
                clear hK K xl
                try simp only [Act.put, List.setIfInBounds_toArray, List.set_cons_zero, List.set_cons_succ]
                refine wpAnyH_ready (rs := [4]) (by kernel_rfl) (by simp) ?_
                refine AllReadyH.cons (o := { dst := some 43, op := Op.buildSlice 90 1 #[(0, Operand.tmp 42)], type := 90, pos := "l06_bind.go:81", after := #[{ on := 3, ground := Ground.data }], guard := none }) rfl (fun K hK => ?_) AllReadyH.nil
                go_simp
                refine hK.out _ _ trivial (fun hHeld => ?_)
                clear hK K
                try simp only [Act.put, List.setIfInBounds_toArray, List.set_cons_zero, List.set_cons_succ]
                refine wpAnyH_ready (rs := [5]) (by kernel_rfl) (by simp) ?_
                refine AllReadyH.cons (o := { dst := some 44, op := Op.call { callee := Callee.builtin Builtin.append, args := #[Operand.tmp 40, Operand.tmp 43], argTypes := #[90, 90] }, type := 90, pos := "l06_bind.go:81", after := #[{ on := 1, ground := Ground.data }, { on := 4, ground := Ground.data }, { on := 3, ground := Ground.chain }], guard := none }) rfl (fun K hK => ?_) AllReadyH.nil
                refine step_append_lies _ rfl _ _ 90 rfl (w.heap.size + 1 + 1) 26 _ (.slice none 0 0) 1 24 Try.underlying90 rfl rfl rfl rfl rfl (by decide) ta nt xs rfl (ownsRow_upon XO.out (keepB bc (alloc_below _ (.cells #[.slice (some ⟨gc, 0, none⟩) t.length dc] 26)))) ⟨v1.heap.size, 0, none⟩ 1 1 [.slice (some ⟨gc, 0, none⟩) t.length dc] rfl rfl (one_srcI _ _ _) (by intro u hu; simp at hu; rw [hu]; rfl) (by decide) (by unfold maxLen; omega) (by omega) (by have h1 := MS.out.top; have h2 := bc.size; simp; omega) _ rfl ?_
                intro g6 d6 v6 hown hgrow hat hlt6
                have bq := keepB HB.out (keepB bc (alloc_below _ (.cells #[.slice (some ⟨gc, 0, none⟩) t.length dc] 26)))
                have bg := bq.grown hgrow bq.size (fun q hq => Nat.le_trans HBX.out (ownsRow_le XO.out q hq))
                have nX : ta.ownBlock ≠ some (w.heap.size + 1) := fun ee => by have := (block_lt XO.out _ ee).1; omega
                have bx := (MS.out.box.keep (keepB bc (alloc_below _ (.cells #[.slice (some ⟨gc, 0, none⟩) t.length dc] 26)))).grownO hgrow nX
                have hr := (HR.out.keep (keepB bc (alloc_below _ (.cells #[.slice (some ⟨gc, 0, none⟩) t.length dc] 26)))).grownO hgrow (fun ee => by have := (block_lt XO.out _ ee).1; omega)
                have y0 := bx.two.c1
                have yf := bx.f1
                refine hK.out _ _ trivial (fun hHeld => ?_)
                clear hK K
                try simp only [Act.put, List.setIfInBounds_toArray, List.set_cons_zero, List.set_cons_succ]
                refine wpAnyH_ready (rs := [6]) (by kernel_rfl) (by simp) ?_
                refine AllReadyH.cons (o := { dst := some 45, op := Op.fieldAddr 92 (Operand.tmp 7) 1, type := 0, pos := "l06_bind.go:81", after := #[{ on := 0, ground := Ground.phase }, { on := 1, ground := Ground.phase }, { on := 2, ground := Ground.phase }, { on := 3, ground := Ground.phase }, { on := 4, ground := Ground.phase }, { on := 5, ground := Ground.phase }], guard := none }) rfl (fun K hK => ?_) AllReadyH.nil
                go_simp
                refine hK.out _ _ trivial (fun hHeld => ?_)
                clear hK K
                try simp only [Act.put, List.setIfInBounds_toArray, List.set_cons_zero, List.set_cons_succ]
                refine wpAnyH_ready (rs := [7]) (by kernel_rfl) (by simp) ?_
                refine AllReadyH.cons (o := { dst := none, op := Op.store 90 (Operand.tmp 45) (Operand.tmp 44), type := 0, pos := "l06_bind.go:81", after := #[{ on := 6, ground := Ground.data }, { on := 5, ground := Ground.data }, { on := 5, ground := Ground.chain }, { on := 0, ground := Ground.phase }, { on := 1, ground := Ground.phase }, { on := 2, ground := Ground.phase }, { on := 3, ground := Ground.phase }, { on := 4, ground := Ground.phase }, { on := 5, ground := Ground.phase }], guard := none }) rfl (fun K hK => ?_) AllReadyH.nil
                have bs := bg.setCell (p := ⟨w.heap.size + 1, 1, none⟩) (by simp) (.slice (some ⟨g6, 0, none⟩) (nt + 1) d6)
                have hr2 := hr.other ⟨w.heap.size + 1, 1, none⟩ (.slice (some ⟨g6, 0, none⟩) (nt + 1) d6) (by simp)
                go_simp
                refine hK.out _ _ trivial (fun hHeld => ?_)
                clear hK K
                try simp only [Act.put, List.setIfInBounds_toArray, List.set_cons_zero, List.set_cons_succ]
                rw [HNT.out] at hown
                have FB := MS.out.fin HK.out (keepB bc (alloc_below _ (.cells #[.slice (some ⟨gc, 0, none⟩) t.length dc] 26))) hgrow (by have := ownsRow_upon XO.out (keepB bc (alloc_below _ (.cells #[.slice (some ⟨gc, 0, none⟩) t.length dc] 26))); rw [HNT.out] at this; exact this) (fun i hi => by
                  obtain ⟨d, a1, a2, a3, a4, a5, a6⟩ := HX2.out i hi
                  exact ⟨d, a1, a2, a3, a4, a5, a6.lt, a6.keep (keepB bc (alloc_below _ (.cells #[.slice (some ⟨gc, 0, none⟩) t.length dc] 26)))⟩) HX3.out HGC.out.1 (HGC.out.2.2.keep (alloc_below _ _)) HGC.out.2.1 (by have := hown; rw [HUK.out] at this; exact this) hat
                rw [← HNT.out] at FB
                have FBH := hidden FB
                have BSH := hidden bs
                have HRH := hidden hr2
                clear FB bs hr2 hr bg bq bx nX y0 yf hown hgrow hat hlt6 hHeld
                refine wpAnyH_done (by kernel_rfl) ?_ _
                go_wp2_with fail
                go_meet
                exact ⟨_, _, FBH, BSH, HRH⟩
              · go_simp
                refine hK.out _ _ trivial (fun hHeld => ?_)
                clear hK K
                try simp only [Act.put, List.setIfInBounds_toArray, List.set_cons_zero, List.set_cons_succ]
                refine wpAnyH_ready (rs := [1]) (by kernel_rfl) (by simp) ?_
                refine AllReadyH.cons (o := { dst := some 40, op := Op.load 90 (Operand.tmp 39), type := 90, pos := "l06_bind.go:81", after := #[{ on := 0, ground := Ground.data }], guard := none }) rfl (fun K hK => ?_) AllReadyH.nil
                have xl0 := (MS.out.box.keep bc).two.c1
                have hlt0 := (MS.out.box.keep bc).two.blk
                have xl := (MS.out.box.keep (keepB bc (alloc_below _ (.cells #[.slice (some ⟨gc, 0, none⟩) t.length dc] 26)))).two.c1
                go_simp
                refine hK.out _ _ trivial (fun hHeld => ?_)
                clear hK K xl
                try simp only [Act.put, List.setIfInBounds_toArray, List.set_cons_zero, List.set_cons_succ]
                refine wpAnyH_ready (rs := [5]) (by kernel_rfl) (by simp) ?_
                refine AllReadyH.cons (o := { dst := some 44, op := Op.call { callee := Callee.builtin Builtin.append, args := #[Operand.tmp 40, Operand.tmp 43], argTypes := #[90, 90] }, type := 90, pos := "l06_bind.go:81", after := #[{ on := 1, ground := Ground.data }, { on := 4, ground := Ground.data }, { on := 3, ground := Ground.chain }], guard := none }) rfl (fun K hK => ?_) AllReadyH.nil
                refine step_append_lies _ rfl _ _ 90 rfl (w.heap.size + 1 + 1) 26 _ (.slice none 0 0) 1 24 Try.underlying90 rfl rfl rfl rfl rfl (by decide) ta nt xs rfl (ownsRow_upon XO.out (keepB bc (alloc_below _ (.cells #[.slice (some ⟨gc, 0, none⟩) t.length dc] 26)))) ⟨v1.heap.size, 0, none⟩ 1 1 [.slice (some ⟨gc, 0, none⟩) t.length dc] rfl rfl (one_srcI _ _ _) (by intro u hu; simp at hu; rw [hu]; rfl) (by decide) (by unfold maxLen; omega) (by omega) (by have h1 := MS.out.top; have h2 := bc.size; simp; omega) _ rfl ?_
                intro g6 d6 v6 hown hgrow hat hlt6
                have bq := keepB HB.out (keepB bc (alloc_below _ (.cells #[.slice (some ⟨gc, 0, none⟩) t.length dc] 26)))
                have bg := bq.grown hgrow bq.size (fun q hq => Nat.le_trans HBX.out (ownsRow_le XO.out q hq))
                have nX : ta.ownBlock ≠ some (w.heap.size + 1) := fun ee => by have := (block_lt XO.out _ ee).1; omega
                have bx := (MS.out.box.keep (keepB bc (alloc_below _ (.cells #[.slice (some ⟨gc, 0, none⟩) t.length dc] 26)))).grownO hgrow nX
                have hr := (HR.out.keep (keepB bc (alloc_below _ (.cells #[.slice (some ⟨gc, 0, none⟩) t.length dc] 26)))).grownO hgrow (fun ee => by have := (block_lt XO.out _ ee).1; omega)
                have y0 := bx.two.c1
                have yf := bx.f1
                refine hK.out _ _ trivial (fun hHeld => ?_)
                clear hK K
                try simp only [Act.put, List.setIfInBounds_toArray, List.set_cons_zero, List.set_cons_succ]
                refine wpAnyH_ready (rs := [6]) (by kernel_rfl) (by simp) ?_
                refine AllReadyH.cons (o := { dst := some 45, op := Op.fieldAddr 92 (Operand.tmp 7) 1, type := 0, pos := "l06_bind.go:81", after := #[{ on := 0, ground := Ground.phase }, { on := 1, ground := Ground.phase }, { on := 2, ground := Ground.phase }, { on := 3, ground := Ground.phase }, { on := 4, ground := Ground.phase }, { on := 5, ground := Ground.phase }], guard := none }) rfl (fun K hK => ?_) AllReadyH.nil
                go_simp
                refine hK.out _ _ trivial (fun hHeld => ?_)
                clear hK K
                try simp only [Act.put, List.setIfInBounds_toArray, List.set_cons_zero, List.set_cons_succ]
                refine wpAnyH_ready (rs := [7]) (by kernel_rfl) (by simp) ?_
                refine AllReadyH.cons (o := { dst := none, op := Op.store 90 (Operand.tmp 45) (Operand.tmp 44), type := 0, pos := "l06_bind.go:81", after := #[{ on := 6, ground := Ground.data }, { on := 5, ground := Ground.data }, { on := 5, ground := Ground.chain }, { on := 0, ground := Ground.phase }, { on := 1, ground := Ground.phase }, { on := 2, ground := Ground.phase }, { on := 3, ground := Ground.phase }, { on := 4, ground := Ground.phase }, { on := 5, ground := Ground.phase }], guard := none }) rfl (fun K hK => ?_) AllReadyH.nil
                have bs := bg.setCell (p := ⟨w.heap.size + 1, 1, none⟩) (by simp) (.slice (some ⟨g6, 0, none⟩) (nt + 1) d6)
                have hr2 := hr.other ⟨w.heap.size + 1, 1, none⟩ (.slice (some ⟨g6, 0, none⟩) (nt + 1) d6) (by simp)
                go_simp
                refine hK.out _ _ trivial (fun hHeld => ?_)
                clear hK K
                try simp only [Act.put, List.setIfInBounds_toArray, List.set_cons_zero, List.set_cons_succ]
                rw [HNT.out] at hown
                have FB := MS.out.fin HK.out (keepB bc (alloc_below _ (.cells #[.slice (some ⟨gc, 0, none⟩) t.length dc] 26))) hgrow (by have := ownsRow_upon XO.out (keepB bc (alloc_below _ (.cells #[.slice (some ⟨gc, 0, none⟩) t.length dc] 26))); rw [HNT.out] at this; exact this) (fun i hi => by
                  obtain ⟨d, a1, a2, a3, a4, a5, a6⟩ := HX2.out i hi
                  exact ⟨d, a1, a2, a3, a4, a5, a6.lt, a6.keep (keepB bc (alloc_below _ (.cells #[.slice (some ⟨gc, 0, none⟩) t.length dc] 26)))⟩) HX3.out HGC.out.1 (HGC.out.2.2.keep (alloc_below _ _)) HGC.out.2.1 (by have := hown; rw [HUK.out] at this; exact this) hat
                rw [← HNT.out] at FB
                have FBH := hidden FB
                have BSH := hidden bs
                have HRH := hidden hr2
                clear FB bs hr2 hr bg bq bx nX y0 yf hown hgrow hat hlt6 hHeld
                refine wpAnyH_done (by kernel_rfl) ?_ _
                go_wp2_with fail
                go_meet
                exact ⟨_, _, FBH, BSH, HRH⟩
          case rest =>
            rename World => W3
            obtain ⟨va3, ta3, BS, HB3, HR3⟩ := hcut
            clear HB HR MS SC XO HX2 HX3 HNT hntl HBX HUK HUL HK
            have HB := HB3
            have HR := HR3
            clear HB3 HR3
            have d0 := HB.out
            have c1v := HB.out
            have HK := hidden (hasU_x (v := v) (t := t) HXV.out HMX.out)
            have HW2 := hidden (HW.out.step hlt HEX.out (Or.inl rfl))
            replace BS := hidden (BySt.skips _ (Nat.le_refl _) (by have := HW.out.ahead k (Nat.le_refl _) hlt; have := HEX.out; omega) (HW.out.gapx hlt HEX.out (Or.inl rfl)) BS.out)
            clear HW
            obtain ⟨nn, hnn⟩ : ∃ nn, nn = (cnL (updM M v t) x).length := ⟨_, rfl⟩
            have HNN := hidden hnn
            have hnl := cnL_len (updM M v t) x
            rw [← hnn] at hnl
            have O1 := hidden BS.out.vars
            rw [← hnn] at O1
            have HBX := hidden (show w.heap.size ≤ w.heap.size + 1 + 1 by omega)
            clear hnn
            go_wp2
            go_cut [56] (fun _ wc => ∃ va', Hid (MidSt wc (w.heap.size + 1 + 1) (w.heap.size + 1) (updM M v t) x va' ta3) ∧ Hid (Below w.heap.size w wc) ∧ Hid (Own2 wc w.heap.size (.slice none 0 0) (.slice none 0 0)))
            case first =>
              have CK := hidden (show ∀ w', Below w.heap.size w w' → (w'.cell? ⟨E, 0, none⟩ = some (.slice (some ⟨b1, o1, none⟩) (cR M) c1) ∧ w'.cell? ⟨b1, o1 + k, none⟩ = some (.int .i64 (x : Int))) from fun w' hb => ⟨(HE.out.keep hb).c0, by have := (I1.out.keep hb).cell k hlt; rw [HEX.out] at this; exact this⟩)
              refine wp_region_held_drew (S := fun wz => wz.cell? ⟨E, 0, none⟩ = some (.slice (some ⟨b1, o1, none⟩) (cR M) c1) ∧ wz.cell? ⟨b1, o1 + k, none⟩ = some (.int .i64 (x : Int))) (by kernel_rfl) (CK.out _ (HB.out.drew)) (fun hHeld => ?_)
              refine wpAnyH_take (i := 0) (oi := { dst := some 46, op := Op.fieldAddr 92 (Operand.tmp 7) 0, type := 0, pos := "l06_bind.go:84", after := #[], guard := none }) (v := ?_) rfl (by kernel_rfl) (by kernel_rfl) (by kernel_rfl) (fun _ _ _ h => h) (Or.inl ⟨by rfl, ?_⟩) (by assumption) ?_
              rotate_left
              · (intro wv hSw; (try dsimp only at hSw); go_simp; try with_reducible rfl)
              try simp only [Act.put, List.setIfInBounds_toArray, List.set_cons_zero, List.set_cons_succ]
              refine wpAnyH_take (i := 2) (oi := { dst := some 48, op := Op.move (Operand.tmp 0), type := 97, pos := "l06_bind.go:84", after := #[], guard := none }) (v := ?_) rfl (by kernel_rfl) (by kernel_rfl) (by kernel_rfl) (fun _ _ _ h => h) (Or.inl ⟨by rfl, ?_⟩) (by assumption) ?_
              rotate_left
              · (intro wv hSw; (try dsimp only at hSw); go_simp; try with_reducible rfl)
              try simp only [Act.put, List.setIfInBounds_toArray, List.set_cons_zero, List.set_cons_succ]
              refine wpAnyH_take (i := 3) (oi := { dst := some 49, op := Op.nilCheck (Operand.tmp 48), type := 0, pos := "l06_bind.go:84", after := #[{ on := 2, ground := Ground.data }], guard := none }) (v := ?_) rfl (by kernel_rfl) (by kernel_rfl) (by kernel_rfl) (fun _ _ _ h => h) (Or.inl ⟨by rfl, ?_⟩) (by assumption) ?_
              rotate_left
              · (intro wv hSw; (try dsimp only at hSw); go_simp; try with_reducible rfl)
              try simp only [Act.put, List.setIfInBounds_toArray, List.set_cons_zero, List.set_cons_succ]
              refine wpAnyH_take (i := 4) (oi := { dst := some 50, op := Op.fieldAddr 92 (Operand.tmp 49) 0, type := 0, pos := "l06_bind.go:84", after := #[{ on := 3, ground := Ground.data }], guard := none }) (v := ?_) rfl (by kernel_rfl) (by kernel_rfl) (by kernel_rfl) (fun _ _ _ h => h) (Or.inl ⟨by rfl, ?_⟩) (by assumption) ?_
              rotate_left
              · (intro wv hSw; (try dsimp only at hSw); go_simp; try with_reducible rfl)
              try simp only [Act.put, List.setIfInBounds_toArray, List.set_cons_zero, List.set_cons_succ]
              refine wpAnyH_take (i := 5) (oi := { dst := some 51, op := Op.load 26 (Operand.tmp 50), type := 26, pos := "l06_bind.go:84", after := #[{ on := 4, ground := Ground.data }], guard := none }) (v := ?_) rfl (by kernel_rfl) (by kernel_rfl) (by kernel_rfl) (fun _ _ _ h => h) (Or.inl ⟨by rfl, ?_⟩) (by assumption) ?_
              rotate_left
              · (intro wv hSw; (try dsimp only at hSw); go_simp; try with_reducible rfl)
              try simp only [Act.put, List.setIfInBounds_toArray, List.set_cons_zero, List.set_cons_succ]
              refine wpAnyH_take (i := 6) (oi := { dst := some 52, op := Op.move (Operand.tmp 9), type := 3, pos := "l06_bind.go:84", after := #[], guard := none }) (v := ?_) rfl (by kernel_rfl) (by kernel_rfl) (by kernel_rfl) (fun _ _ _ h => h) (Or.inl ⟨by rfl, ?_⟩) (by assumption) ?_
              rotate_left
              · (intro wv hSw; (try dsimp only at hSw); go_simp; try with_reducible rfl)
              try simp only [Act.put, List.setIfInBounds_toArray, List.set_cons_zero, List.set_cons_succ]
              refine wpAnyH_take (i := 7) (oi := { dst := some 53, op := Op.indexAddr 26 (Operand.tmp 51) (Operand.tmp 52), type := 0, pos := "l06_bind.go:84", after := #[{ on := 5, ground := Ground.data }, { on := 6, ground := Ground.data }], guard := none }) (v := ?_) rfl (by kernel_rfl) (by kernel_rfl) (by kernel_rfl) (fun _ _ _ h => h) (Or.inl ⟨by rfl, ?_⟩) (by assumption) ?_
              rotate_left
              · (intro wv hSw; (try dsimp only at hSw); go_simp; try with_reducible rfl)
              try simp only [Act.put, List.setIfInBounds_toArray, List.set_cons_zero, List.set_cons_succ]
              refine wpAnyH_take (i := 8) (oi := { dst := some 54, op := Op.load 2 (Operand.tmp 53), type := 2, pos := "l06_bind.go:84", after := #[{ on := 7, ground := Ground.data }], guard := none }) (v := ?_) rfl (by kernel_rfl) (by kernel_rfl) (by kernel_rfl) (fun _ _ _ h => h) (Or.inl ⟨by rfl, ?_⟩) (by assumption) ?_
              rotate_left
              · (intro wv hSw; (try dsimp only at hSw); go_simp; try with_reducible rfl)
              try simp only [Act.put, List.setIfInBounds_toArray, List.set_cons_zero, List.set_cons_succ]
              refine wpAnyH_ready (rs := [1, 9]) (by kernel_rfl) (by simp) ?_
              refine AllReadyH.cons (o := { dst := some 47, op := Op.load 26 (Operand.tmp 46), type := 26, pos := "l06_bind.go:84", after := #[{ on := 0, ground := Ground.data }], guard := none }) rfl (fun K hK => ?_) (AllReadyH.cons (o := { dst := some 55, op := Op.buildSlice 26 1 #[(0, Operand.tmp 54)], type := 26, pos := "l06_bind.go:84", after := #[{ on := 8, ground := Ground.data }], guard := none }) rfl (fun K hK => ?_) AllReadyH.nil)
              · have xl := (BS.out.box.keep (Below.refl W3.heap.size W3).drew).two.c0
                go_simp
                refine hK.out _ _ (CK.out _ (keepB HB.out (Below.refl W3.heap.size W3).drew)) (fun hHeld => ?_)
                clear hK K xl
                try simp only [Act.put, List.setIfInBounds_toArray, List.set_cons_zero, List.set_cons_succ]
                refine wpAnyH_ready (rs := [9]) (by kernel_rfl) (by simp) ?_
                refine AllReadyH.cons (o := { dst := some 55, op := Op.buildSlice 26 1 #[(0, Operand.tmp 54)], type := 26, pos := "l06_bind.go:84", after := #[{ on := 8, ground := Ground.data }], guard := none }) rfl (fun K hK => ?_) AllReadyH.nil
                go_simp
                refine hK.out _ _ (CK.out _ (keepB HB.out (keepB (Below.refl W3.heap.size W3).drew (alloc_below _ (.cells #[.int .i64 (x : Int)] 2))))) (fun hHeld => ?_)
                clear hK K
                try simp only [Act.put, List.setIfInBounds_toArray, List.set_cons_zero, List.set_cons_succ]
                refine wpAnyH_ready (rs := [10]) (by kernel_rfl) (by simp) ?_
                refine AllReadyH.cons (o := { dst := some 56, op := Op.call { callee := Callee.builtin Builtin.append, args := #[Operand.tmp 47, Operand.tmp 55], argTypes := #[26, 26] }, type := 26, pos := "l06_bind.go:84", after := #[{ on := 1, ground := Ground.data }, { on := 9, ground := Ground.data }], guard := none }) rfl (fun K hK => ?_) AllReadyH.nil
                refine step_append_lies _ rfl _ _ 26 rfl (w.heap.size + 1 + 1) 2 _ (.int .i64 0) 1 8 Try.underlying26 rfl rfl rfl rfl rfl (by decide) va3 nn _ rfl (ownsRow_upon O1.out (keepB (Below.refl W3.heap.size W3).drew (alloc_below _ (.cells #[.int .i64 (x : Int)] 2)))) ⟨W3.drew.heap.size, 0, none⟩ 1 1 [.int .i64 (x : Int)] rfl rfl (one_srcI _ _ _) (oneValI _) (by decide) (by unfold maxLen; omega) (by omega) (by have h1 := BS.out.top; simp; omega) _ rfl ?_
                intro g6 d6 v6 hown hgrow hat hlt6
                have bq := keepB HB.out (keepB (Below.refl W3.heap.size W3).drew (alloc_below _ (.cells #[.int .i64 (x : Int)] 2)))
                have bg := bq.grown hgrow bq.size (fun q hq => Nat.le_trans HBX.out (ownsRow_le O1.out q hq))
                have nX : va3.ownBlock ≠ some (w.heap.size + 1) := fun ee => by have := (block_lt O1.out _ ee).1; omega
                have bx := (BS.out.box.keep (keepB (Below.refl W3.heap.size W3).drew (alloc_below _ (.cells #[.int .i64 (x : Int)] 2)))).grownO hgrow nX
                have hr := (HR.out.keep (keepB (Below.refl W3.heap.size W3).drew (alloc_below _ (.cells #[.int .i64 (x : Int)] 2)))).grownO hgrow (fun ee => by have := (block_lt O1.out _ ee).1; omega)
                have y0 := bx.two.c0
                have yf := bx.f0
                refine hK.out _ _ (CK.out _ bg) (fun hHeld => ?_)
                clear hK K
                try simp only [Act.put, List.setIfInBounds_toArray, List.set_cons_zero, List.set_cons_succ]
                refine wpAnyH_ready (rs := [11]) (by kernel_rfl) (by simp) ?_
                refine AllReadyH.cons (o := { dst := some 57, op := Op.fieldAddr 92 (Operand.tmp 7) 0, type := 0, pos := "l06_bind.go:84", after := #[{ on := 0, ground := Ground.phase }, { on := 1, ground := Ground.phase }, { on := 2, ground := Ground.phase }, { on := 3, ground := Ground.phase }, { on := 4, ground := Ground.phase }, { on := 5, ground := Ground.phase }, { on := 6, ground := Ground.phase }, { on := 7, ground := Ground.phase }, { on := 8, ground := Ground.phase }, { on := 9, ground := Ground.phase }, { on := 10, ground := Ground.phase }], guard := none }) rfl (fun K hK => ?_) AllReadyH.nil
                go_simp
                refine hK.out _ _ (CK.out _ bg) (fun hHeld => ?_)
                clear hK K
                try simp only [Act.put, List.setIfInBounds_toArray, List.set_cons_zero, List.set_cons_succ]
                refine wpAnyH_ready (rs := [12]) (by kernel_rfl) (by simp) ?_
                refine AllReadyH.cons (o := { dst := none, op := Op.store 26 (Operand.tmp 57) (Operand.tmp 56), type := 0, pos := "l06_bind.go:84", after := #[{ on := 11, ground := Ground.data }, { on := 10, ground := Ground.data }, { on := 10, ground := Ground.chain }, { on := 0, ground := Ground.phase }, { on := 1, ground := Ground.phase }, { on := 2, ground := Ground.phase }, { on := 3, ground := Ground.phase }, { on := 4, ground := Ground.phase }, { on := 5, ground := Ground.phase }, { on := 6, ground := Ground.phase }, { on := 7, ground := Ground.phase }, { on := 8, ground := Ground.phase }, { on := 9, ground := Ground.phase }, { on := 10, ground := Ground.phase }], guard := none }) rfl (fun K hK => ?_) AllReadyH.nil
                have bs := bg.setCell (p := ⟨w.heap.size + 1, 0, none⟩) (by simp) (.slice (some ⟨g6, 0, none⟩) (nn + 1) d6)
                have hr2 := hr.other ⟨w.heap.size + 1, 0, none⟩ (.slice (some ⟨g6, 0, none⟩) (nn + 1) d6) (by simp)
                go_simp
                refine hK.out _ _ (CK.out _ bs) (fun hHeld => ?_)
                clear hK K
                try simp only [Act.put, List.setIfInBounds_toArray, List.set_cons_zero, List.set_cons_succ]
                rw [HNN.out] at hown
                have FB := BS.out.mid HK.out (keepB (Below.refl W3.heap.size W3).drew (alloc_below _ (.cells #[.int .i64 (x : Int)] 2))) hgrow hown hat
                rw [← HNN.out] at FB
                have FBH := hidden FB
                have BSH := hidden bs
                have HRH := hidden hr2
                clear FB bs hr2 hr bg bq bx nX y0 yf hown hgrow hat hlt6 hHeld
                refine wpAnyH_done (by kernel_rfl) ?_ _
                go_wp2_with fail
                go_meet
                exact ⟨_, FBH, BSH, HRH⟩
              · go_simp
                refine hK.out _ _ (CK.out _ (keepB HB.out (keepB (Below.refl W3.heap.size W3).drew (alloc_below _ (.cells #[.int .i64 (x : Int)] 2))))) (fun hHeld => ?_)
                clear hK K
                try simp only [Act.put, List.setIfInBounds_toArray, List.set_cons_zero, List.set_cons_succ]
                refine wpAnyH_ready (rs := [1]) (by kernel_rfl) (by simp) ?_
                refine AllReadyH.cons (o := { dst := some 47, op := Op.load 26 (Operand.tmp 46), type := 26, pos := "l06_bind.go:84", after := #[{ on := 0, ground := Ground.data }], guard := none }) rfl (fun K hK => ?_) AllReadyH.nil
                have xl0 := (BS.out.box.keep (Below.refl W3.heap.size W3).drew).two.c0
                have hlt0 := (BS.out.box.keep (Below.refl W3.heap.size W3).drew).two.blk
                have xl1 := (BS.out.box.keep (alloc_below W3 (.cells #[.int .i64 (x : Int)] 2))).two.c0
                have xl2 := BS.out.box.two.c0
                have hlt1 := BS.out.box.two.blk
                have xl := (BS.out.box.keep (keepB (Below.refl W3.heap.size W3).drew (alloc_below _ (.cells #[.int .i64 (x : Int)] 2)))).two.c0
                go_simp
                refine hK.out _ _ (CK.out _ (keepB HB.out (keepB (Below.refl W3.heap.size W3).drew (alloc_below _ (.cells #[.int .i64 (x : Int)] 2))))) (fun hHeld => ?_)
                clear hK K xl
                try simp only [Act.put, List.setIfInBounds_toArray, List.set_cons_zero, List.set_cons_succ]
                refine wpAnyH_ready (rs := [10]) (by kernel_rfl) (by simp) ?_
                refine AllReadyH.cons (o := { dst := some 56, op := Op.call { callee := Callee.builtin Builtin.append, args := #[Operand.tmp 47, Operand.tmp 55], argTypes := #[26, 26] }, type := 26, pos := "l06_bind.go:84", after := #[{ on := 1, ground := Ground.data }, { on := 9, ground := Ground.data }], guard := none }) rfl (fun K hK => ?_) AllReadyH.nil
                refine step_append_lies _ rfl _ _ 26 rfl (w.heap.size + 1 + 1) 2 _ (.int .i64 0) 1 8 Try.underlying26 rfl rfl rfl rfl rfl (by decide) va3 nn _ rfl (ownsRow_upon O1.out (keepB (Below.refl W3.heap.size W3).drew (alloc_below _ (.cells #[.int .i64 (x : Int)] 2)))) ⟨W3.drew.heap.size, 0, none⟩ 1 1 [.int .i64 (x : Int)] rfl rfl (one_srcI _ _ _) (oneValI _) (by decide) (by unfold maxLen; omega) (by omega) (by have h1 := BS.out.top; simp; omega) _ rfl ?_
                intro g6 d6 v6 hown hgrow hat hlt6
                have bq := keepB HB.out (keepB (Below.refl W3.heap.size W3).drew (alloc_below _ (.cells #[.int .i64 (x : Int)] 2)))
                have bg := bq.grown hgrow bq.size (fun q hq => Nat.le_trans HBX.out (ownsRow_le O1.out q hq))
                have nX : va3.ownBlock ≠ some (w.heap.size + 1) := fun ee => by have := (block_lt O1.out _ ee).1; omega
                have bx := (BS.out.box.keep (keepB (Below.refl W3.heap.size W3).drew (alloc_below _ (.cells #[.int .i64 (x : Int)] 2)))).grownO hgrow nX
                have hr := (HR.out.keep (keepB (Below.refl W3.heap.size W3).drew (alloc_below _ (.cells #[.int .i64 (x : Int)] 2)))).grownO hgrow (fun ee => by have := (block_lt O1.out _ ee).1; omega)
                have y0 := bx.two.c0
                have yf := bx.f0
                refine hK.out _ _ (CK.out _ bg) (fun hHeld => ?_)
                clear hK K
                try simp only [Act.put, List.setIfInBounds_toArray, List.set_cons_zero, List.set_cons_succ]
                refine wpAnyH_ready (rs := [11]) (by kernel_rfl) (by simp) ?_
                refine AllReadyH.cons (o := { dst := some 57, op := Op.fieldAddr 92 (Operand.tmp 7) 0, type := 0, pos := "l06_bind.go:84", after := #[{ on := 0, ground := Ground.phase }, { on := 1, ground := Ground.phase }, { on := 2, ground := Ground.phase }, { on := 3, ground := Ground.phase }, { on := 4, ground := Ground.phase }, { on := 5, ground := Ground.phase }, { on := 6, ground := Ground.phase }, { on := 7, ground := Ground.phase }, { on := 8, ground := Ground.phase }, { on := 9, ground := Ground.phase }, { on := 10, ground := Ground.phase }], guard := none }) rfl (fun K hK => ?_) AllReadyH.nil
                go_simp
                refine hK.out _ _ (CK.out _ bg) (fun hHeld => ?_)
                clear hK K
                try simp only [Act.put, List.setIfInBounds_toArray, List.set_cons_zero, List.set_cons_succ]
                refine wpAnyH_ready (rs := [12]) (by kernel_rfl) (by simp) ?_
                refine AllReadyH.cons (o := { dst := none, op := Op.store 26 (Operand.tmp 57) (Operand.tmp 56), type := 0, pos := "l06_bind.go:84", after := #[{ on := 11, ground := Ground.data }, { on := 10, ground := Ground.data }, { on := 10, ground := Ground.chain }, { on := 0, ground := Ground.phase }, { on := 1, ground := Ground.phase }, { on := 2, ground := Ground.phase }, { on := 3, ground := Ground.phase }, { on := 4, ground := Ground.phase }, { on := 5, ground := Ground.phase }, { on := 6, ground := Ground.phase }, { on := 7, ground := Ground.phase }, { on := 8, ground := Ground.phase }, { on := 9, ground := Ground.phase }, { on := 10, ground := Ground.phase }], guard := none }) rfl (fun K hK => ?_) AllReadyH.nil
                have bs := bg.setCell (p := ⟨w.heap.size + 1, 0, none⟩) (by simp) (.slice (some ⟨g6, 0, none⟩) (nn + 1) d6)
                have hr2 := hr.other ⟨w.heap.size + 1, 0, none⟩ (.slice (some ⟨g6, 0, none⟩) (nn + 1) d6) (by simp)
                go_simp
                refine hK.out _ _ (CK.out _ bs) (fun hHeld => ?_)
                clear hK K
                try simp only [Act.put, List.setIfInBounds_toArray, List.set_cons_zero, List.set_cons_succ]
                rw [HNN.out] at hown
                have FB := BS.out.mid HK.out (keepB (Below.refl W3.heap.size W3).drew (alloc_below _ (.cells #[.int .i64 (x : Int)] 2))) hgrow hown hat
                rw [← HNN.out] at FB
                have FBH := hidden FB
                have BSH := hidden bs
                have HRH := hidden hr2
                clear FB bs hr2 hr bg bq bx nX y0 yf hown hgrow hat hlt6 hHeld
                refine wpAnyH_done (by kernel_rfl) ?_ _
                go_wp2_with fail
                go_meet
                exact ⟨_, FBH, BSH, HRH⟩
            case rest =>
              rename World => W2
              obtain ⟨va2, MS, HB2, HR2⟩ := hcut
              clear HB HR BS O1
              have HB := HB2
              have HR := HR2
              clear HB2 HR2 HNN hnl nn
              clear d0 c1v
              obtain ⟨gx, ox, cx, ex2, ix, hxc⟩ := I2.out.row k hlt
              have IX := hidden ix
              have EX2 := hidden ex2
              have hxm := (cnD_m HEX.out).1
              have HXL := hidden (cnD_m HEX.out).2
              rw [hxm] at ex2 ix hxc
              have HUK := hidden (show (M x).length = ((updM M v t) x).length by simp [updM, HXV.out])
              have HUL := hidden (show (fun i => (M x).getD i 0) = (fun i => ((updM M v t) x).getD i 0) by simp [updM, HXV.out])
              have hx24 : (M x).length ≤ 24 := by have := HL.out x; rw [← HUK.out] at this; exact this
              obtain ⟨lx, hlx⟩ : ∃ lx, lx = (M x).length := ⟨_, rfl⟩
              have hlx24 : lx ≤ 24 := by omega
              have IX3 := hidden (show Ints w gx ox lx (fun i => (M x).getD i 0) by rw [hlx, ← hxm, ← HXL.out]; exact IX.out)
              replace HUK := hidden (show lx = ((updM M v t) x).length by rw [hlx]; exact HUK.out)
              replace EX2 := hidden (show w.cell? ⟨b2, o2 + k, none⟩ = some (.slice (some ⟨gx, ox, none⟩) lx cx) by rw [hlx]; exact ex2)
              have hb2 : b2 < w.heap.size := I2.out.blk (by omega)
              clear ex2 ix hxc hxm hx24 hlx IX HXL
              obtain ⟨nt, hnt⟩ : ∃ nt, nt = (cnL (updM M v t) x).length := ⟨_, rfl⟩
              have HNT := hidden hnt
              have hntl := cnL_len (updM M v t) x
              rw [← hnt] at hntl
              clear hnt
              obtain ⟨xs, G, hx1, hx2, hx3⟩ := MS.out.terms
              rw [← HNT.out] at hx1
              have XO := hidden hx1
              have HX2 := hidden hx2
              have HX3 := hidden hx3
              have HBX := hidden (show w.heap.size ≤ w.heap.size + 1 + 1 by omega)
              clear hx1 hx2 hx3
              have SC := hidden (show ∀ wd, Below W2.heap.size W2 wd → Calls Try.prog 42 #[.slice (some ⟨gx, ox, none⟩) lx cx] wd fun e w' => ∃ g d, e = .returned (.slice (some ⟨g, 0, none⟩) lx d) ∧ Hid (W2.heap.size ≤ g ∧ ((updM M v t) x).length ≤ d ∧ OwnI w' W2.heap.size g ((updM M v t) x).length d (fun i => ((updM M v t) x).getD i 0) ((updM M v t) x).length) ∧ Below W2.heap.size W2 w' from fun wd hd => by
                refine (l1Ints_any _ _ _ _ _ wd (IX3.out.keep (keepB HB.out hd)) (by omega)).mono ?_
                rintro e w' ⟨g, d, rfl, hg, ho, hb⟩
                have hgs := hd.size
                have hcap := ho.capW
                refine ⟨g, d, rfl, hidden ⟨by omega, ?_, ?_⟩, keepB hd hb⟩
                · rw [← HUK.out]; exact hcap
                · rw [← HUK.out, ← HUL.out]; exact ho.base (by omega))
              go_wp2
              have CK := hidden (show ∀ w', Below w.heap.size w w' → (w'.cell? ⟨E, 1, none⟩ = some (.slice (some ⟨b2, o2, none⟩) (cR M) c2) ∧ w'.cell? ⟨b2, o2 + k, none⟩ = some (.slice (some ⟨gx, ox, none⟩) lx cx)) from fun w' hb => ⟨(HE.out.keep hb).c1, (hb.cell (p := ⟨b2, o2 + k, none⟩) hb2).trans EX2.out⟩)
              refine wp_region_held_drew (S := fun wz => wz.cell? ⟨E, 1, none⟩ = some (.slice (some ⟨b2, o2, none⟩) (cR M) c2) ∧ wz.cell? ⟨b2, o2 + k, none⟩ = some (.slice (some ⟨gx, ox, none⟩) lx cx)) (by kernel_rfl) (CK.out _ (HB.out.drew)) (fun hHeld => ?_)
              refine wpAnyH_take (i := 0) (oi := { dst := some 58, op := Op.fieldAddr 92 (Operand.tmp 7) 1, type := 0, pos := "l06_bind.go:85", after := #[], guard := none }) (v := ?_) rfl (by kernel_rfl) (by kernel_rfl) (by kernel_rfl) (fun _ _ _ h => h) (Or.inl ⟨by rfl, ?_⟩) (by assumption) ?_
              rotate_left
              · (intro wv hSw; (try dsimp only at hSw); go_simp; try with_reducible rfl)
              try simp only [Act.put, List.setIfInBounds_toArray, List.set_cons_zero, List.set_cons_succ]
              refine wpAnyH_take (i := 2) (oi := { dst := some 60, op := Op.move (Operand.tmp 0), type := 97, pos := "l06_bind.go:85", after := #[], guard := none }) (v := ?_) rfl (by kernel_rfl) (by kernel_rfl) (by kernel_rfl) (fun _ _ _ h => h) (Or.inl ⟨by rfl, ?_⟩) (by assumption) ?_
              rotate_left
              · (intro wv hSw; (try dsimp only at hSw); go_simp; try with_reducible rfl)
              try simp only [Act.put, List.setIfInBounds_toArray, List.set_cons_zero, List.set_cons_succ]
              refine wpAnyH_take (i := 3) (oi := { dst := some 61, op := Op.nilCheck (Operand.tmp 60), type := 0, pos := "l06_bind.go:85", after := #[{ on := 2, ground := Ground.data }], guard := none }) (v := ?_) rfl (by kernel_rfl) (by kernel_rfl) (by kernel_rfl) (fun _ _ _ h => h) (Or.inl ⟨by rfl, ?_⟩) (by assumption) ?_
              rotate_left
              · (intro wv hSw; (try dsimp only at hSw); go_simp; try with_reducible rfl)
              try simp only [Act.put, List.setIfInBounds_toArray, List.set_cons_zero, List.set_cons_succ]
              refine wpAnyH_take (i := 4) (oi := { dst := some 62, op := Op.fieldAddr 92 (Operand.tmp 61) 1, type := 0, pos := "l06_bind.go:85", after := #[{ on := 3, ground := Ground.data }], guard := none }) (v := ?_) rfl (by kernel_rfl) (by kernel_rfl) (by kernel_rfl) (fun _ _ _ h => h) (Or.inl ⟨by rfl, ?_⟩) (by assumption) ?_
              rotate_left
              · (intro wv hSw; (try dsimp only at hSw); go_simp; try with_reducible rfl)
              try simp only [Act.put, List.setIfInBounds_toArray, List.set_cons_zero, List.set_cons_succ]
              refine wpAnyH_take (i := 5) (oi := { dst := some 63, op := Op.load 90 (Operand.tmp 62), type := 90, pos := "l06_bind.go:85", after := #[{ on := 4, ground := Ground.data }], guard := none }) (v := ?_) rfl (by kernel_rfl) (by kernel_rfl) (by kernel_rfl) (fun _ _ _ h => h) (Or.inl ⟨by rfl, ?_⟩) (by assumption) ?_
              rotate_left
              · (intro wv hSw; (try dsimp only at hSw); go_simp; try with_reducible rfl)
              try simp only [Act.put, List.setIfInBounds_toArray, List.set_cons_zero, List.set_cons_succ]
              refine wpAnyH_take (i := 6) (oi := { dst := some 64, op := Op.move (Operand.tmp 9), type := 3, pos := "l06_bind.go:85", after := #[], guard := none }) (v := ?_) rfl (by kernel_rfl) (by kernel_rfl) (by kernel_rfl) (fun _ _ _ h => h) (Or.inl ⟨by rfl, ?_⟩) (by assumption) ?_
              rotate_left
              · (intro wv hSw; (try dsimp only at hSw); go_simp; try with_reducible rfl)
              try simp only [Act.put, List.setIfInBounds_toArray, List.set_cons_zero, List.set_cons_succ]
              refine wpAnyH_take (i := 7) (oi := { dst := some 65, op := Op.indexAddr 90 (Operand.tmp 63) (Operand.tmp 64), type := 0, pos := "l06_bind.go:85", after := #[{ on := 5, ground := Ground.data }, { on := 6, ground := Ground.data }], guard := none }) (v := ?_) rfl (by kernel_rfl) (by kernel_rfl) (by kernel_rfl) (fun _ _ _ h => h) (Or.inl ⟨by rfl, ?_⟩) (by assumption) ?_
              rotate_left
              · (intro wv hSw; (try dsimp only at hSw); go_simp; try with_reducible rfl)
              try simp only [Act.put, List.setIfInBounds_toArray, List.set_cons_zero, List.set_cons_succ]
              refine wpAnyH_take (i := 8) (oi := { dst := some 66, op := Op.load 26 (Operand.tmp 65), type := 26, pos := "l06_bind.go:85", after := #[{ on := 7, ground := Ground.data }], guard := none }) (v := ?_) rfl (by kernel_rfl) (by kernel_rfl) (by kernel_rfl) (fun _ _ _ h => h) (Or.inl ⟨by rfl, ?_⟩) (by assumption) ?_
              rotate_left
              · (intro wv hSw; (try dsimp only at hSw); go_simp; try with_reducible rfl)
              try simp only [Act.put, List.setIfInBounds_toArray, List.set_cons_zero, List.set_cons_succ]
              refine wpAnyH_ready (rs := [1, 9]) (by kernel_rfl) (by simp) ?_
              refine AllReadyH.cons (o := { dst := some 59, op := Op.load 90 (Operand.tmp 58), type := 90, pos := "l06_bind.go:85", after := #[{ on := 0, ground := Ground.data }], guard := none }) rfl (fun K hK => ?_) (AllReadyH.cons (o := { dst := some 67, op := Op.call { callee := Callee.value (Operand.func 42), args := #[Operand.tmp 66], argTypes := #[26] }, type := 26, pos := "l06_bind.go:85", after := #[{ on := 8, ground := Ground.data }], guard := none }) rfl (fun K hK => ?_) AllReadyH.nil)
              · have xl := (MS.out.box.keep (Below.refl W2.heap.size W2).drew).two.c1
                go_simp
                refine hK.out _ _ (CK.out _ (keepB HB.out (Below.refl W2.heap.size W2).drew)) (fun hHeld => ?_)
                clear hK K xl
                try simp only [Act.put, List.setIfInBounds_toArray, List.set_cons_zero, List.set_cons_succ]
                refine wpAnyH_ready (rs := [9]) (by kernel_rfl) (by simp) ?_
                refine AllReadyH.cons (o := { dst := some 67, op := Op.call { callee := Callee.value (Operand.func 42), args := #[Operand.tmp 66], argTypes := #[26] }, type := 26, pos := "l06_bind.go:85", after := #[{ on := 8, ground := Ground.data }], guard := none }) rfl (fun K hK => ?_) AllReadyH.nil
                go_simp
                go_at_call 42; with_reducible refine (SC.out _ (Below.refl _ _).drew).mono ?_; rintro e v1 ⟨gc, dc, rfl, HGC, bc⟩
                try go_wp2_with fail
                refine hK.out _ _ (CK.out _ (keepB HB.out bc)) (fun hHeld => ?_)
                clear hK K
                try simp only [Act.put, List.setIfInBounds_toArray, List.set_cons_zero, List.set_cons_succ]
                refine wpAnyH_ready (rs := [10]) (by kernel_rfl) (by simp) ?_
                refine AllReadyH.cons (o := { dst := some 68, op := Op.buildSlice 90 1 #[(0, Operand.tmp 67)], type := 90, pos := "l06_bind.go:85", after := #[{ on := 9, ground := Ground.data }], guard := none }) rfl (fun K hK => ?_) AllReadyH.nil
                go_simp
                refine hK.out _ _ (CK.out _ (keepB HB.out (keepB bc (alloc_below _ (.cells #[.slice (some ⟨gc, 0, none⟩) lx dc] 26))))) (fun hHeld => ?_)
                clear hK K
                try simp only [Act.put, List.setIfInBounds_toArray, List.set_cons_zero, List.set_cons_succ]
                refine wpAnyH_ready (rs := [11]) (by kernel_rfl) (by simp) ?_
                refine AllReadyH.cons (o := { dst := some 69, op := Op.call { callee := Callee.builtin Builtin.append, args := #[Operand.tmp 59, Operand.tmp 68], argTypes := #[90, 90] }, type := 90, pos := "l06_bind.go:85", after := #[{ on := 1, ground := Ground.data }, { on := 10, ground := Ground.data }, { on := 9, ground := Ground.chain }], guard := none }) rfl (fun K hK => ?_) AllReadyH.nil
                refine step_append_lies _ rfl _ _ 90 rfl (w.heap.size + 1 + 1) 26 _ (.slice none 0 0) 1 24 Try.underlying90 rfl rfl rfl rfl rfl (by decide) ta3 nt xs rfl (ownsRow_upon XO.out (keepB bc (alloc_below _ (.cells #[.slice (some ⟨gc, 0, none⟩) lx dc] 26)))) ⟨v1.heap.size, 0, none⟩ 1 1 [.slice (some ⟨gc, 0, none⟩) lx dc] rfl rfl (one_srcI _ _ _) (by intro u hu; simp at hu; rw [hu]; rfl) (by decide) (by unfold maxLen; omega) (by omega) (by have h1 := MS.out.top; have h2 := bc.size; simp; omega) _ rfl ?_
                intro g6 d6 v6 hown hgrow hat hlt6
                have bq := keepB HB.out (keepB bc (alloc_below _ (.cells #[.slice (some ⟨gc, 0, none⟩) lx dc] 26)))
                have bg := bq.grown hgrow bq.size (fun q hq => Nat.le_trans HBX.out (ownsRow_le XO.out q hq))
                have nX : ta3.ownBlock ≠ some (w.heap.size + 1) := fun ee => by have := (block_lt XO.out _ ee).1; omega
                have bx := (MS.out.box.keep (keepB bc (alloc_below _ (.cells #[.slice (some ⟨gc, 0, none⟩) lx dc] 26)))).grownO hgrow nX
                have hr := (HR.out.keep (keepB bc (alloc_below _ (.cells #[.slice (some ⟨gc, 0, none⟩) lx dc] 26)))).grownO hgrow (fun ee => by have := (block_lt XO.out _ ee).1; omega)
                have y0 := bx.two.c1
                have yf := bx.f1
                refine hK.out _ _ (CK.out _ bg) (fun hHeld => ?_)
                clear hK K
                try simp only [Act.put, List.setIfInBounds_toArray, List.set_cons_zero, List.set_cons_succ]
                refine wpAnyH_ready (rs := [12]) (by kernel_rfl) (by simp) ?_
                refine AllReadyH.cons (o := { dst := some 70, op := Op.fieldAddr 92 (Operand.tmp 7) 1, type := 0, pos := "l06_bind.go:85", after := #[{ on := 0, ground := Ground.phase }, { on := 1, ground := Ground.phase }, { on := 2, ground := Ground.phase }, { on := 3, ground := Ground.phase }, { on := 4, ground := Ground.phase }, { on := 5, ground := Ground.phase }, { on := 6, ground := Ground.phase }, { on := 7, ground := Ground.phase }, { on := 8, ground := Ground.phase }, { on := 9, ground := Ground.phase }, { on := 10, ground := Ground.phase }, { on := 11, ground := Ground.phase }], guard := none }) rfl (fun K hK => ?_) AllReadyH.nil
                go_simp
                refine hK.out _ _ (CK.out _ bg) (fun hHeld => ?_)
                clear hK K
                try simp only [Act.put, List.setIfInBounds_toArray, List.set_cons_zero, List.set_cons_succ]
                refine wpAnyH_ready (rs := [13]) (by kernel_rfl) (by simp) ?_
                refine AllReadyH.cons (o := { dst := none, op := Op.store 90 (Operand.tmp 70) (Operand.tmp 69), type := 0, pos := "l06_bind.go:85", after := #[{ on := 12, ground := Ground.data }, { on := 11, ground := Ground.data }, { on := 11, ground := Ground.chain }, { on := 0, ground := Ground.phase }, { on := 1, ground := Ground.phase }, { on := 2, ground := Ground.phase }, { on := 3, ground := Ground.phase }, { on := 4, ground := Ground.phase }, { on := 5, ground := Ground.phase }, { on := 6, ground := Ground.phase }, { on := 7, ground := Ground.phase }, { on := 8, ground := Ground.phase }, { on := 9, ground := Ground.phase }, { on := 10, ground := Ground.phase }, { on := 11, ground := Ground.phase }], guard := none }) rfl (fun K hK => ?_) AllReadyH.nil
                have bs := bg.setCell (p := ⟨w.heap.size + 1, 1, none⟩) (by simp) (.slice (some ⟨g6, 0, none⟩) (nt + 1) d6)
                have hr2 := hr.other ⟨w.heap.size + 1, 1, none⟩ (.slice (some ⟨g6, 0, none⟩) (nt + 1) d6) (by simp)
                go_simp
                refine hK.out _ _ (CK.out _ bs) (fun hHeld => ?_)
                clear hK K
                try simp only [Act.put, List.setIfInBounds_toArray, List.set_cons_zero, List.set_cons_succ]
                rw [HNT.out] at hown
                have FB := MS.out.fin HK.out (keepB bc (alloc_below _ (.cells #[.slice (some ⟨gc, 0, none⟩) lx dc] 26))) hgrow (by have := ownsRow_upon XO.out (keepB bc (alloc_below _ (.cells #[.slice (some ⟨gc, 0, none⟩) lx dc] 26))); rw [HNT.out] at this; exact this) (fun i hi => by
                  obtain ⟨d, a1, a2, a3, a4, a5, a6⟩ := HX2.out i hi
                  exact ⟨d, a1, a2, a3, a4, a5, a6.lt, a6.keep (keepB bc (alloc_below _ (.cells #[.slice (some ⟨gc, 0, none⟩) lx dc] 26)))⟩) HX3.out HGC.out.1 (HGC.out.2.2.keep (alloc_below _ _)) HGC.out.2.1 (by have := hown; rw [HUK.out] at this; exact this) hat
                rw [← HNT.out] at FB
                have FBH := hidden FB
                have BSH := hidden bs
                have HRH := hidden hr2
                clear FB bs hr2 hr bg bq bx nX y0 yf hown hgrow hat hlt6 hHeld
                refine wpAnyH_done (by kernel_rfl) ?_ _
                go_wp2
                go_roundw
                case rel => exact ⟨k + 1, x + 1, true, _, _, by omega, by go_num, rfl, HW2, FBH, HRH, BSH⟩
                case measure => simp [intOf]; omega
              · go_simp
                go_at_call 42; with_reducible refine (SC.out _ (Below.refl _ _).drew).mono ?_; rintro e v1 ⟨gc, dc, rfl, HGC, bc⟩
                try go_wp2_with fail
                refine hK.out _ _ (CK.out _ (keepB HB.out bc)) (fun hHeld => ?_)
                clear hK K
                try simp only [Act.put, List.setIfInBounds_toArray, List.set_cons_zero, List.set_cons_succ]
                refine wpAnyH_ready (rs := [1, 10]) (by kernel_rfl) (by simp) ?_
                refine AllReadyH.cons (o := { dst := some 59, op := Op.load 90 (Operand.tmp 58), type := 90, pos := "l06_bind.go:85", after := #[{ on := 0, ground := Ground.data }], guard := none }) rfl (fun K hK => ?_) (AllReadyH.cons (o := { dst := some 68, op := Op.buildSlice 90 1 #[(0, Operand.tmp 67)], type := 90, pos := "l06_bind.go:85", after := #[{ on := 9, ground := Ground.data }], guard := none }) rfl (fun K hK => ?_) AllReadyH.nil)
                · have xl := (MS.out.box.keep bc).two.c1
                  go_simp
                  refine hK.out _ _ (CK.out _ (keepB HB.out bc)) (fun hHeld => ?_)
                  clear hK K xl
                  try simp only [Act.put, List.setIfInBounds_toArray, List.set_cons_zero, List.set_cons_succ]
                  refine wpAnyH_ready (rs := [10]) (by kernel_rfl) (by simp) ?_
                  refine AllReadyH.cons (o := { dst := some 68, op := Op.buildSlice 90 1 #[(0, Operand.tmp 67)], type := 90, pos := "l06_bind.go:85", after := #[{ on := 9, ground := Ground.data }], guard := none }) rfl (fun K hK => ?_) AllReadyH.nil
                  go_simp
                  refine hK.out _ _ (CK.out _ (keepB HB.out (keepB bc (alloc_below _ (.cells #[.slice (some ⟨gc, 0, none⟩) lx dc] 26))))) (fun hHeld => ?_)
                  clear hK K
                  try simp only [Act.put, List.setIfInBounds_toArray, List.set_cons_zero, List.set_cons_succ]
                  refine wpAnyH_ready (rs := [11]) (by kernel_rfl) (by simp) ?_
                  refine AllReadyH.cons (o := { dst := some 69, op := Op.call { callee := Callee.builtin Builtin.append, args := #[Operand.tmp 59, Operand.tmp 68], argTypes := #[90, 90] }, type := 90, pos := "l06_bind.go:85", after := #[{ on := 1, ground := Ground.data }, { on := 10, ground := Ground.data }, { on := 9, ground := Ground.chain }], guard := none }) rfl (fun K hK => ?_) AllReadyH.nil
                  refine step_append_lies _ rfl _ _ 90 rfl (w.heap.size + 1 + 1) 26 _ (.slice none 0 0) 1 24 Try.underlying90 rfl rfl rfl rfl rfl (by decide) ta3 nt xs rfl (ownsRow_upon XO.out (keepB bc (alloc_below _ (.cells #[.slice (some ⟨gc, 0, none⟩) lx dc] 26)))) ⟨v1.heap.size, 0, none⟩ 1 1 [.slice (some ⟨gc, 0, none⟩) lx dc] rfl rfl (one_srcI _ _ _) (by intro u hu; simp at hu; rw [hu]; rfl) (by decide) (by unfold maxLen; omega) (by omega) (by have h1 := MS.out.top; have h2 := bc.size; simp; omega) _ rfl ?_
                  intro g6 d6 v6 hown hgrow hat hlt6
                  have bq := keepB HB.out (keepB bc (alloc_below _ (.cells #[.slice (some ⟨gc, 0, none⟩) lx dc] 26)))
                  have bg := bq.grown hgrow bq.size (fun q hq => Nat.le_trans HBX.out (ownsRow_le XO.out q hq))
                  have nX : ta3.ownBlock ≠ some (w.heap.size + 1) := fun ee => by have := (block_lt XO.out _ ee).1; omega
                  have bx := (MS.out.box.keep (keepB bc (alloc_below _ (.cells #[.slice (some ⟨gc, 0, none⟩) lx dc] 26)))).grownO hgrow nX
                  have hr := (HR.out.keep (keepB bc (alloc_below _ (.cells #[.slice (some ⟨gc, 0, none⟩) lx dc] 26)))).grownO hgrow (fun ee => by have := (block_lt XO.out _ ee).1; omega)
                  have y0 := bx.two.c1
                  have yf := bx.f1
                  refine hK.out _ _ (CK.out _ bg) (fun hHeld => ?_)
                  clear hK K
                  try simp only [Act.put, List.setIfInBounds_toArray, List.set_cons_zero, List.set_cons_succ]
                  refine wpAnyH_ready (rs := [12]) (by kernel_rfl) (by simp) ?_
                  refine AllReadyH.cons (o := { dst := some 70, op := Op.fieldAddr 92 (Operand.tmp 7) 1, type := 0, pos := "l06_bind.go:85", after := #[{ on := 0, ground := Ground.phase }, { on := 1, ground := Ground.phase }, { on := 2, ground := Ground.phase }, { on := 3, ground := Ground.phase }, { on := 4, ground := Ground.phase }, { on := 5, ground := Ground.phase }, { on := 6, ground := Ground.phase }, { on := 7, ground := Ground.phase }, { on := 8, ground := Ground.phase }, { on := 9, ground := Ground.phase }, { on := 10, ground := Ground.phase }, { on := 11, ground := Ground.phase }], guard := none }) rfl (fun K hK => ?_) AllReadyH.nil
                  go_simp
                  refine hK.out _ _ (CK.out _ bg) (fun hHeld => ?_)
                  clear hK K
                  try simp only [Act.put, List.setIfInBounds_toArray, List.set_cons_zero, List.set_cons_succ]
                  refine wpAnyH_ready (rs := [13]) (by kernel_rfl) (by simp) ?_
                  refine AllReadyH.cons (o := { dst := none, op := Op.store 90 (Operand.tmp 70) (Operand.tmp 69), type := 0, pos := "l06_bind.go:85", after := #[{ on := 12, ground := Ground.data }, { on := 11, ground := Ground.data }, { on := 11, ground := Ground.chain }, { on := 0, ground := Ground.phase }, { on := 1, ground := Ground.phase }, { on := 2, ground := Ground.phase }, { on := 3, ground := Ground.phase }, { on := 4, ground := Ground.phase }, { on := 5, ground := Ground.phase }, { on := 6, ground := Ground.phase }, { on := 7, ground := Ground.phase }, { on := 8, ground := Ground.phase }, { on := 9, ground := Ground.phase }, { on := 10, ground := Ground.phase }, { on := 11, ground := Ground.phase }], guard := none }) rfl (fun K hK => ?_) AllReadyH.nil
                  have bs := bg.setCell (p := ⟨w.heap.size + 1, 1, none⟩) (by simp) (.slice (some ⟨g6, 0, none⟩) (nt + 1) d6)
                  have hr2 := hr.other ⟨w.heap.size + 1, 1, none⟩ (.slice (some ⟨g6, 0, none⟩) (nt + 1) d6) (by simp)
                  go_simp
                  refine hK.out _ _ (CK.out _ bs) (fun hHeld => ?_)
                  clear hK K
                  try simp only [Act.put, List.setIfInBounds_toArray, List.set_cons_zero, List.set_cons_succ]
                  rw [HNT.out] at hown
                  have FB := MS.out.fin HK.out (keepB bc (alloc_below _ (.cells #[.slice (some ⟨gc, 0, none⟩) lx dc] 26))) hgrow (by have := ownsRow_upon XO.out (keepB bc (alloc_below _ (.cells #[.slice (some ⟨gc, 0, none⟩) lx dc] 26))); rw [HNT.out] at this; exact this) (fun i hi => by
                    obtain ⟨d, a1, a2, a3, a4, a5, a6⟩ := HX2.out i hi
                    exact ⟨d, a1, a2, a3, a4, a5, a6.lt, a6.keep (keepB bc (alloc_below _ (.cells #[.slice (some ⟨gc, 0, none⟩) lx dc] 26)))⟩) HX3.out HGC.out.1 (HGC.out.2.2.keep (alloc_below _ _)) HGC.out.2.1 (by have := hown; rw [HUK.out] at this; exact this) hat
                  rw [← HNT.out] at FB
                  have FBH := hidden FB
                  have BSH := hidden bs
                  have HRH := hidden hr2
                  clear FB bs hr2 hr bg bq bx nX y0 yf hown hgrow hat hlt6 hHeld
                  refine wpAnyH_done (by kernel_rfl) ?_ _
                  go_wp2
                  go_roundw
                  case rel => exact ⟨k + 1, x + 1, true, _, _, by omega, by go_num, rfl, HW2, FBH, HRH, BSH⟩
                  case measure => simp [intOf]; omega
                · go_simp
                  refine hK.out _ _ (CK.out _ (keepB HB.out (keepB bc (alloc_below _ (.cells #[.slice (some ⟨gc, 0, none⟩) lx dc] 26))))) (fun hHeld => ?_)
                  clear hK K
                  try simp only [Act.put, List.setIfInBounds_toArray, List.set_cons_zero, List.set_cons_succ]
                  refine wpAnyH_ready (rs := [1]) (by kernel_rfl) (by simp) ?_
                  refine AllReadyH.cons (o := { dst := some 59, op := Op.load 90 (Operand.tmp 58), type := 90, pos := "l06_bind.go:85", after := #[{ on := 0, ground := Ground.data }], guard := none }) rfl (fun K hK => ?_) AllReadyH.nil
                  have xl0 := (MS.out.box.keep bc).two.c1
                  have hlt0 := (MS.out.box.keep bc).two.blk
                  have xl := (MS.out.box.keep (keepB bc (alloc_below _ (.cells #[.slice (some ⟨gc, 0, none⟩) lx dc] 26)))).two.c1
                  go_simp
                  refine hK.out _ _ (CK.out _ (keepB HB.out (keepB bc (alloc_below _ (.cells #[.slice (some ⟨gc, 0, none⟩) lx dc] 26))))) (fun hHeld => ?_)
                  clear hK K xl
                  try simp only [Act.put, List.setIfInBounds_toArray, List.set_cons_zero, List.set_cons_succ]
                  refine wpAnyH_ready (rs := [11]) (by kernel_rfl) (by simp) ?_
                  refine AllReadyH.cons (o := { dst := some 69, op := Op.call { callee := Callee.builtin Builtin.append, args := #[Operand.tmp 59, Operand.tmp 68], argTypes := #[90, 90] }, type := 90, pos := "l06_bind.go:85", after := #[{ on := 1, ground := Ground.data }, { on := 10, ground := Ground.data }, { on := 9, ground := Ground.chain }], guard := none }) rfl (fun K hK => ?_) AllReadyH.nil
                  refine step_append_lies _ rfl _ _ 90 rfl (w.heap.size + 1 + 1) 26 _ (.slice none 0 0) 1 24 Try.underlying90 rfl rfl rfl rfl rfl (by decide) ta3 nt xs rfl (ownsRow_upon XO.out (keepB bc (alloc_below _ (.cells #[.slice (some ⟨gc, 0, none⟩) lx dc] 26)))) ⟨v1.heap.size, 0, none⟩ 1 1 [.slice (some ⟨gc, 0, none⟩) lx dc] rfl rfl (one_srcI _ _ _) (by intro u hu; simp at hu; rw [hu]; rfl) (by decide) (by unfold maxLen; omega) (by omega) (by have h1 := MS.out.top; have h2 := bc.size; simp; omega) _ rfl ?_
                  intro g6 d6 v6 hown hgrow hat hlt6
                  have bq := keepB HB.out (keepB bc (alloc_below _ (.cells #[.slice (some ⟨gc, 0, none⟩) lx dc] 26)))
                  have bg := bq.grown hgrow bq.size (fun q hq => Nat.le_trans HBX.out (ownsRow_le XO.out q hq))
                  have nX : ta3.ownBlock ≠ some (w.heap.size + 1) := fun ee => by have := (block_lt XO.out _ ee).1; omega
                  have bx := (MS.out.box.keep (keepB bc (alloc_below _ (.cells #[.slice (some ⟨gc, 0, none⟩) lx dc] 26)))).grownO hgrow nX
                  have hr := (HR.out.keep (keepB bc (alloc_below _ (.cells #[.slice (some ⟨gc, 0, none⟩) lx dc] 26)))).grownO hgrow (fun ee => by have := (block_lt XO.out _ ee).1; omega)
                  have y0 := bx.two.c1
                  have yf := bx.f1
                  refine hK.out _ _ (CK.out _ bg) (fun hHeld => ?_)
                  clear hK K
                  try simp only [Act.put, List.setIfInBounds_toArray, List.set_cons_zero, List.set_cons_succ]
                  refine wpAnyH_ready (rs := [12]) (by kernel_rfl) (by simp) ?_
                  refine AllReadyH.cons (o := { dst := some 70, op := Op.fieldAddr 92 (Operand.tmp 7) 1, type := 0, pos := "l06_bind.go:85", after := #[{ on := 0, ground := Ground.phase }, { on := 1, ground := Ground.phase }, { on := 2, ground := Ground.phase }, { on := 3, ground := Ground.phase }, { on := 4, ground := Ground.phase }, { on := 5, ground := Ground.phase }, { on := 6, ground := Ground.phase }, { on := 7, ground := Ground.phase }, { on := 8, ground := Ground.phase }, { on := 9, ground := Ground.phase }, { on := 10, ground := Ground.phase }, { on := 11, ground := Ground.phase }], guard := none }) rfl (fun K hK => ?_) AllReadyH.nil
                  go_simp
                  refine hK.out _ _ (CK.out _ bg) (fun hHeld => ?_)
                  clear hK K
                  try simp only [Act.put, List.setIfInBounds_toArray, List.set_cons_zero, List.set_cons_succ]
                  refine wpAnyH_ready (rs := [13]) (by kernel_rfl) (by simp) ?_
                  refine AllReadyH.cons (o := { dst := none, op := Op.store 90 (Operand.tmp 70) (Operand.tmp 69), type := 0, pos := "l06_bind.go:85", after := #[{ on := 12, ground := Ground.data }, { on := 11, ground := Ground.data }, { on := 11, ground := Ground.chain }, { on := 0, ground := Ground.phase }, { on := 1, ground := Ground.phase }, { on := 2, ground := Ground.phase }, { on := 3, ground := Ground.phase }, { on := 4, ground := Ground.phase }, { on := 5, ground := Ground.phase }, { on := 6, ground := Ground.phase }, { on := 7, ground := Ground.phase }, { on := 8, ground := Ground.phase }, { on := 9, ground := Ground.phase }, { on := 10, ground := Ground.phase }, { on := 11, ground := Ground.phase }], guard := none }) rfl (fun K hK => ?_) AllReadyH.nil
                  have bs := bg.setCell (p := ⟨w.heap.size + 1, 1, none⟩) (by simp) (.slice (some ⟨g6, 0, none⟩) (nt + 1) d6)
                  have hr2 := hr.other ⟨w.heap.size + 1, 1, none⟩ (.slice (some ⟨g6, 0, none⟩) (nt + 1) d6) (by simp)
                  go_simp
                  refine hK.out _ _ (CK.out _ bs) (fun hHeld => ?_)
                  clear hK K
                  try simp only [Act.put, List.setIfInBounds_toArray, List.set_cons_zero, List.set_cons_succ]
                  rw [HNT.out] at hown
                  have FB := MS.out.fin HK.out (keepB bc (alloc_below _ (.cells #[.slice (some ⟨gc, 0, none⟩) lx dc] 26))) hgrow (by have := ownsRow_upon XO.out (keepB bc (alloc_below _ (.cells #[.slice (some ⟨gc, 0, none⟩) lx dc] 26))); rw [HNT.out] at this; exact this) (fun i hi => by
                    obtain ⟨d, a1, a2, a3, a4, a5, a6⟩ := HX2.out i hi
                    exact ⟨d, a1, a2, a3, a4, a5, a6.lt, a6.keep (keepB bc (alloc_below _ (.cells #[.slice (some ⟨gc, 0, none⟩) lx dc] 26)))⟩) HX3.out HGC.out.1 (HGC.out.2.2.keep (alloc_below _ _)) HGC.out.2.1 (by have := hown; rw [HUK.out] at this; exact this) hat
                  rw [← HNT.out] at FB
                  have FBH := hidden FB
                  have BSH := hidden bs
                  have HRH := hidden hr2
                  clear FB bs hr2 hr bg bq bx nX y0 yf hown hgrow hat hlt6 hHeld
                  refine wpAnyH_done (by kernel_rfl) ?_ _
                  go_wp2
                  go_roundw
                  case rel => exact ⟨k + 1, x + 1, true, _, _, by omega, by go_num, rfl, HW2, FBH, HRH, BSH⟩
                  case measure => simp [intOf]; omega
        · have hvx' : ¬ (v : Int) < (x : Int) := by omega
          have HK := hidden (hasU_x (v := v) (t := t) HXV.out HMX.out)
          have HW2 := hidden (HW.out.step hlt HEX.out (Or.inr (by have := HXV.out; omega)))
          replace BS := hidden (BySt.skips _ (Nat.le_refl _) (by have := HW.out.ahead k (Nat.le_refl _) hlt; have := HEX.out; omega) (HW.out.gapx hlt HEX.out (Or.inr (by have := HXV.out; omega))) BS.out)
          clear HW
          obtain ⟨nn, hnn⟩ : ∃ nn, nn = (cnL (updM M v t) x).length := ⟨_, rfl⟩
          have HNN := hidden hnn
          have hnl := cnL_len (updM M v t) x
          rw [← hnn] at hnl
          have O1 := hidden BS.out.vars
          rw [← hnn] at O1
          have HBX := hidden (show w.heap.size ≤ w.heap.size + 1 + 1 by omega)
          clear hnn
          go_wp2
          go_cut [56] (fun _ wc => ∃ va', Hid (MidSt wc (w.heap.size + 1 + 1) (w.heap.size + 1) (updM M v t) x va' ta) ∧ Hid (Below w.heap.size w wc) ∧ Hid (Own2 wc w.heap.size (.slice none 0 0) (.slice none 0 0)))
          case first =>
            have CK := hidden (show ∀ w', Below w.heap.size w w' → (w'.cell? ⟨E, 0, none⟩ = some (.slice (some ⟨b1, o1, none⟩) (cR M) c1) ∧ w'.cell? ⟨b1, o1 + k, none⟩ = some (.int .i64 (x : Int))) from fun w' hb => ⟨(HE.out.keep hb).c0, by have := (I1.out.keep hb).cell k hlt; rw [HEX.out] at this; exact this⟩)
            refine wp_region_held_drew (S := fun wz => wz.cell? ⟨E, 0, none⟩ = some (.slice (some ⟨b1, o1, none⟩) (cR M) c1) ∧ wz.cell? ⟨b1, o1 + k, none⟩ = some (.int .i64 (x : Int))) (by kernel_rfl) (CK.out _ (HB.out.drew)) (fun hHeld => ?_)
            refine wpAnyH_take (i := 0) (oi := { dst := some 46, op := Op.fieldAddr 92 (Operand.tmp 7) 0, type := 0, pos := "l06_bind.go:84", after := #[], guard := none }) (v := ?_) rfl (by kernel_rfl) (by kernel_rfl) (by kernel_rfl) (fun _ _ _ h => h) (Or.inl ⟨by rfl, ?_⟩) (by assumption) ?_
            rotate_left
            · (intro wv hSw; (try dsimp only at hSw); go_simp; try with_reducible rfl)
            try simp only [Act.put, List.setIfInBounds_toArray, List.set_cons_zero, List.set_cons_succ]
            refine wpAnyH_take (i := 2) (oi := { dst := some 48, op := Op.move (Operand.tmp 0), type := 97, pos := "l06_bind.go:84", after := #[], guard := none }) (v := ?_) rfl (by kernel_rfl) (by kernel_rfl) (by kernel_rfl) (fun _ _ _ h => h) (Or.inl ⟨by rfl, ?_⟩) (by assumption) ?_
            rotate_left
            · (intro wv hSw; (try dsimp only at hSw); go_simp; try with_reducible rfl)
            try simp only [Act.put, List.setIfInBounds_toArray, List.set_cons_zero, List.set_cons_succ]
            refine wpAnyH_take (i := 3) (oi := { dst := some 49, op := Op.nilCheck (Operand.tmp 48), type := 0, pos := "l06_bind.go:84", after := #[{ on := 2, ground := Ground.data }], guard := none }) (v := ?_) rfl (by kernel_rfl) (by kernel_rfl) (by kernel_rfl) (fun _ _ _ h => h) (Or.inl ⟨by rfl, ?_⟩) (by assumption) ?_
            rotate_left
            · (intro wv hSw; (try dsimp only at hSw); go_simp; try with_reducible rfl)
            try simp only [Act.put, List.setIfInBounds_toArray, List.set_cons_zero, List.set_cons_succ]
            refine wpAnyH_take (i := 4) (oi := { dst := some 50, op := Op.fieldAddr 92 (Operand.tmp 49) 0, type := 0, pos := "l06_bind.go:84", after := #[{ on := 3, ground := Ground.data }], guard := none }) (v := ?_) rfl (by kernel_rfl) (by kernel_rfl) (by kernel_rfl) (fun _ _ _ h => h) (Or.inl ⟨by rfl, ?_⟩) (by assumption) ?_
            rotate_left
            · (intro wv hSw; (try dsimp only at hSw); go_simp; try with_reducible rfl)
            try simp only [Act.put, List.setIfInBounds_toArray, List.set_cons_zero, List.set_cons_succ]
            refine wpAnyH_take (i := 5) (oi := { dst := some 51, op := Op.load 26 (Operand.tmp 50), type := 26, pos := "l06_bind.go:84", after := #[{ on := 4, ground := Ground.data }], guard := none }) (v := ?_) rfl (by kernel_rfl) (by kernel_rfl) (by kernel_rfl) (fun _ _ _ h => h) (Or.inl ⟨by rfl, ?_⟩) (by assumption) ?_
            rotate_left
            · (intro wv hSw; (try dsimp only at hSw); go_simp; try with_reducible rfl)
            try simp only [Act.put, List.setIfInBounds_toArray, List.set_cons_zero, List.set_cons_succ]
            refine wpAnyH_take (i := 6) (oi := { dst := some 52, op := Op.move (Operand.tmp 9), type := 3, pos := "l06_bind.go:84", after := #[], guard := none }) (v := ?_) rfl (by kernel_rfl) (by kernel_rfl) (by kernel_rfl) (fun _ _ _ h => h) (Or.inl ⟨by rfl, ?_⟩) (by assumption) ?_
            rotate_left
            · (intro wv hSw; (try dsimp only at hSw); go_simp; try with_reducible rfl)
            try simp only [Act.put, List.setIfInBounds_toArray, List.set_cons_zero, List.set_cons_succ]
            refine wpAnyH_take (i := 7) (oi := { dst := some 53, op := Op.indexAddr 26 (Operand.tmp 51) (Operand.tmp 52), type := 0, pos := "l06_bind.go:84", after := #[{ on := 5, ground := Ground.data }, { on := 6, ground := Ground.data }], guard := none }) (v := ?_) rfl (by kernel_rfl) (by kernel_rfl) (by kernel_rfl) (fun _ _ _ h => h) (Or.inl ⟨by rfl, ?_⟩) (by assumption) ?_
            rotate_left
            · (intro wv hSw; (try dsimp only at hSw); go_simp; try with_reducible rfl)
            try simp only [Act.put, List.setIfInBounds_toArray, List.set_cons_zero, List.set_cons_succ]
            refine wpAnyH_take (i := 8) (oi := { dst := some 54, op := Op.load 2 (Operand.tmp 53), type := 2, pos := "l06_bind.go:84", after := #[{ on := 7, ground := Ground.data }], guard := none }) (v := ?_) rfl (by kernel_rfl) (by kernel_rfl) (by kernel_rfl) (fun _ _ _ h => h) (Or.inl ⟨by rfl, ?_⟩) (by assumption) ?_
            rotate_left
            · (intro wv hSw; (try dsimp only at hSw); go_simp; try with_reducible rfl)
            try simp only [Act.put, List.setIfInBounds_toArray, List.set_cons_zero, List.set_cons_succ]
            refine wpAnyH_ready (rs := [1, 9]) (by kernel_rfl) (by simp) ?_
            refine AllReadyH.cons (o := { dst := some 47, op := Op.load 26 (Operand.tmp 46), type := 26, pos := "l06_bind.go:84", after := #[{ on := 0, ground := Ground.data }], guard := none }) rfl (fun K hK => ?_) (AllReadyH.cons (o := { dst := some 55, op := Op.buildSlice 26 1 #[(0, Operand.tmp 54)], type := 26, pos := "l06_bind.go:84", after := #[{ on := 8, ground := Ground.data }], guard := none }) rfl (fun K hK => ?_) AllReadyH.nil)
            · have xl := (BS.out.box.keep (Below.refl wr.heap.size wr).drew).two.c0
              go_simp
              refine hK.out _ _ (CK.out _ (keepB HB.out (Below.refl wr.heap.size wr).drew)) (fun hHeld => ?_)
              clear hK K xl
              try simp only [Act.put, List.setIfInBounds_toArray, List.set_cons_zero, List.set_cons_succ]
              refine wpAnyH_ready (rs := [9]) (by kernel_rfl) (by simp) ?_
              refine AllReadyH.cons (o := { dst := some 55, op := Op.buildSlice 26 1 #[(0, Operand.tmp 54)], type := 26, pos := "l06_bind.go:84", after := #[{ on := 8, ground := Ground.data }], guard := none }) rfl (fun K hK => ?_) AllReadyH.nil
              go_simp
              refine hK.out _ _ (CK.out _ (keepB HB.out (keepB (Below.refl wr.heap.size wr).drew (alloc_below _ (.cells #[.int .i64 (x : Int)] 2))))) (fun hHeld => ?_)
              clear hK K
              try simp only [Act.put, List.setIfInBounds_toArray, List.set_cons_zero, List.set_cons_succ]
              refine wpAnyH_ready (rs := [10]) (by kernel_rfl) (by simp) ?_
              refine AllReadyH.cons (o := { dst := some 56, op := Op.call { callee := Callee.builtin Builtin.append, args := #[Operand.tmp 47, Operand.tmp 55], argTypes := #[26, 26] }, type := 26, pos := "l06_bind.go:84", after := #[{ on := 1, ground := Ground.data }, { on := 9, ground := Ground.data }], guard := none }) rfl (fun K hK => ?_) AllReadyH.nil
              refine step_append_lies _ rfl _ _ 26 rfl (w.heap.size + 1 + 1) 2 _ (.int .i64 0) 1 8 Try.underlying26 rfl rfl rfl rfl rfl (by decide) va nn _ rfl (ownsRow_upon O1.out (keepB (Below.refl wr.heap.size wr).drew (alloc_below _ (.cells #[.int .i64 (x : Int)] 2)))) ⟨wr.drew.heap.size, 0, none⟩ 1 1 [.int .i64 (x : Int)] rfl rfl (one_srcI _ _ _) (oneValI _) (by decide) (by unfold maxLen; omega) (by omega) (by have h1 := BS.out.top; simp; omega) _ rfl ?_
              intro g6 d6 v6 hown hgrow hat hlt6
              have bq := keepB HB.out (keepB (Below.refl wr.heap.size wr).drew (alloc_below _ (.cells #[.int .i64 (x : Int)] 2)))
              have bg := bq.grown hgrow bq.size (fun q hq => Nat.le_trans HBX.out (ownsRow_le O1.out q hq))
              have nX : va.ownBlock ≠ some (w.heap.size + 1) := fun ee => by have := (block_lt O1.out _ ee).1; omega
              have bx := (BS.out.box.keep (keepB (Below.refl wr.heap.size wr).drew (alloc_below _ (.cells #[.int .i64 (x : Int)] 2)))).grownO hgrow nX
              have hr := (HR.out.keep (keepB (Below.refl wr.heap.size wr).drew (alloc_below _ (.cells #[.int .i64 (x : Int)] 2)))).grownO hgrow (fun ee => by have := (block_lt O1.out _ ee).1; omega)
              have y0 := bx.two.c0
              have yf := bx.f0
              refine hK.out _ _ (CK.out _ bg) (fun hHeld => ?_)
              clear hK K
              try simp only [Act.put, List.setIfInBounds_toArray, List.set_cons_zero, List.set_cons_succ]
              refine wpAnyH_ready (rs := [11]) (by kernel_rfl) (by simp) ?_
              refine AllReadyH.cons (o := { dst := some 57, op := Op.fieldAddr 92 (Operand.tmp 7) 0, type := 0, pos := "l06_bind.go:84", after := #[{ on := 0, ground := Ground.phase }, { on := 1, ground := Ground.phase }, { on := 2, ground := Ground.phase }, { on := 3, ground := Ground.phase }, { on := 4, ground := Ground.phase }, { on := 5, ground := Ground.phase }, { on := 6, ground := Ground.phase }, { on := 7, ground := Ground.phase }, { on := 8, ground := Ground.phase }, { on := 9, ground := Ground.phase }, { on := 10, ground := Ground.phase }], guard := none }) rfl (fun K hK => ?_) AllReadyH.nil
              go_simp
              refine hK.out _ _ (CK.out _ bg) (fun hHeld => ?_)
              clear hK K
              try simp only [Act.put, List.setIfInBounds_toArray, List.set_cons_zero, List.set_cons_succ]
              refine wpAnyH_ready (rs := [12]) (by kernel_rfl) (by simp) ?_
              refine AllReadyH.cons (o := { dst := none, op := Op.store 26 (Operand.tmp 57) (Operand.tmp 56), type := 0, pos := "l06_bind.go:84", after := #[{ on := 11, ground := Ground.data }, { on := 10, ground := Ground.data }, { on := 10, ground := Ground.chain }, { on := 0, ground := Ground.phase }, { on := 1, ground := Ground.phase }, { on := 2, ground := Ground.phase }, { on := 3, ground := Ground.phase }, { on := 4, ground := Ground.phase }, { on := 5, ground := Ground.phase }, { on := 6, ground := Ground.phase }, { on := 7, ground := Ground.phase }, { on := 8, ground := Ground.phase }, { on := 9, ground := Ground.phase }, { on := 10, ground := Ground.phase }], guard := none }) rfl (fun K hK => ?_) AllReadyH.nil
              have bs := bg.setCell (p := ⟨w.heap.size + 1, 0, none⟩) (by simp) (.slice (some ⟨g6, 0, none⟩) (nn + 1) d6)
              have hr2 := hr.other ⟨w.heap.size + 1, 0, none⟩ (.slice (some ⟨g6, 0, none⟩) (nn + 1) d6) (by simp)
              go_simp
              refine hK.out _ _ (CK.out _ bs) (fun hHeld => ?_)
              clear hK K
              try simp only [Act.put, List.setIfInBounds_toArray, List.set_cons_zero, List.set_cons_succ]
              rw [HNN.out] at hown
              have FB := BS.out.mid HK.out (keepB (Below.refl wr.heap.size wr).drew (alloc_below _ (.cells #[.int .i64 (x : Int)] 2))) hgrow hown hat
              rw [← HNN.out] at FB
              have FBH := hidden FB
              have BSH := hidden bs
              have HRH := hidden hr2
              clear FB bs hr2 hr bg bq bx nX y0 yf hown hgrow hat hlt6 hHeld
              refine wpAnyH_done (by kernel_rfl) ?_ _
              go_wp2_with fail
              go_meet
              exact ⟨_, FBH, BSH, HRH⟩
            · go_simp
              refine hK.out _ _ (CK.out _ (keepB HB.out (keepB (Below.refl wr.heap.size wr).drew (alloc_below _ (.cells #[.int .i64 (x : Int)] 2))))) (fun hHeld => ?_)
              clear hK K
              try simp only [Act.put, List.setIfInBounds_toArray, List.set_cons_zero, List.set_cons_succ]
              refine wpAnyH_ready (rs := [1]) (by kernel_rfl) (by simp) ?_
              refine AllReadyH.cons (o := { dst := some 47, op := Op.load 26 (Operand.tmp 46), type := 26, pos := "l06_bind.go:84", after := #[{ on := 0, ground := Ground.data }], guard := none }) rfl (fun K hK => ?_) AllReadyH.nil
              have xl0 := (BS.out.box.keep (Below.refl wr.heap.size wr).drew).two.c0
              have hlt0 := (BS.out.box.keep (Below.refl wr.heap.size wr).drew).two.blk
              have xl1 := (BS.out.box.keep (alloc_below wr (.cells #[.int .i64 (x : Int)] 2))).two.c0
              have xl2 := BS.out.box.two.c0
              have hlt1 := BS.out.box.two.blk
              have xl := (BS.out.box.keep (keepB (Below.refl wr.heap.size wr).drew (alloc_below _ (.cells #[.int .i64 (x : Int)] 2)))).two.c0
              go_simp
              refine hK.out _ _ (CK.out _ (keepB HB.out (keepB (Below.refl wr.heap.size wr).drew (alloc_below _ (.cells #[.int .i64 (x : Int)] 2))))) (fun hHeld => ?_)
              clear hK K xl
              try simp only [Act.put, List.setIfInBounds_toArray, List.set_cons_zero, List.set_cons_succ]
              refine wpAnyH_ready (rs := [10]) (by kernel_rfl) (by simp) ?_
              refine AllReadyH.cons (o := { dst := some 56, op := Op.call { callee := Callee.builtin Builtin.append, args := #[Operand.tmp 47, Operand.tmp 55], argTypes := #[26, 26] }, type := 26, pos := "l06_bind.go:84", after := #[{ on := 1, ground := Ground.data }, { on := 9, ground := Ground.data }], guard := none }) rfl (fun K hK => ?_) AllReadyH.nil
              refine step_append_lies _ rfl _ _ 26 rfl (w.heap.size + 1 + 1) 2 _ (.int .i64 0) 1 8 Try.underlying26 rfl rfl rfl rfl rfl (by decide) va nn _ rfl (ownsRow_upon O1.out (keepB (Below.refl wr.heap.size wr).drew (alloc_below _ (.cells #[.int .i64 (x : Int)] 2)))) ⟨wr.drew.heap.size, 0, none⟩ 1 1 [.int .i64 (x : Int)] rfl rfl (one_srcI _ _ _) (oneValI _) (by decide) (by unfold maxLen; omega) (by omega) (by have h1 := BS.out.top; simp; omega) _ rfl ?_
              intro g6 d6 v6 hown hgrow hat hlt6
              have bq := keepB HB.out (keepB (Below.refl wr.heap.size wr).drew (alloc_below _ (.cells #[.int .i64 (x : Int)] 2)))
              have bg := bq.grown hgrow bq.size (fun q hq => Nat.le_trans HBX.out (ownsRow_le O1.out q hq))
              have nX : va.ownBlock ≠ some (w.heap.size + 1) := fun ee => by have := (block_lt O1.out _ ee).1; omega
              have bx := (BS.out.box.keep (keepB (Below.refl wr.heap.size wr).drew (alloc_below _ (.cells #[.int .i64 (x : Int)] 2)))).grownO hgrow nX
              have hr := (HR.out.keep (keepB (Below.refl wr.heap.size wr).drew (alloc_below _ (.cells #[.int .i64 (x : Int)] 2)))).grownO hgrow (fun ee => by have := (block_lt O1.out _ ee).1; omega)
              have y0 := bx.two.c0
              have yf := bx.f0
              refine hK.out _ _ (CK.out _ bg) (fun hHeld => ?_)
              clear hK K
              try simp only [Act.put, List.setIfInBounds_toArray, List.set_cons_zero, List.set_cons_succ]
              refine wpAnyH_ready (rs := [11]) (by kernel_rfl) (by simp) ?_
              refine AllReadyH.cons (o := { dst := some 57, op := Op.fieldAddr 92 (Operand.tmp 7) 0, type := 0, pos := "l06_bind.go:84", after := #[{ on := 0, ground := Ground.phase }, { on := 1, ground := Ground.phase }, { on := 2, ground := Ground.phase }, { on := 3, ground := Ground.phase }, { on := 4, ground := Ground.phase }, { on := 5, ground := Ground.phase }, { on := 6, ground := Ground.phase }, { on := 7, ground := Ground.phase }, { on := 8, ground := Ground.phase }, { on := 9, ground := Ground.phase }, { on := 10, ground := Ground.phase }], guard := none }) rfl (fun K hK => ?_) AllReadyH.nil
              go_simp
              refine hK.out _ _ (CK.out _ bg) (fun hHeld => ?_)
              clear hK K
              try simp only [Act.put, List.setIfInBounds_toArray, List.set_cons_zero, List.set_cons_succ]
              refine wpAnyH_ready (rs := [12]) (by kernel_rfl) (by simp) ?_
              refine AllReadyH.cons (o := { dst := none, op := Op.store 26 (Operand.tmp 57) (Operand.tmp 56), type := 0, pos := "l06_bind.go:84", after := #[{ on := 11, ground := Ground.data }, { on := 10, ground := Ground.data }, { on := 10, ground := Ground.chain }, { on := 0, ground := Ground.phase }, { on := 1, ground := Ground.phase }, { on := 2, ground := Ground.phase }, { on := 3, ground := Ground.phase }, { on := 4, ground := Ground.phase }, { on := 5, ground := Ground.phase }, { on := 6, ground := Ground.phase }, { on := 7, ground := Ground.phase }, { on := 8, ground := Ground.phase }, { on := 9, ground := Ground.phase }, { on := 10, ground := Ground.phase }], guard := none }) rfl (fun K hK => ?_) AllReadyH.nil
              have bs := bg.setCell (p := ⟨w.heap.size + 1, 0, none⟩) (by simp) (.slice (some ⟨g6, 0, none⟩) (nn + 1) d6)
              have hr2 := hr.other ⟨w.heap.size + 1, 0, none⟩ (.slice (some ⟨g6, 0, none⟩) (nn + 1) d6) (by simp)
              go_simp
              refine hK.out _ _ (CK.out _ bs) (fun hHeld => ?_)
              clear hK K
              try simp only [Act.put, List.setIfInBounds_toArray, List.set_cons_zero, List.set_cons_succ]
              rw [HNN.out] at hown
              have FB := BS.out.mid HK.out (keepB (Below.refl wr.heap.size wr).drew (alloc_below _ (.cells #[.int .i64 (x : Int)] 2))) hgrow hown hat
              rw [← HNN.out] at FB
              have FBH := hidden FB
              have BSH := hidden bs
              have HRH := hidden hr2
              clear FB bs hr2 hr bg bq bx nX y0 yf hown hgrow hat hlt6 hHeld
              refine wpAnyH_done (by kernel_rfl) ?_ _
              go_wp2_with fail
              go_meet
              exact ⟨_, FBH, BSH, HRH⟩
          case rest =>
            rename World => W2
            obtain ⟨va2, MS, HB2, HR2⟩ := hcut
            clear HB HR BS O1
            have HB := HB2
            have HR := HR2
            clear HB2 HR2 HNN hnl nn
            clear d0 c1v
            obtain ⟨gx, ox, cx, ex2, ix, hxc⟩ := I2.out.row k hlt
            have IX := hidden ix
            have EX2 := hidden ex2
            have hxm := (cnD_m HEX.out).1
            have HXL := hidden (cnD_m HEX.out).2
            rw [hxm] at ex2 ix hxc
            have HUK := hidden (show (M x).length = ((updM M v t) x).length by simp [updM, HXV.out])
            have HUL := hidden (show (fun i => (M x).getD i 0) = (fun i => ((updM M v t) x).getD i 0) by simp [updM, HXV.out])
            have hx24 : (M x).length ≤ 24 := by have := HL.out x; rw [← HUK.out] at this; exact this
            obtain ⟨lx, hlx⟩ : ∃ lx, lx = (M x).length := ⟨_, rfl⟩
            have hlx24 : lx ≤ 24 := by omega
            have IX3 := hidden (show Ints w gx ox lx (fun i => (M x).getD i 0) by rw [hlx, ← hxm, ← HXL.out]; exact IX.out)
            replace HUK := hidden (show lx = ((updM M v t) x).length by rw [hlx]; exact HUK.out)
            replace EX2 := hidden (show w.cell? ⟨b2, o2 + k, none⟩ = some (.slice (some ⟨gx, ox, none⟩) lx cx) by rw [hlx]; exact ex2)
            have hb2 : b2 < w.heap.size := I2.out.blk (by omega)
            clear ex2 ix hxc hxm hx24 hlx IX HXL
            obtain ⟨nt, hnt⟩ : ∃ nt, nt = (cnL (updM M v t) x).length := ⟨_, rfl⟩
            have HNT := hidden hnt
            have hntl := cnL_len (updM M v t) x
            rw [← hnt] at hntl
            clear hnt
            obtain ⟨xs, G, hx1, hx2, hx3⟩ := MS.out.terms
            rw [← HNT.out] at hx1
            have XO := hidden hx1
            have HX2 := hidden hx2
            have HX3 := hidden hx3
            have HBX := hidden (show w.heap.size ≤ w.heap.size + 1 + 1 by omega)
            clear hx1 hx2 hx3
            have SC := hidden (show ∀ wd, Below W2.heap.size W2 wd → Calls Try.prog 42 #[.slice (some ⟨gx, ox, none⟩) lx cx] wd fun e w' => ∃ g d, e = .returned (.slice (some ⟨g, 0, none⟩) lx d) ∧ Hid (W2.heap.size ≤ g ∧ ((updM M v t) x).length ≤ d ∧ OwnI w' W2.heap.size g ((updM M v t) x).length d (fun i => ((updM M v t) x).getD i 0) ((updM M v t) x).length) ∧ Below W2.heap.size W2 w' from fun wd hd => by
              refine (l1Ints_any _ _ _ _ _ wd (IX3.out.keep (keepB HB.out hd)) (by omega)).mono ?_
              rintro e w' ⟨g, d, rfl, hg, ho, hb⟩
              have hgs := hd.size
              have hcap := ho.capW
              refine ⟨g, d, rfl, hidden ⟨by omega, ?_, ?_⟩, keepB hd hb⟩
              · rw [← HUK.out]; exact hcap
              · rw [← HUK.out, ← HUL.out]; exact ho.base (by omega))
            go_wp2
            have CK := hidden (show ∀ w', Below w.heap.size w w' → (w'.cell? ⟨E, 1, none⟩ = some (.slice (some ⟨b2, o2, none⟩) (cR M) c2) ∧ w'.cell? ⟨b2, o2 + k, none⟩ = some (.slice (some ⟨gx, ox, none⟩) lx cx)) from fun w' hb => ⟨(HE.out.keep hb).c1, (hb.cell (p := ⟨b2, o2 + k, none⟩) hb2).trans EX2.out⟩)
            refine wp_region_held_drew (S := fun wz => wz.cell? ⟨E, 1, none⟩ = some (.slice (some ⟨b2, o2, none⟩) (cR M) c2) ∧ wz.cell? ⟨b2, o2 + k, none⟩ = some (.slice (some ⟨gx, ox, none⟩) lx cx)) (by kernel_rfl) (CK.out _ (HB.out.drew)) (fun hHeld => ?_)
            refine wpAnyH_take (i := 0) (oi := { dst := some 58, op := Op.fieldAddr 92 (Operand.tmp 7) 1, type := 0, pos := "l06_bind.go:85", after := #[], guard := none }) (v := ?_) rfl (by kernel_rfl) (by kernel_rfl) (by kernel_rfl) (fun _ _ _ h => h) (Or.inl ⟨by rfl, ?_⟩) (by assumption) ?_
            rotate_left
            · (intro wv hSw; (try dsimp only at hSw); go_simp; try with_reducible rfl)
            try simp only [Act.put, List.setIfInBounds_toArray, List.set_cons_zero, List.set_cons_succ]
            refine wpAnyH_take (i := 2) (oi := { dst := some 60, op := Op.move (Operand.tmp 0), type := 97, pos := "l06_bind.go:85", after := #[], guard := none }) (v := ?_) rfl (by kernel_rfl) (by kernel_rfl) (by kernel_rfl) (fun _ _ _ h => h) (Or.inl ⟨by rfl, ?_⟩) (by assumption) ?_
            rotate_left
            · (intro wv hSw; (try dsimp only at hSw); go_simp; try with_reducible rfl)
            try simp only [Act.put, List.setIfInBounds_toArray, List.set_cons_zero, List.set_cons_succ]
            refine wpAnyH_take (i := 3) (oi := { dst := some 61, op := Op.nilCheck (Operand.tmp 60), type := 0, pos := "l06_bind.go:85", after := #[{ on := 2, ground := Ground.data }], guard := none }) (v := ?_) rfl (by kernel_rfl) (by kernel_rfl) (by kernel_rfl) (fun _ _ _ h => h) (Or.inl ⟨by rfl, ?_⟩) (by assumption) ?_
            rotate_left
            · (intro wv hSw; (try dsimp only at hSw); go_simp; try with_reducible rfl)
            try simp only [Act.put, List.setIfInBounds_toArray, List.set_cons_zero, List.set_cons_succ]
            refine wpAnyH_take (i := 4) (oi := { dst := some 62, op := Op.fieldAddr 92 (Operand.tmp 61) 1, type := 0, pos := "l06_bind.go:85", after := #[{ on := 3, ground := Ground.data }], guard := none }) (v := ?_) rfl (by kernel_rfl) (by kernel_rfl) (by kernel_rfl) (fun _ _ _ h => h) (Or.inl ⟨by rfl, ?_⟩) (by assumption) ?_
            rotate_left
            · (intro wv hSw; (try dsimp only at hSw); go_simp; try with_reducible rfl)
            try simp only [Act.put, List.setIfInBounds_toArray, List.set_cons_zero, List.set_cons_succ]
            refine wpAnyH_take (i := 5) (oi := { dst := some 63, op := Op.load 90 (Operand.tmp 62), type := 90, pos := "l06_bind.go:85", after := #[{ on := 4, ground := Ground.data }], guard := none }) (v := ?_) rfl (by kernel_rfl) (by kernel_rfl) (by kernel_rfl) (fun _ _ _ h => h) (Or.inl ⟨by rfl, ?_⟩) (by assumption) ?_
            rotate_left
            · (intro wv hSw; (try dsimp only at hSw); go_simp; try with_reducible rfl)
            try simp only [Act.put, List.setIfInBounds_toArray, List.set_cons_zero, List.set_cons_succ]
            refine wpAnyH_take (i := 6) (oi := { dst := some 64, op := Op.move (Operand.tmp 9), type := 3, pos := "l06_bind.go:85", after := #[], guard := none }) (v := ?_) rfl (by kernel_rfl) (by kernel_rfl) (by kernel_rfl) (fun _ _ _ h => h) (Or.inl ⟨by rfl, ?_⟩) (by assumption) ?_
            rotate_left
            · (intro wv hSw; (try dsimp only at hSw); go_simp; try with_reducible rfl)
            try simp only [Act.put, List.setIfInBounds_toArray, List.set_cons_zero, List.set_cons_succ]
            refine wpAnyH_take (i := 7) (oi := { dst := some 65, op := Op.indexAddr 90 (Operand.tmp 63) (Operand.tmp 64), type := 0, pos := "l06_bind.go:85", after := #[{ on := 5, ground := Ground.data }, { on := 6, ground := Ground.data }], guard := none }) (v := ?_) rfl (by kernel_rfl) (by kernel_rfl) (by kernel_rfl) (fun _ _ _ h => h) (Or.inl ⟨by rfl, ?_⟩) (by assumption) ?_
            rotate_left
            · (intro wv hSw; (try dsimp only at hSw); go_simp; try with_reducible rfl)
            try simp only [Act.put, List.setIfInBounds_toArray, List.set_cons_zero, List.set_cons_succ]
            refine wpAnyH_take (i := 8) (oi := { dst := some 66, op := Op.load 26 (Operand.tmp 65), type := 26, pos := "l06_bind.go:85", after := #[{ on := 7, ground := Ground.data }], guard := none }) (v := ?_) rfl (by kernel_rfl) (by kernel_rfl) (by kernel_rfl) (fun _ _ _ h => h) (Or.inl ⟨by rfl, ?_⟩) (by assumption) ?_
            rotate_left
            · (intro wv hSw; (try dsimp only at hSw); go_simp; try with_reducible rfl)
            try simp only [Act.put, List.setIfInBounds_toArray, List.set_cons_zero, List.set_cons_succ]
            refine wpAnyH_ready (rs := [1, 9]) (by kernel_rfl) (by simp) ?_
            refine AllReadyH.cons (o := { dst := some 59, op := Op.load 90 (Operand.tmp 58), type := 90, pos := "l06_bind.go:85", after := #[{ on := 0, ground := Ground.data }], guard := none }) rfl (fun K hK => ?_) (AllReadyH.cons (o := { dst := some 67, op := Op.call { callee := Callee.value (Operand.func 42), args := #[Operand.tmp 66], argTypes := #[26] }, type := 26, pos := "l06_bind.go:85", after := #[{ on := 8, ground := Ground.data }], guard := none }) rfl (fun K hK => ?_) AllReadyH.nil)
            · have xl := (MS.out.box.keep (Below.refl W2.heap.size W2).drew).two.c1
              go_simp
              refine hK.out _ _ (CK.out _ (keepB HB.out (Below.refl W2.heap.size W2).drew)) (fun hHeld => ?_)
              clear hK K xl
              try simp only [Act.put, List.setIfInBounds_toArray, List.set_cons_zero, List.set_cons_succ]
              refine wpAnyH_ready (rs := [9]) (by kernel_rfl) (by simp) ?_
              refine AllReadyH.cons (o := { dst := some 67, op := Op.call { callee := Callee.value (Operand.func 42), args := #[Operand.tmp 66], argTypes := #[26] }, type := 26, pos := "l06_bind.go:85", after := #[{ on := 8, ground := Ground.data }], guard := none }) rfl (fun K hK => ?_) AllReadyH.nil
              go_simp
              go_at_call 42; with_reducible refine (SC.out _ (Below.refl _ _).drew).mono ?_; rintro e v1 ⟨gc, dc, rfl, HGC, bc⟩
              try go_wp2_with fail
              refine hK.out _ _ (CK.out _ (keepB HB.out bc)) (fun hHeld => ?_)
              clear hK K
              try simp only [Act.put, List.setIfInBounds_toArray, List.set_cons_zero, List.set_cons_succ]
              refine wpAnyH_ready (rs := [10]) (by kernel_rfl) (by simp) ?_
              refine AllReadyH.cons (o := { dst := some 68, op := Op.buildSlice 90 1 #[(0, Operand.tmp 67)], type := 90, pos := "l06_bind.go:85", after := #[{ on := 9, ground := Ground.data }], guard := none }) rfl (fun K hK => ?_) AllReadyH.nil
              go_simp
              refine hK.out _ _ (CK.out _ (keepB HB.out (keepB bc (alloc_below _ (.cells #[.slice (some ⟨gc, 0, none⟩) lx dc] 26))))) (fun hHeld => ?_)
              clear hK K
              try simp only [Act.put, List.setIfInBounds_toArray, List.set_cons_zero, List.set_cons_succ]
              refine wpAnyH_ready (rs := [11]) (by kernel_rfl) (by simp) ?_
              refine AllReadyH.cons (o := { dst := some 69, op := Op.call { callee := Callee.builtin Builtin.append, args := #[Operand.tmp 59, Operand.tmp 68], argTypes := #[90, 90] }, type := 90, pos := "l06_bind.go:85", after := #[{ on := 1, ground := Ground.data }, { on := 10, ground := Ground.data }, { on := 9, ground := Ground.chain }], guard := none }) rfl (fun K hK => ?_) AllReadyH.nil
              refine step_append_lies _ rfl _ _ 90 rfl (w.heap.size + 1 + 1) 26 _ (.slice none 0 0) 1 24 Try.underlying90 rfl rfl rfl rfl rfl (by decide) ta nt xs rfl (ownsRow_upon XO.out (keepB bc (alloc_below _ (.cells #[.slice (some ⟨gc, 0, none⟩) lx dc] 26)))) ⟨v1.heap.size, 0, none⟩ 1 1 [.slice (some ⟨gc, 0, none⟩) lx dc] rfl rfl (one_srcI _ _ _) (by intro u hu; simp at hu; rw [hu]; rfl) (by decide) (by unfold maxLen; omega) (by omega) (by have h1 := MS.out.top; have h2 := bc.size; simp; omega) _ rfl ?_
              intro g6 d6 v6 hown hgrow hat hlt6
              have bq := keepB HB.out (keepB bc (alloc_below _ (.cells #[.slice (some ⟨gc, 0, none⟩) lx dc] 26)))
              have bg := bq.grown hgrow bq.size (fun q hq => Nat.le_trans HBX.out (ownsRow_le XO.out q hq))
              have nX : ta.ownBlock ≠ some (w.heap.size + 1) := fun ee => by have := (block_lt XO.out _ ee).1; omega
              have bx := (MS.out.box.keep (keepB bc (alloc_below _ (.cells #[.slice (some ⟨gc, 0, none⟩) lx dc] 26)))).grownO hgrow nX
              have hr := (HR.out.keep (keepB bc (alloc_below _ (.cells #[.slice (some ⟨gc, 0, none⟩) lx dc] 26)))).grownO hgrow (fun ee => by have := (block_lt XO.out _ ee).1; omega)
              have y0 := bx.two.c1
              have yf := bx.f1
              refine hK.out _ _ (CK.out _ bg) (fun hHeld => ?_)
              clear hK K
              try simp only [Act.put, List.setIfInBounds_toArray, List.set_cons_zero, List.set_cons_succ]
              refine wpAnyH_ready (rs := [12]) (by kernel_rfl) (by simp) ?_
              refine AllReadyH.cons (o := { dst := some 70, op := Op.fieldAddr 92 (Operand.tmp 7) 1, type := 0, pos := "l06_bind.go:85", after := #[{ on := 0, ground := Ground.phase }, { on := 1, ground := Ground.phase }, { on := 2, ground := Ground.phase }, { on := 3, ground := Ground.phase }, { on := 4, ground := Ground.phase }, { on := 5, ground := Ground.phase }, { on := 6, ground := Ground.phase }, { on := 7, ground := Ground.phase }, { on := 8, ground := Ground.phase }, { on := 9, ground := Ground.phase }, { on := 10, ground := Ground.phase }, { on := 11, ground := Ground.phase }], guard := none }) rfl (fun K hK => ?_) AllReadyH.nil
              go_simp
              refine hK.out _ _ (CK.out _ bg) (fun hHeld => ?_)
              clear hK K
              try simp only [Act.put, List.setIfInBounds_toArray, List.set_cons_zero, List.set_cons_succ]
              refine wpAnyH_ready (rs := [13]) (by kernel_rfl) (by simp) ?_
              refine AllReadyH.cons (o := { dst := none, op := Op.store 90 (Operand.tmp 70) (Operand.tmp 69), type := 0, pos := "l06_bind.go:85", after := #[{ on := 12, ground := Ground.data }, { on := 11, ground := Ground.data }, { on := 11, ground := Ground.chain }, { on := 0, ground := Ground.phase }, { on := 1, ground := Ground.phase }, { on := 2, ground := Ground.phase }, { on := 3, ground := Ground.phase }, { on := 4, ground := Ground.phase }, { on := 5, ground := Ground.phase }, { on := 6, ground := Ground.phase }, { on := 7, ground := Ground.phase }, { on := 8, ground := Ground.phase }, { on := 9, ground := Ground.phase }, { on := 10, ground := Ground.phase }, { on := 11, ground := Ground.phase }], guard := none }) rfl (fun K hK => ?_) AllReadyH.nil
              have bs := bg.setCell (p := ⟨w.heap.size + 1, 1, none⟩) (by simp) (.slice (some ⟨g6, 0, none⟩) (nt + 1) d6)
              have hr2 := hr.other ⟨w.heap.size + 1, 1, none⟩ (.slice (some ⟨g6, 0, none⟩) (nt + 1) d6) (by simp)
              go_simp
              refine hK.out _ _ (CK.out _ bs) (fun hHeld => ?_)
              clear hK K
              try simp only [Act.put, List.setIfInBounds_toArray, List.set_cons_zero, List.set_cons_succ]
              rw [HNT.out] at hown
              have FB := MS.out.fin HK.out (keepB bc (alloc_below _ (.cells #[.slice (some ⟨gc, 0, none⟩) lx dc] 26))) hgrow (by have := ownsRow_upon XO.out (keepB bc (alloc_below _ (.cells #[.slice (some ⟨gc, 0, none⟩) lx dc] 26))); rw [HNT.out] at this; exact this) (fun i hi => by
                obtain ⟨d, a1, a2, a3, a4, a5, a6⟩ := HX2.out i hi
                exact ⟨d, a1, a2, a3, a4, a5, a6.lt, a6.keep (keepB bc (alloc_below _ (.cells #[.slice (some ⟨gc, 0, none⟩) lx dc] 26)))⟩) HX3.out HGC.out.1 (HGC.out.2.2.keep (alloc_below _ _)) HGC.out.2.1 (by have := hown; rw [HUK.out] at this; exact this) hat
              rw [← HNT.out] at FB
              have FBH := hidden FB
              have BSH := hidden bs
              have HRH := hidden hr2
              clear FB bs hr2 hr bg bq bx nX y0 yf hown hgrow hat hlt6 hHeld
              refine wpAnyH_done (by kernel_rfl) ?_ _
              go_wp2
              go_roundw
              case rel => exact ⟨k + 1, x + 1, false, _, _, by omega, by go_num, rfl, HW2, FBH, HRH, BSH⟩
              case measure => simp [intOf]; omega
            · go_simp
              go_at_call 42; with_reducible refine (SC.out _ (Below.refl _ _).drew).mono ?_; rintro e v1 ⟨gc, dc, rfl, HGC, bc⟩
              try go_wp2_with fail
              refine hK.out _ _ (CK.out _ (keepB HB.out bc)) (fun hHeld => ?_)
              clear hK K
              try simp only [Act.put, List.setIfInBounds_toArray, List.set_cons_zero, List.set_cons_succ]
              refine wpAnyH_ready (rs := [1, 10]) (by kernel_rfl) (by simp) ?_
              refine AllReadyH.cons (o := { dst := some 59, op := Op.load 90 (Operand.tmp 58), type := 90, pos := "l06_bind.go:85", after := #[{ on := 0, ground := Ground.data }], guard := none }) rfl (fun K hK => ?_) (AllReadyH.cons (o := { dst := some 68, op := Op.buildSlice 90 1 #[(0, Operand.tmp 67)], type := 90, pos := "l06_bind.go:85", after := #[{ on := 9, ground := Ground.data }], guard := none }) rfl (fun K hK => ?_) AllReadyH.nil)
              · have xl := (MS.out.box.keep bc).two.c1
                go_simp
                refine hK.out _ _ (CK.out _ (keepB HB.out bc)) (fun hHeld => ?_)
                clear hK K xl
                try simp only [Act.put, List.setIfInBounds_toArray, List.set_cons_zero, List.set_cons_succ]
                refine wpAnyH_ready (rs := [10]) (by kernel_rfl) (by simp) ?_
                refine AllReadyH.cons (o := { dst := some 68, op := Op.buildSlice 90 1 #[(0, Operand.tmp 67)], type := 90, pos := "l06_bind.go:85", after := #[{ on := 9, ground := Ground.data }], guard := none }) rfl (fun K hK => ?_) AllReadyH.nil
                go_simp
                refine hK.out _ _ (CK.out _ (keepB HB.out (keepB bc (alloc_below _ (.cells #[.slice (some ⟨gc, 0, none⟩) lx dc] 26))))) (fun hHeld => ?_)
                clear hK K
                try simp only [Act.put, List.setIfInBounds_toArray, List.set_cons_zero, List.set_cons_succ]
                refine wpAnyH_ready (rs := [11]) (by kernel_rfl) (by simp) ?_
                refine AllReadyH.cons (o := { dst := some 69, op := Op.call { callee := Callee.builtin Builtin.append, args := #[Operand.tmp 59, Operand.tmp 68], argTypes := #[90, 90] }, type := 90, pos := "l06_bind.go:85", after := #[{ on := 1, ground := Ground.data }, { on := 10, ground := Ground.data }, { on := 9, ground := Ground.chain }], guard := none }) rfl (fun K hK => ?_) AllReadyH.nil
                refine step_append_lies _ rfl _ _ 90 rfl (w.heap.size + 1 + 1) 26 _ (.slice none 0 0) 1 24 Try.underlying90 rfl rfl rfl rfl rfl (by decide) ta nt xs rfl (ownsRow_upon XO.out (keepB bc (alloc_below _ (.cells #[.slice (some ⟨gc, 0, none⟩) lx dc] 26)))) ⟨v1.heap.size, 0, none⟩ 1 1 [.slice (some ⟨gc, 0, none⟩) lx dc] rfl rfl (one_srcI _ _ _) (by intro u hu; simp at hu; rw [hu]; rfl) (by decide) (by unfold maxLen; omega) (by omega) (by have h1 := MS.out.top; have h2 := bc.size; simp; omega) _ rfl ?_
                intro g6 d6 v6 hown hgrow hat hlt6
                have bq := keepB HB.out (keepB bc (alloc_below _ (.cells #[.slice (some ⟨gc, 0, none⟩) lx dc] 26)))
                have bg := bq.grown hgrow bq.size (fun q hq => Nat.le_trans HBX.out (ownsRow_le XO.out q hq))
                have nX : ta.ownBlock ≠ some (w.heap.size + 1) := fun ee => by have := (block_lt XO.out _ ee).1; omega
                have bx := (MS.out.box.keep (keepB bc (alloc_below _ (.cells #[.slice (some ⟨gc, 0, none⟩) lx dc] 26)))).grownO hgrow nX
                have hr := (HR.out.keep (keepB bc (alloc_below _ (.cells #[.slice (some ⟨gc, 0, none⟩) lx dc] 26)))).grownO hgrow (fun ee => by have := (block_lt XO.out _ ee).1; omega)
                have y0 := bx.two.c1
                have yf := bx.f1
                refine hK.out _ _ (CK.out _ bg) (fun hHeld => ?_)
                clear hK K
                try simp only [Act.put, List.setIfInBounds_toArray, List.set_cons_zero, List.set_cons_succ]
                refine wpAnyH_ready (rs := [12]) (by kernel_rfl) (by simp) ?_
                refine AllReadyH.cons (o := { dst := some 70, op := Op.fieldAddr 92 (Operand.tmp 7) 1, type := 0, pos := "l06_bind.go:85", after := #[{ on := 0, ground := Ground.phase }, { on := 1, ground := Ground.phase }, { on := 2, ground := Ground.phase }, { on := 3, ground := Ground.phase }, { on := 4, ground := Ground.phase }, { on := 5, ground := Ground.phase }, { on := 6, ground := Ground.phase }, { on := 7, ground := Ground.phase }, { on := 8, ground := Ground.phase }, { on := 9, ground := Ground.phase }, { on := 10, ground := Ground.phase }, { on := 11, ground := Ground.phase }], guard := none }) rfl (fun K hK => ?_) AllReadyH.nil
                go_simp
                refine hK.out _ _ (CK.out _ bg) (fun hHeld => ?_)
                clear hK K
                try simp only [Act.put, List.setIfInBounds_toArray, List.set_cons_zero, List.set_cons_succ]
                refine wpAnyH_ready (rs := [13]) (by kernel_rfl) (by simp) ?_
                refine AllReadyH.cons (o := { dst := none, op := Op.store 90 (Operand.tmp 70) (Operand.tmp 69), type := 0, pos := "l06_bind.go:85", after := #[{ on := 12, ground := Ground.data }, { on := 11, ground := Ground.data }, { on := 11, ground := Ground.chain }, { on := 0, ground := Ground.phase }, { on := 1, ground := Ground.phase }, { on := 2, ground := Ground.phase }, { on := 3, ground := Ground.phase }, { on := 4, ground := Ground.phase }, { on := 5, ground := Ground.phase }, { on := 6, ground := Ground.phase }, { on := 7, ground := Ground.phase }, { on := 8, ground := Ground.phase }, { on := 9, ground := Ground.phase }, { on := 10, ground := Ground.phase }, { on := 11, ground := Ground.phase }], guard := none }) rfl (fun K hK => ?_) AllReadyH.nil
                have bs := bg.setCell (p := ⟨w.heap.size + 1, 1, none⟩) (by simp) (.slice (some ⟨g6, 0, none⟩) (nt + 1) d6)
                have hr2 := hr.other ⟨w.heap.size + 1, 1, none⟩ (.slice (some ⟨g6, 0, none⟩) (nt + 1) d6) (by simp)
                go_simp
                refine hK.out _ _ (CK.out _ bs) (fun hHeld => ?_)
                clear hK K
                try simp only [Act.put, List.setIfInBounds_toArray, List.set_cons_zero, List.set_cons_succ]
                rw [HNT.out] at hown
                have FB := MS.out.fin HK.out (keepB bc (alloc_below _ (.cells #[.slice (some ⟨gc, 0, none⟩) lx dc] 26))) hgrow (by have := ownsRow_upon XO.out (keepB bc (alloc_below _ (.cells #[.slice (some ⟨gc, 0, none⟩) lx dc] 26))); rw [HNT.out] at this; exact this) (fun i hi => by
                  obtain ⟨d, a1, a2, a3, a4, a5, a6⟩ := HX2.out i hi
                  exact ⟨d, a1, a2, a3, a4, a5, a6.lt, a6.keep (keepB bc (alloc_below _ (.cells #[.slice (some ⟨gc, 0, none⟩) lx dc] 26)))⟩) HX3.out HGC.out.1 (HGC.out.2.2.keep (alloc_below _ _)) HGC.out.2.1 (by have := hown; rw [HUK.out] at this; exact this) hat
                rw [← HNT.out] at FB
                have FBH := hidden FB
                have BSH := hidden bs
                have HRH := hidden hr2
                clear FB bs hr2 hr bg bq bx nX y0 yf hown hgrow hat hlt6 hHeld
                refine wpAnyH_done (by kernel_rfl) ?_ _
                go_wp2
                go_roundw
                case rel => exact ⟨k + 1, x + 1, false, _, _, by omega, by go_num, rfl, HW2, FBH, HRH, BSH⟩
                case measure => simp [intOf]; omega
              · go_simp
                refine hK.out _ _ (CK.out _ (keepB HB.out (keepB bc (alloc_below _ (.cells #[.slice (some ⟨gc, 0, none⟩) lx dc] 26))))) (fun hHeld => ?_)
                clear hK K
                try simp only [Act.put, List.setIfInBounds_toArray, List.set_cons_zero, List.set_cons_succ]
                refine wpAnyH_ready (rs := [1]) (by kernel_rfl) (by simp) ?_
                refine AllReadyH.cons (o := { dst := some 59, op := Op.load 90 (Operand.tmp 58), type := 90, pos := "l06_bind.go:85", after := #[{ on := 0, ground := Ground.data }], guard := none }) rfl (fun K hK => ?_) AllReadyH.nil
                have xl0 := (MS.out.box.keep bc).two.c1
                have hlt0 := (MS.out.box.keep bc).two.blk
                have xl := (MS.out.box.keep (keepB bc (alloc_below _ (.cells #[.slice (some ⟨gc, 0, none⟩) lx dc] 26)))).two.c1
                go_simp
                refine hK.out _ _ (CK.out _ (keepB HB.out (keepB bc (alloc_below _ (.cells #[.slice (some ⟨gc, 0, none⟩) lx dc] 26))))) (fun hHeld => ?_)
                clear hK K xl
                try simp only [Act.put, List.setIfInBounds_toArray, List.set_cons_zero, List.set_cons_succ]
                refine wpAnyH_ready (rs := [11]) (by kernel_rfl) (by simp) ?_
                refine AllReadyH.cons (o := { dst := some 69, op := Op.call { callee := Callee.builtin Builtin.append, args := #[Operand.tmp 59, Operand.tmp 68], argTypes := #[90, 90] }, type := 90, pos := "l06_bind.go:85", after := #[{ on := 1, ground := Ground.data }, { on := 10, ground := Ground.data }, { on := 9, ground := Ground.chain }], guard := none }) rfl (fun K hK => ?_) AllReadyH.nil
                refine step_append_lies _ rfl _ _ 90 rfl (w.heap.size + 1 + 1) 26 _ (.slice none 0 0) 1 24 Try.underlying90 rfl rfl rfl rfl rfl (by decide) ta nt xs rfl (ownsRow_upon XO.out (keepB bc (alloc_below _ (.cells #[.slice (some ⟨gc, 0, none⟩) lx dc] 26)))) ⟨v1.heap.size, 0, none⟩ 1 1 [.slice (some ⟨gc, 0, none⟩) lx dc] rfl rfl (one_srcI _ _ _) (by intro u hu; simp at hu; rw [hu]; rfl) (by decide) (by unfold maxLen; omega) (by omega) (by have h1 := MS.out.top; have h2 := bc.size; simp; omega) _ rfl ?_
                intro g6 d6 v6 hown hgrow hat hlt6
                have bq := keepB HB.out (keepB bc (alloc_below _ (.cells #[.slice (some ⟨gc, 0, none⟩) lx dc] 26)))
                have bg := bq.grown hgrow bq.size (fun q hq => Nat.le_trans HBX.out (ownsRow_le XO.out q hq))
                have nX : ta.ownBlock ≠ some (w.heap.size + 1) := fun ee => by have := (block_lt XO.out _ ee).1; omega
                have bx := (MS.out.box.keep (keepB bc (alloc_below _ (.cells #[.slice (some ⟨gc, 0, none⟩) lx dc] 26)))).grownO hgrow nX
                have hr := (HR.out.keep (keepB bc (alloc_below _ (.cells #[.slice (some ⟨gc, 0, none⟩) lx dc] 26)))).grownO hgrow (fun ee => by have := (block_lt XO.out _ ee).1; omega)
                have y0 := bx.two.c1
                have yf := bx.f1
                refine hK.out _ _ (CK.out _ bg) (fun hHeld => ?_)
                clear hK K
                try simp only [Act.put, List.setIfInBounds_toArray, List.set_cons_zero, List.set_cons_succ]
                refine wpAnyH_ready (rs := [12]) (by kernel_rfl) (by simp) ?_
                refine AllReadyH.cons (o := { dst := some 70, op := Op.fieldAddr 92 (Operand.tmp 7) 1, type := 0, pos := "l06_bind.go:85", after := #[{ on := 0, ground := Ground.phase }, { on := 1, ground := Ground.phase }, { on := 2, ground := Ground.phase }, { on := 3, ground := Ground.phase }, { on := 4, ground := Ground.phase }, { on := 5, ground := Ground.phase }, { on := 6, ground := Ground.phase }, { on := 7, ground := Ground.phase }, { on := 8, ground := Ground.phase }, { on := 9, ground := Ground.phase }, { on := 10, ground := Ground.phase }, { on := 11, ground := Ground.phase }], guard := none }) rfl (fun K hK => ?_) AllReadyH.nil
                go_simp
                refine hK.out _ _ (CK.out _ bg) (fun hHeld => ?_)
                clear hK K
                try simp only [Act.put, List.setIfInBounds_toArray, List.set_cons_zero, List.set_cons_succ]
                refine wpAnyH_ready (rs := [13]) (by kernel_rfl) (by simp) ?_
                refine AllReadyH.cons (o := { dst := none, op := Op.store 90 (Operand.tmp 70) (Operand.tmp 69), type := 0, pos := "l06_bind.go:85", after := #[{ on := 12, ground := Ground.data }, { on := 11, ground := Ground.data }, { on := 11, ground := Ground.chain }, { on := 0, ground := Ground.phase }, { on := 1, ground := Ground.phase }, { on := 2, ground := Ground.phase }, { on := 3, ground := Ground.phase }, { on := 4, ground := Ground.phase }, { on := 5, ground := Ground.phase }, { on := 6, ground := Ground.phase }, { on := 7, ground := Ground.phase }, { on := 8, ground := Ground.phase }, { on := 9, ground := Ground.phase }, { on := 10, ground := Ground.phase }, { on := 11, ground := Ground.phase }], guard := none }) rfl (fun K hK => ?_) AllReadyH.nil
                have bs := bg.setCell (p := ⟨w.heap.size + 1, 1, none⟩) (by simp) (.slice (some ⟨g6, 0, none⟩) (nt + 1) d6)
                have hr2 := hr.other ⟨w.heap.size + 1, 1, none⟩ (.slice (some ⟨g6, 0, none⟩) (nt + 1) d6) (by simp)
                go_simp
                refine hK.out _ _ (CK.out _ bs) (fun hHeld => ?_)
                clear hK K
                try simp only [Act.put, List.setIfInBounds_toArray, List.set_cons_zero, List.set_cons_succ]
                rw [HNT.out] at hown
                have FB := MS.out.fin HK.out (keepB bc (alloc_below _ (.cells #[.slice (some ⟨gc, 0, none⟩) lx dc] 26))) hgrow (by have := ownsRow_upon XO.out (keepB bc (alloc_below _ (.cells #[.slice (some ⟨gc, 0, none⟩) lx dc] 26))); rw [HNT.out] at this; exact this) (fun i hi => by
                  obtain ⟨d, a1, a2, a3, a4, a5, a6⟩ := HX2.out i hi
                  exact ⟨d, a1, a2, a3, a4, a5, a6.lt, a6.keep (keepB bc (alloc_below _ (.cells #[.slice (some ⟨gc, 0, none⟩) lx dc] 26)))⟩) HX3.out HGC.out.1 (HGC.out.2.2.keep (alloc_below _ _)) HGC.out.2.1 (by have := hown; rw [HUK.out] at this; exact this) hat
                rw [← HNT.out] at FB
                have FBH := hidden FB
                have BSH := hidden bs
                have HRH := hidden hr2
                clear FB bs hr2 hr bg bq bx nX y0 yf hown hgrow hat hlt6 hHeld
                refine wpAnyH_done (by kernel_rfl) ?_ _
                go_wp2
                go_roundw
                case rel => exact ⟨k + 1, x + 1, false, _, _, by omega, by go_num, rfl, HW2, FBH, HRH, BSH⟩
                case measure => simp [intOf]; omega
    · skip
      obtain rfl : k = cR M := by omega
      cases db with
      | true =>
        replace BS := hidden (BySt.skips _ (Nat.le_refl _) HW.out.top HW.out.gape BS.out)
        have d0 := (HE.out.keep HB.out).c0
        obtain ⟨g1, d1, g2, d2, rfl, rfl, -⟩ := BS.out.done (cnU_pos hv HT.out)
        generalize hq : (cnL (updM M v t) 12).length = q at *
        clear hq
        have q0 := HR.out.two.c0
        have q1 := HR.out.two.c1
        have qf0 := HR.out.f0
        have qf1 := HR.out.f1
        have x0 := BS.out.box.two.c0
        have x1 := BS.out.box.two.c1
        go_wp2
        refine bodyPost_ret (v := .agg #[(.slice (some ⟨g1, 0, none⟩) q d1), (.slice (some ⟨g2, 0, none⟩) q d2)]) (by simp [results, Try.results73, go_sem, q0, q1]) rfl ⟨(.slice (some ⟨g1, 0, none⟩) q d1), (.slice (some ⟨g2, 0, none⟩) q d2), w.heap.size + 1 + 1, w.heap.size + 1, rfl, by omega, ?_, ?_⟩
        · exact (BS.out.far ⟨w.heap.size, 0, none⟩ _ (by show w.heap.size < w.heap.size + 1 + 1; omega) (by simp)).far ⟨w.heap.size, 1, none⟩ _ (by show w.heap.size < w.heap.size + 1 + 1; omega) (by simp)
        · exact (HB.out.setCell (Nat.le_refl _) _).setCell (Nat.le_refl _) _
      | false =>
        have d0 := (HE.out.keep HB.out).c0
        have HI0 := hidden (show ∀ j, cR M ≤ j → j < cR M → (v : Int) < cV M j from fun j h1 h2 => by omega)
        have HK := hidden (hasU_v (M := M) (v := v) HT.out)
        have HWm := hidden (HW.out.mid hv HI0.out)
        replace BS := hidden (BySt.skips _ (Nat.le_refl _) (by rcases HW.out.side with ⟨_, hh⟩ | ⟨hh, _⟩; exact hh; cases hh) (HW.out.gapv hv HI0.out) BS.out)
        have HW := HWm
        clear HWm
        obtain ⟨nn, hnn⟩ : ∃ nn, nn = (cnL (updM M v t) v).length := ⟨_, rfl⟩
        have HNN := hidden hnn
        have hnl := cnL_len (updM M v t) v
        rw [← hnn] at hnl
        have O1 := hidden BS.out.vars
        rw [← hnn] at O1
        have x0 := BS.out.box.two.c0
        have HBX := hidden (show w.heap.size ≤ w.heap.size + 1 + 1 by omega)
        clear hnn
        go_wp2_with (at_builtin; refine wpList_append_lies _ rfl _ _ 26 rfl (w.heap.size + 1 + 1) 2 _ (.int .i64 0) 1 8 Try.underlying26 rfl rfl rfl rfl rfl (by decide) va nn _ rfl (O1.out.alloc _) ⟨_, 0, none⟩ 1 1 [.int .i64 (v : Int)] rfl (by simp) (one_srcI _ _ _) (oneValI _) (by omega) (by unfold maxLen; omega) (by omega) (by have := BS.out.top; simp; omega) _ rfl ?_)
        intro g cap w3 hown hgrow hat hlt3
        have nX : va.ownBlock ≠ some (w.heap.size + 1) := fun ee => by have := (block_lt O1.out _ ee).1; omega
        have bx := (BS.out.box.keep (alloc_below _ _)).grownO hgrow nX
        have y0 := bx.two.c0
        have yf := bx.f0
        rw [HNN.out] at hown
        have MS := hidden (BS.out.mid HK.out (alloc_below _ _) hgrow hown (hat.imp id (fun e => by rw [e]; simp)))
        have HB3 := hidden ((((HB.out.alloc HB.out.size _)).grown hgrow (by have := HB.out.size; simp; omega) (fun q hq => Nat.le_trans HBX.out (ownsRow_le O1.out q hq))).setCell (p := ⟨w.heap.size + 1, 0, none⟩) (by simp) (.slice (some ⟨g, 0, none⟩) ((cnL (updM M v t) v).length + 1) cap))
        have HR3 := hidden (((HR.out.keep (alloc_below _ _)).grownO hgrow (fun ee => by have := (block_lt O1.out _ ee).1; omega)).other ⟨w.heap.size + 1, 0, none⟩ (.slice (some ⟨g, 0, none⟩) ((cnL (updM M v t) v).length + 1) cap) (by simp))
        rw [← HNN.out] at MS HB3 HR3
        obtain ⟨W1, hW1⟩ : ∃ W1, W1 = w3.setCell ⟨w.heap.size + 1, 0, none⟩ (.slice (some ⟨g, 0, none⟩) (nn + 1) cap) := ⟨_, rfl⟩
        rw [← hW1] at MS HB3 HR3
        clear hown hgrow hat hlt3 bx x0 nX O1 HBX BS HB HR hnl HNN
        have HB := HB3
        have HR := HR3
        clear HB3 HR3
        go_wp2
        rw [← hW1]
        clear hW1 y0 yf
        have HUK := hidden (show t.length = (updM M v t v).length by simp [updM])
        have HUL := hidden (show (fun i => t.getD i 0) = (fun i => (updM M v t v).getD i 0) by simp [updM])
        clear d0 HI0
        obtain ⟨nt, hnt⟩ : ∃ nt, nt = (cnL (updM M v t) v).length := ⟨_, rfl⟩
        have HNT := hidden hnt
        have hntl := cnL_len (updM M v t) v
        rw [← hnt] at hntl
        clear hnt
        obtain ⟨xs, G, hx1, hx2, hx3⟩ := MS.out.terms
        rw [← HNT.out] at hx1
        have XO := hidden hx1
        have HX2 := hidden hx2
        have HX3 := hidden hx3
        have HBX := hidden (show w.heap.size ≤ w.heap.size + 1 + 1 by omega)
        clear hx1 hx2 hx3
        have SC := hidden (show ∀ wd, Below W1.heap.size W1 wd → Calls Try.prog 42 #[.slice (some ⟨bt, ot, none⟩) t.length ct] wd fun e w' => ∃ g d, e = .returned (.slice (some ⟨g, 0, none⟩) t.length d) ∧ Hid (W1.heap.size ≤ g ∧ ((updM M v t) v).length ≤ d ∧ OwnI w' W1.heap.size g ((updM M v t) v).length d (fun i => ((updM M v t) v).getD i 0) ((updM M v t) v).length) ∧ Below W1.heap.size W1 w' from fun wd hd => by
          refine (l1Ints_any _ _ _ _ _ wd (HI.out.keep (keepB HB.out hd)) (by omega)).mono ?_
          rintro e w' ⟨g, d, rfl, hg, ho, hb⟩
          have hgs := hd.size
          have hcap := ho.capW
          refine ⟨g, d, rfl, hidden ⟨by omega, ?_, ?_⟩, keepB hd hb⟩
          · rw [← HUK.out]; exact hcap
          · rw [← HUK.out, ← HUL.out]; exact ho.base (by omega))
        refine wp_region_held_drew (S := fun _ => True) (by kernel_rfl) trivial (fun hHeld => ?_)
        refine wpAnyH_take (i := 0) (oi := { dst := some 79, op := Op.fieldAddr 92 (Operand.tmp 7) 1, type := 0, pos := "l06_bind.go:89", after := #[], guard := none }) (v := ?_) rfl (by kernel_rfl) (by kernel_rfl) (by kernel_rfl) (fun _ _ _ h => h) (Or.inl ⟨by rfl, ?_⟩) (by assumption) ?_
        rotate_left
        · (intro wv hSw; (try dsimp only at hSw); go_simp; try with_reducible rfl)
        try simp only [Act.put, List.setIfInBounds_toArray, List.set_cons_zero, List.set_cons_succ]
        refine wpAnyH_take (i := 2) (oi := { dst := some 81, op := Op.move (Operand.tmp 2), type := 26, pos := "l06_bind.go:89", after := #[], guard := none }) (v := ?_) rfl (by kernel_rfl) (by kernel_rfl) (by kernel_rfl) (fun _ _ _ h => h) (Or.inl ⟨by rfl, ?_⟩) (by assumption) ?_
        rotate_left
        · (intro wv hSw; (try dsimp only at hSw); go_simp; try with_reducible rfl)
        try simp only [Act.put, List.setIfInBounds_toArray, List.set_cons_zero, List.set_cons_succ]
        refine wpAnyH_ready (rs := [1, 3]) (by kernel_rfl) (by simp) ?_
        refine AllReadyH.cons (o := { dst := some 80, op := Op.load 90 (Operand.tmp 79), type := 90, pos := "l06_bind.go:89", after := #[{ on := 0, ground := Ground.data }], guard := none }) rfl (fun K hK => ?_) (AllReadyH.cons (o := { dst := some 82, op := Op.call { callee := Callee.value (Operand.func 42), args := #[Operand.tmp 81], argTypes := #[26] }, type := 26, pos := "l06_bind.go:89", after := #[{ on := 2, ground := Ground.data }], guard := none }) rfl (fun K hK => ?_) AllReadyH.nil)
        · have xl := (MS.out.box.keep (Below.refl W1.heap.size W1).drew).two.c1
          go_simp
          refine hK.out _ _ trivial (fun hHeld => ?_)
          clear hK K xl
          try simp only [Act.put, List.setIfInBounds_toArray, List.set_cons_zero, List.set_cons_succ]
          refine wpAnyH_ready (rs := [3]) (by kernel_rfl) (by simp) ?_
          refine AllReadyH.cons (o := { dst := some 82, op := Op.call { callee := Callee.value (Operand.func 42), args := #[Operand.tmp 81], argTypes := #[26] }, type := 26, pos := "l06_bind.go:89", after := #[{ on := 2, ground := Ground.data }], guard := none }) rfl (fun K hK => ?_) AllReadyH.nil
          go_simp
          go_at_call 42; with_reducible refine (SC.out _ (Below.refl _ _).drew).mono ?_; rintro e v1 ⟨gc, dc, rfl, HGC, bc⟩
          try go_wp2_with fail
          refine hK.out _ _ trivial (fun hHeld => ?_)
          clear hK K
          try simp only [Act.put, List.setIfInBounds_toArray, List.set_cons_zero, List.set_cons_succ]
          refine wpAnyH_ready (rs := [4]) (by kernel_rfl) (by simp) ?_
          refine AllReadyH.cons (o := { dst := some 83, op := Op.buildSlice 90 1 #[(0, Operand.tmp 82)], type := 90, pos := "l06_bind.go:89", after := #[{ on := 3, ground := Ground.data }], guard := none }) rfl (fun K hK => ?_) AllReadyH.nil
          go_simp
          refine hK.out _ _ trivial (fun hHeld => ?_)
          clear hK K
          try simp only [Act.put, List.setIfInBounds_toArray, List.set_cons_zero, List.set_cons_succ]
          refine wpAnyH_ready (rs := [5]) (by kernel_rfl) (by simp) ?_
          refine AllReadyH.cons (o := { dst := some 84, op := Op.call { callee := Callee.builtin Builtin.append, args := #[Operand.tmp 80, Operand.tmp 83], argTypes := #[90, 90] }, type := 90, pos := "l06_bind.go:89", after := #[{ on := 1, ground := Ground.data }, { on := 4, ground := Ground.data }, { on := 3, ground := Ground.chain }], guard := none }) rfl (fun K hK => ?_) AllReadyH.nil
          refine step_append_lies _ rfl _ _ 90 rfl (w.heap.size + 1 + 1) 26 _ (.slice none 0 0) 1 24 Try.underlying90 rfl rfl rfl rfl rfl (by decide) ta nt xs rfl (ownsRow_upon XO.out (keepB bc (alloc_below _ (.cells #[.slice (some ⟨gc, 0, none⟩) t.length dc] 26)))) ⟨v1.heap.size, 0, none⟩ 1 1 [.slice (some ⟨gc, 0, none⟩) t.length dc] rfl rfl (one_srcI _ _ _) (by intro u hu; simp at hu; rw [hu]; rfl) (by decide) (by unfold maxLen; omega) (by omega) (by have h1 := MS.out.top; have h2 := bc.size; simp; omega) _ rfl ?_
          intro g6 d6 v6 hown hgrow hat hlt6
          have bq := keepB HB.out (keepB bc (alloc_below _ (.cells #[.slice (some ⟨gc, 0, none⟩) t.length dc] 26)))
          have bg := bq.grown hgrow bq.size (fun q hq => Nat.le_trans HBX.out (ownsRow_le XO.out q hq))
          have nX : ta.ownBlock ≠ some (w.heap.size + 1) := fun ee => by have := (block_lt XO.out _ ee).1; omega
          have bx := (MS.out.box.keep (keepB bc (alloc_below _ (.cells #[.slice (some ⟨gc, 0, none⟩) t.length dc] 26)))).grownO hgrow nX
          have hr := (HR.out.keep (keepB bc (alloc_below _ (.cells #[.slice (some ⟨gc, 0, none⟩) t.length dc] 26)))).grownO hgrow (fun ee => by have := (block_lt XO.out _ ee).1; omega)
          have y0 := bx.two.c1
          have yf := bx.f1
          refine hK.out _ _ trivial (fun hHeld => ?_)
          clear hK K
          try simp only [Act.put, List.setIfInBounds_toArray, List.set_cons_zero, List.set_cons_succ]
          refine wpAnyH_ready (rs := [6]) (by kernel_rfl) (by simp) ?_
          refine AllReadyH.cons (o := { dst := some 85, op := Op.fieldAddr 92 (Operand.tmp 7) 1, type := 0, pos := "l06_bind.go:89", after := #[{ on := 0, ground := Ground.phase }, { on := 1, ground := Ground.phase }, { on := 2, ground := Ground.phase }, { on := 3, ground := Ground.phase }, { on := 4, ground := Ground.phase }, { on := 5, ground := Ground.phase }], guard := none }) rfl (fun K hK => ?_) AllReadyH.nil
          go_simp
          refine hK.out _ _ trivial (fun hHeld => ?_)
          clear hK K
          try simp only [Act.put, List.setIfInBounds_toArray, List.set_cons_zero, List.set_cons_succ]
          refine wpAnyH_ready (rs := [7]) (by kernel_rfl) (by simp) ?_
          refine AllReadyH.cons (o := { dst := none, op := Op.store 90 (Operand.tmp 85) (Operand.tmp 84), type := 0, pos := "l06_bind.go:89", after := #[{ on := 6, ground := Ground.data }, { on := 5, ground := Ground.data }, { on := 5, ground := Ground.chain }, { on := 0, ground := Ground.phase }, { on := 1, ground := Ground.phase }, { on := 2, ground := Ground.phase }, { on := 3, ground := Ground.phase }, { on := 4, ground := Ground.phase }, { on := 5, ground := Ground.phase }], guard := none }) rfl (fun K hK => ?_) AllReadyH.nil
          have bs := bg.setCell (p := ⟨w.heap.size + 1, 1, none⟩) (by simp) (.slice (some ⟨g6, 0, none⟩) (nt + 1) d6)
          have hr2 := hr.other ⟨w.heap.size + 1, 1, none⟩ (.slice (some ⟨g6, 0, none⟩) (nt + 1) d6) (by simp)
          go_simp
          refine hK.out _ _ trivial (fun hHeld => ?_)
          clear hK K
          try simp only [Act.put, List.setIfInBounds_toArray, List.set_cons_zero, List.set_cons_succ]
          rw [HNT.out] at hown
          have FB := MS.out.fin HK.out (keepB bc (alloc_below _ (.cells #[.slice (some ⟨gc, 0, none⟩) t.length dc] 26))) hgrow (by have := ownsRow_upon XO.out (keepB bc (alloc_below _ (.cells #[.slice (some ⟨gc, 0, none⟩) t.length dc] 26))); rw [HNT.out] at this; exact this) (fun i hi => by
            obtain ⟨d, a1, a2, a3, a4, a5, a6⟩ := HX2.out i hi
            exact ⟨d, a1, a2, a3, a4, a5, a6.lt, a6.keep (keepB bc (alloc_below _ (.cells #[.slice (some ⟨gc, 0, none⟩) t.length dc] 26)))⟩) HX3.out HGC.out.1 (HGC.out.2.2.keep (alloc_below _ _)) HGC.out.2.1 (by have := hown; rw [HUK.out] at this; exact this) hat
          rw [← HNT.out] at FB
          have FBH := hidden FB
          have BSH := hidden bs
          have HRH := hidden hr2
          clear FB bs hr2 hr bg bq bx nX y0 yf hown hgrow hat hlt6 hHeld
          refine wpAnyH_done (by kernel_rfl) ?_ _
          have BS9 := hidden (BySt.skips _ (Nat.le_refl _) HW.out.top HW.out.gape FBH.out)
          have q0 := HRH.out.two.c0
          have q1 := HRH.out.two.c1
          have qf0 := HRH.out.f0
          have qf1 := HRH.out.f1
          have x0 := BS9.out.box.two.c0
          have x1 := BS9.out.box.two.c1
          go_wp2
          refine bodyPost_ret (v := .agg #[(.slice (some ⟨g, 0, none⟩) (nn + 1) cap), (.slice (some ⟨g6, 0, none⟩) (nt + 1) d6)]) (by simp [results, Try.results73, go_sem, q0, q1]) rfl ⟨(.slice (some ⟨g, 0, none⟩) (nn + 1) cap), (.slice (some ⟨g6, 0, none⟩) (nt + 1) d6), w.heap.size + 1 + 1, w.heap.size + 1, rfl, by omega, ?_, ?_⟩
          · exact (BS9.out.far ⟨w.heap.size, 0, none⟩ _ (by show w.heap.size < w.heap.size + 1 + 1; omega) (by simp)).far ⟨w.heap.size, 1, none⟩ _ (by show w.heap.size < w.heap.size + 1 + 1; omega) (by simp)
          · exact (BSH.out.setCell (Nat.le_refl _) _).setCell (Nat.le_refl _) _
        · go_simp
          go_at_call 42; with_reducible refine (SC.out _ (Below.refl _ _).drew).mono ?_; rintro e v1 ⟨gc, dc, rfl, HGC, bc⟩
          try go_wp2_with fail
          refine hK.out _ _ trivial (fun hHeld => ?_)
          clear hK K
          try simp only [Act.put, List.setIfInBounds_toArray, List.set_cons_zero, List.set_cons_succ]
          refine wpAnyH_ready (rs := [1, 4]) (by kernel_rfl) (by simp) ?_
          refine AllReadyH.cons (o := { dst := some 80, op := Op.load 90 (Operand.tmp 79), type := 90, pos := "l06_bind.go:89", after := #[{ on := 0, ground := Ground.data }], guard := none }) rfl (fun K hK => ?_) (AllReadyH.cons (o := { dst := some 83, op := Op.buildSlice 90 1 #[(0, Operand.tmp 82)], type := 90, pos := "l06_bind.go:89", after := #[{ on := 3, ground := Ground.data }], guard := none }) rfl (fun K hK => ?_) AllReadyH.nil)
          · have xl := (MS.out.box.keep bc).two.c1
            go_simp
            refine hK.out _ _ trivial (fun hHeld => ?_)
            clear hK K xl
            try simp only [Act.put, List.setIfInBounds_toArray, List.set_cons_zero, List.set_cons_succ]
            refine wpAnyH_ready (rs := [4]) (by kernel_rfl) (by simp) ?_
            refine AllReadyH.cons (o := { dst := some 83, op := Op.buildSlice 90 1 #[(0, Operand.tmp 82)], type := 90, pos := "l06_bind.go:89", after := #[{ on := 3, ground := Ground.data }], guard := none }) rfl (fun K hK => ?_) AllReadyH.nil
            go_simp
            refine hK.out _ _ trivial (fun hHeld => ?_)
            clear hK K
            try simp only [Act.put, List.setIfInBounds_toArray, List.set_cons_zero, List.set_cons_succ]
            refine wpAnyH_ready (rs := [5]) (by kernel_rfl) (by simp) ?_
            refine AllReadyH.cons (o := { dst := some 84, op := Op.call { callee := Callee.builtin Builtin.append, args := #[Operand.tmp 80, Operand.tmp 83], argTypes := #[90, 90] }, type := 90, pos := "l06_bind.go:89", after := #[{ on := 1, ground := Ground.data }, { on := 4, ground := Ground.data }, { on := 3, ground := Ground.chain }], guard := none }) rfl (fun K hK => ?_) AllReadyH.nil
            refine step_append_lies _ rfl _ _ 90 rfl (w.heap.size + 1 + 1) 26 _ (.slice none 0 0) 1 24 Try.underlying90 rfl rfl rfl rfl rfl (by decide) ta nt xs rfl (ownsRow_upon XO.out (keepB bc (alloc_below _ (.cells #[.slice (some ⟨gc, 0, none⟩) t.length dc] 26)))) ⟨v1.heap.size, 0, none⟩ 1 1 [.slice (some ⟨gc, 0, none⟩) t.length dc] rfl rfl (one_srcI _ _ _) (by intro u hu; simp at hu; rw [hu]; rfl) (by decide) (by unfold maxLen; omega) (by omega) (by have h1 := MS.out.top; have h2 := bc.size; simp; omega) _ rfl ?_
            intro g6 d6 v6 hown hgrow hat hlt6
            have bq := keepB HB.out (keepB bc (alloc_below _ (.cells #[.slice (some ⟨gc, 0, none⟩) t.length dc] 26)))
            have bg := bq.grown hgrow bq.size (fun q hq => Nat.le_trans HBX.out (ownsRow_le XO.out q hq))
            have nX : ta.ownBlock ≠ some (w.heap.size + 1) := fun ee => by have := (block_lt XO.out _ ee).1; omega
            have bx := (MS.out.box.keep (keepB bc (alloc_below _ (.cells #[.slice (some ⟨gc, 0, none⟩) t.length dc] 26)))).grownO hgrow nX
            have hr := (HR.out.keep (keepB bc (alloc_below _ (.cells #[.slice (some ⟨gc, 0, none⟩) t.length dc] 26)))).grownO hgrow (fun ee => by have := (block_lt XO.out _ ee).1; omega)
            have y0 := bx.two.c1
            have yf := bx.f1
            refine hK.out _ _ trivial (fun hHeld => ?_)
            clear hK K
            try simp only [Act.put, List.setIfInBounds_toArray, List.set_cons_zero, List.set_cons_succ]
            refine wpAnyH_ready (rs := [6]) (by kernel_rfl) (by simp) ?_
            refine AllReadyH.cons (o := { dst := some 85, op := Op.fieldAddr 92 (Operand.tmp 7) 1, type := 0, pos := "l06_bind.go:89", after := #[{ on := 0, ground := Ground.phase }, { on := 1, ground := Ground.phase }, { on := 2, ground := Ground.phase }, { on := 3, ground := Ground.phase }, { on := 4, ground := Ground.phase }, { on := 5, ground := Ground.phase }], guard := none }) rfl (fun K hK => ?_) AllReadyH.nil
            go_simp
            refine hK.out _ _ trivial (fun hHeld => ?_)
            clear hK K
            try simp only [Act.put, List.setIfInBounds_toArray, List.set_cons_zero, List.set_cons_succ]
            refine wpAnyH_ready (rs := [7]) (by kernel_rfl) (by simp) ?_
            refine AllReadyH.cons (o := { dst := none, op := Op.store 90 (Operand.tmp 85) (Operand.tmp 84), type := 0, pos := "l06_bind.go:89", after := #[{ on := 6, ground := Ground.data }, { on := 5, ground := Ground.data }, { on := 5, ground := Ground.chain }, { on := 0, ground := Ground.phase }, { on := 1, ground := Ground.phase }, { on := 2, ground := Ground.phase }, { on := 3, ground := Ground.phase }, { on := 4, ground := Ground.phase }, { on := 5, ground := Ground.phase }], guard := none }) rfl (fun K hK => ?_) AllReadyH.nil
            have bs := bg.setCell (p := ⟨w.heap.size + 1, 1, none⟩) (by simp) (.slice (some ⟨g6, 0, none⟩) (nt + 1) d6)
            have hr2 := hr.other ⟨w.heap.size + 1, 1, none⟩ (.slice (some ⟨g6, 0, none⟩) (nt + 1) d6) (by simp)
            go_simp
            refine hK.out _ _ trivial (fun hHeld => ?_)
            clear hK K
            try simp only [Act.put, List.setIfInBounds_toArray, List.set_cons_zero, List.set_cons_succ]
            rw [HNT.out] at hown
            have FB := MS.out.fin HK.out (keepB bc (alloc_below _ (.cells #[.slice (some ⟨gc, 0, none⟩) t.length dc] 26))) hgrow (by have := ownsRow_upon XO.out (keepB bc (alloc_below _ (.cells #[.slice (some ⟨gc, 0, none⟩) t.length dc] 26))); rw [HNT.out] at this; exact this) (fun i hi => by
              obtain ⟨d, a1, a2, a3, a4, a5, a6⟩ := HX2.out i hi
              exact ⟨d, a1, a2, a3, a4, a5, a6.lt, a6.keep (keepB bc (alloc_below _ (.cells #[.slice (some ⟨gc, 0, none⟩) t.length dc] 26)))⟩) HX3.out HGC.out.1 (HGC.out.2.2.keep (alloc_below _ _)) HGC.out.2.1 (by have := hown; rw [HUK.out] at this; exact this) hat
            rw [← HNT.out] at FB
            have FBH := hidden FB
            have BSH := hidden bs
            have HRH := hidden hr2
            clear FB bs hr2 hr bg bq bx nX y0 yf hown hgrow hat hlt6 hHeld
            refine wpAnyH_done (by kernel_rfl) ?_ _
            have BS9 := hidden (BySt.skips _ (Nat.le_refl _) HW.out.top HW.out.gape FBH.out)
            have q0 := HRH.out.two.c0
            have q1 := HRH.out.two.c1
            have qf0 := HRH.out.f0
            have qf1 := HRH.out.f1
            have x0 := BS9.out.box.two.c0
            have x1 := BS9.out.box.two.c1
            go_wp2
            refine bodyPost_ret (v := .agg #[(.slice (some ⟨g, 0, none⟩) (nn + 1) cap), (.slice (some ⟨g6, 0, none⟩) (nt + 1) d6)]) (by simp [results, Try.results73, go_sem, q0, q1]) rfl ⟨(.slice (some ⟨g, 0, none⟩) (nn + 1) cap), (.slice (some ⟨g6, 0, none⟩) (nt + 1) d6), w.heap.size + 1 + 1, w.heap.size + 1, rfl, by omega, ?_, ?_⟩
            · exact (BS9.out.far ⟨w.heap.size, 0, none⟩ _ (by show w.heap.size < w.heap.size + 1 + 1; omega) (by simp)).far ⟨w.heap.size, 1, none⟩ _ (by show w.heap.size < w.heap.size + 1 + 1; omega) (by simp)
            · exact (BSH.out.setCell (Nat.le_refl _) _).setCell (Nat.le_refl _) _
          · go_simp
            refine hK.out _ _ trivial (fun hHeld => ?_)
            clear hK K
            try simp only [Act.put, List.setIfInBounds_toArray, List.set_cons_zero, List.set_cons_succ]
            refine wpAnyH_ready (rs := [1]) (by kernel_rfl) (by simp) ?_
            refine AllReadyH.cons (o := { dst := some 80, op := Op.load 90 (Operand.tmp 79), type := 90, pos := "l06_bind.go:89", after := #[{ on := 0, ground := Ground.data }], guard := none }) rfl (fun K hK => ?_) AllReadyH.nil
            have xl0 := (MS.out.box.keep bc).two.c1
            have hlt0 := (MS.out.box.keep bc).two.blk
            have xl := (MS.out.box.keep (keepB bc (alloc_below _ (.cells #[.slice (some ⟨gc, 0, none⟩) t.length dc] 26)))).two.c1
            go_simp
            refine hK.out _ _ trivial (fun hHeld => ?_)
            clear hK K xl
            try simp only [Act.put, List.setIfInBounds_toArray, List.set_cons_zero, List.set_cons_succ]
            refine wpAnyH_ready (rs := [5]) (by kernel_rfl) (by simp) ?_
            refine AllReadyH.cons (o := { dst := some 84, op := Op.call { callee := Callee.builtin Builtin.append, args := #[Operand.tmp 80, Operand.tmp 83], argTypes := #[90, 90] }, type := 90, pos := "l06_bind.go:89", after := #[{ on := 1, ground := Ground.data }, { on := 4, ground := Ground.data }, { on := 3, ground := Ground.chain }], guard := none }) rfl (fun K hK => ?_) AllReadyH.nil
            refine step_append_lies _ rfl _ _ 90 rfl (w.heap.size + 1 + 1) 26 _ (.slice none 0 0) 1 24 Try.underlying90 rfl rfl rfl rfl rfl (by decide) ta nt xs rfl (ownsRow_upon XO.out (keepB bc (alloc_below _ (.cells #[.slice (some ⟨gc, 0, none⟩) t.length dc] 26)))) ⟨v1.heap.size, 0, none⟩ 1 1 [.slice (some ⟨gc, 0, none⟩) t.length dc] rfl rfl (one_srcI _ _ _) (by intro u hu; simp at hu; rw [hu]; rfl) (by decide) (by unfold maxLen; omega) (by omega) (by have h1 := MS.out.top; have h2 := bc.size; simp; omega) _ rfl ?_
            intro g6 d6 v6 hown hgrow hat hlt6
            have bq := keepB HB.out (keepB bc (alloc_below _ (.cells #[.slice (some ⟨gc, 0, none⟩) t.length dc] 26)))
            have bg := bq.grown hgrow bq.size (fun q hq => Nat.le_trans HBX.out (ownsRow_le XO.out q hq))
            have nX : ta.ownBlock ≠ some (w.heap.size + 1) := fun ee => by have := (block_lt XO.out _ ee).1; omega
            have bx := (MS.out.box.keep (keepB bc (alloc_below _ (.cells #[.slice (some ⟨gc, 0, none⟩) t.length dc] 26)))).grownO hgrow nX
            have hr := (HR.out.keep (keepB bc (alloc_below _ (.cells #[.slice (some ⟨gc, 0, none⟩) t.length dc] 26)))).grownO hgrow (fun ee => by have := (block_lt XO.out _ ee).1; omega)
            have y0 := bx.two.c1
            have yf := bx.f1
            refine hK.out _ _ trivial (fun hHeld => ?_)
            clear hK K
            try simp only [Act.put, List.setIfInBounds_toArray, List.set_cons_zero, List.set_cons_succ]
            refine wpAnyH_ready (rs := [6]) (by kernel_rfl) (by simp) ?_
            refine AllReadyH.cons (o := { dst := some 85, op := Op.fieldAddr 92 (Operand.tmp 7) 1, type := 0, pos := "l06_bind.go:89", after := #[{ on := 0, ground := Ground.phase }, { on := 1, ground := Ground.phase }, { on := 2, ground := Ground.phase }, { on := 3, ground := Ground.phase }, { on := 4, ground := Ground.phase }, { on := 5, ground := Ground.phase }], guard := none }) rfl (fun K hK => ?_) AllReadyH.nil
            go_simp
            refine hK.out _ _ trivial (fun hHeld => ?_)
            clear hK K
            try simp only [Act.put, List.setIfInBounds_toArray, List.set_cons_zero, List.set_cons_succ]
            refine wpAnyH_ready (rs := [7]) (by kernel_rfl) (by simp) ?_
            refine AllReadyH.cons (o := { dst := none, op := Op.store 90 (Operand.tmp 85) (Operand.tmp 84), type := 0, pos := "l06_bind.go:89", after := #[{ on := 6, ground := Ground.data }, { on := 5, ground := Ground.data }, { on := 5, ground := Ground.chain }, { on := 0, ground := Ground.phase }, { on := 1, ground := Ground.phase }, { on := 2, ground := Ground.phase }, { on := 3, ground := Ground.phase }, { on := 4, ground := Ground.phase }, { on := 5, ground := Ground.phase }], guard := none }) rfl (fun K hK => ?_) AllReadyH.nil
            have bs := bg.setCell (p := ⟨w.heap.size + 1, 1, none⟩) (by simp) (.slice (some ⟨g6, 0, none⟩) (nt + 1) d6)
            have hr2 := hr.other ⟨w.heap.size + 1, 1, none⟩ (.slice (some ⟨g6, 0, none⟩) (nt + 1) d6) (by simp)
            go_simp
            refine hK.out _ _ trivial (fun hHeld => ?_)
            clear hK K
            try simp only [Act.put, List.setIfInBounds_toArray, List.set_cons_zero, List.set_cons_succ]
            rw [HNT.out] at hown
            have FB := MS.out.fin HK.out (keepB bc (alloc_below _ (.cells #[.slice (some ⟨gc, 0, none⟩) t.length dc] 26))) hgrow (by have := ownsRow_upon XO.out (keepB bc (alloc_below _ (.cells #[.slice (some ⟨gc, 0, none⟩) t.length dc] 26))); rw [HNT.out] at this; exact this) (fun i hi => by
              obtain ⟨d, a1, a2, a3, a4, a5, a6⟩ := HX2.out i hi
              exact ⟨d, a1, a2, a3, a4, a5, a6.lt, a6.keep (keepB bc (alloc_below _ (.cells #[.slice (some ⟨gc, 0, none⟩) t.length dc] 26)))⟩) HX3.out HGC.out.1 (HGC.out.2.2.keep (alloc_below _ _)) HGC.out.2.1 (by have := hown; rw [HUK.out] at this; exact this) hat
            rw [← HNT.out] at FB
            have FBH := hidden FB
            have BSH := hidden bs
            have HRH := hidden hr2
            clear FB bs hr2 hr bg bq bx nX y0 yf hown hgrow hat hlt6 hHeld
            refine wpAnyH_done (by kernel_rfl) ?_ _
            have BS9 := hidden (BySt.skips _ (Nat.le_refl _) HW.out.top HW.out.gape FBH.out)
            have q0 := HRH.out.two.c0
            have q1 := HRH.out.two.c1
            have qf0 := HRH.out.f0
            have qf1 := HRH.out.f1
            have x0 := BS9.out.box.two.c0
            have x1 := BS9.out.box.two.c1
            go_wp2
            refine bodyPost_ret (v := .agg #[(.slice (some ⟨g, 0, none⟩) (nn + 1) cap), (.slice (some ⟨g6, 0, none⟩) (nt + 1) d6)]) (by simp [results, Try.results73, go_sem, q0, q1]) rfl ⟨(.slice (some ⟨g, 0, none⟩) (nn + 1) cap), (.slice (some ⟨g6, 0, none⟩) (nt + 1) d6), w.heap.size + 1 + 1, w.heap.size + 1, rfl, by omega, ?_, ?_⟩
            · exact (BS9.out.far ⟨w.heap.size, 0, none⟩ _ (by show w.heap.size < w.heap.size + 1 + 1; omega) (by simp)).far ⟨w.heap.size, 1, none⟩ _ (by show w.heap.size < w.heap.size + 1 + 1; omega) (by simp)
            · exact (BSH.out.setCell (Nat.le_refl _) _).setCell (Nat.le_refl _) _

end Go.Proofs.Ytbdgnpjbmlcchaa

/- Contracts: how a pattern is held against a term, as the program tells it: the parts in a row of twelve lists. -/
namespace Go.Proofs.Ytbdgnpjbmlcchaa
open Go.RowKit

/-- A row of twelve values. -/
def arr12 (V : Nat → Value) : Value := .agg #[V 0, V 1, V 2, V 3, V 4, V 5, V 6, V 7, V 8, V 9, V 10, V 11]

/-- A block of twelve cells that may be written. -/
structure Pts (w : World) (X : Nat) (V : Nat → Value) : Prop where
  blk : X < w.heap.size
  cell : ∀ v, v < 12 → w.cell? ⟨X, v, none⟩ = some (V v)
  frz : ∀ v, v < 12 → w.frozen? ⟨X, v, none⟩ = false

theorem Pts.new (w : World) (V : Nat → Value) (t : TypeId) : Pts (w.alloc (.cells #[V 0, V 1, V 2, V 3, V 4, V 5, V 6, V 7, V 8, V 9, V 10, V 11] t)) w.heap.size V := by
  refine ⟨by simp, fun j hj => ?_, fun j hj => ?_⟩
  · match j, hj with
    | 0, _ => simp [go_sem]
    | 1, _ => simp [go_sem]
    | 2, _ => simp [go_sem]
    | 3, _ => simp [go_sem]
    | 4, _ => simp [go_sem]
    | 5, _ => simp [go_sem]
    | 6, _ => simp [go_sem]
    | 7, _ => simp [go_sem]
    | 8, _ => simp [go_sem]
    | 9, _ => simp [go_sem]
    | 10, _ => simp [go_sem]
    | 11, _ => simp [go_sem]
    | j + 12, hj => omega
  · match j, hj with
    | 0, _ => simp [go_sem]
    | 1, _ => simp [go_sem]
    | 2, _ => simp [go_sem]
    | 3, _ => simp [go_sem]
    | 4, _ => simp [go_sem]
    | 5, _ => simp [go_sem]
    | 6, _ => simp [go_sem]
    | 7, _ => simp [go_sem]
    | 8, _ => simp [go_sem]
    | 9, _ => simp [go_sem]
    | 10, _ => simp [go_sem]
    | 11, _ => simp [go_sem]
    | j + 12, hj => omega

theorem Pts.keep {w w' : World} {X : Nat} {V : Nat → Value} (h : Pts w X V) (hb : Below w.heap.size w w') : Pts w' X V :=
  ⟨Nat.lt_of_lt_of_le h.blk hb.size, fun v hv => by rw [hb.cell (p := ⟨X, v, none⟩) h.blk]; exact h.cell v hv, fun v hv => by rw [hb.frozen (p := ⟨X, v, none⟩) h.blk]; exact h.frz v hv⟩

def setV (V : Nat → Value) (v : Nat) (x : Value) : Nat → Value := fun i => if i = v then x else V i

theorem Pts.set {w : World} {X : Nat} {V : Nat → Value} (h : Pts w X V) {v : Nat} (hv : v < 12) (x : Value) : Pts (w.setCell ⟨X, v, none⟩ x) X (setV V v x) := by
  refine ⟨by simpa using h.blk, fun j hj => ?_, fun j hj => by rw [World.frozen?_setCell]; exact h.frz j hj⟩
  by_cases e : j = v
  · subst e
    simp only [setV, if_true]
    exact World.cell?_setCell_same _ _ _ (h.cell j hj)
  · simp only [setV, e, if_false]
    rw [World.cell?_setCell_other _ _ _ _ (by simp; try omega)]
    exact h.cell j hj

theorem Pts.other {w : World} {X : Nat} {V : Nat → Value} (h : Pts w X V) (a : Addr) (x : Value) (ha : X ≠ a.block) : Pts (w.setCell a x) X V :=
  ⟨by simpa using h.blk, fun j hj => by rw [World.cell?_setCell_other _ _ _ _ (by intro e; exact ha (by rw [e]))]; exact h.cell j hj, fun j hj => by rw [World.frozen?_setCell]; exact h.frz j hj⟩

/-- Each of the twelve is a part of the list at b'. -/
def PtV (w : World) (b' : Nat) (M : Nat → List Int) (V : Nat → Value) : Prop := ∀ v, v < 12 → ∃ p c, V v = .slice p (M v).length c ∧ (M v = [] ∨ ∃ o, p = some ⟨b', o, none⟩ ∧ Ints w b' o (M v).length (fun i => (M v).getD i 0))

theorem PtV.keep {w w' : World} {b' : Nat} {M : Nat → List Int} {V : Nat → Value} (h : PtV w b' M V) (hb : Below w.heap.size w w') : PtV w' b' M V := fun v hv => by
  obtain ⟨p, c, e, hp⟩ := h v hv
  exact ⟨p, c, e, hp.imp id fun ⟨o, h1, h2⟩ => ⟨o, h1, h2.keep hb⟩⟩

theorem PtV.set {w : World} {b' : Nat} {M : Nat → List Int} {V : Nat → Value} (h : PtV w b' M V) (v o l c : Nat) (t : List Int) (hl : l = t.length) (hi : Ints w b' o l (fun i => t.getD i 0)) : PtV w b' (updM M v t) (setV V v (.slice (some ⟨b', o, none⟩) l c)) := fun x hx => by
  by_cases e : x = v
  · subst e
    simp only [updM, setV, if_true]
    exact ⟨_, c, by rw [hl], Or.inr ⟨o, rfl, by rw [← hl]; exact hi⟩⟩
  · simp only [updM, setV, e, if_false]
    exact h x hx

theorem sameI_refl (m : Nat) (L : Nat → Int) : sameI m m L L = true := by
  unfold sameI; exact decide_eq_true ⟨rfl, fun _ _ => rfl⟩

open Classical in
theorem sameI_iff {m k : Nat} {L M : Nat → Int} : sameI m k L M = true ↔ m = k ∧ ∀ i, i < m → L i = M i := by
  unfold sameI; exact decide_eq_true_iff
theorem sameI_not {m k : Nat} {L M : Nat → Int} (h : ¬ (m = k ∧ ∀ i, i < m → L i = M i)) : sameI m k L M = false := by
  cases hh : sameI m k L M with
  | false => rfl
  | true => exact absurd (sameI_iff.1 hh) h

set_option maxRecDepth 20000 in
set_option maxHeartbeats 800000 in
theorem fitsPart_sym (X b o l c : Nat) (x y : Int) (w : World) (hx : 0 ≤ x) (hl : 0 < l) (hc : w.cell? ⟨b, o, none⟩ = some (.int .i64 y)) (hb : b < w.heap.size) :
    Calls Try.prog 87 #[.pointer (some ⟨X, 0, none⟩), .int .i64 x, .slice (some ⟨b, o, none⟩) l c] w fun e w' => e = .returned (.bool (y == x)) ∧ Below w.heap.size w w' := by
  have HC := hidden hc
  clear hc
  go_enter Try.func87, Try.ntmps87
  go_wp2_with fail
  with_reducible refine (isVariable_any _ _).mono ?_
  rintro e w1 ⟨rfl, hb1⟩
  rw [show varB x = false by simp [varB]; omega]
  have c1 := (hb1.cell (p := ⟨b, o, none⟩) hb).trans HC.out
  have B := hidden hb1
  clear hb1
  go_wp2
  go_ret
  exact ⟨rfl, B.out⟩

set_option maxRecDepth 20000 in
set_option maxHeartbeats 1600000 in
theorem fitsPart_new (X b o l c v c0 : Nat) (p : Option Addr) (L : Nat → Int) (w : World) (hv : v < 12) (h0 : w.cell? ⟨X, v, none⟩ = some (.slice p 0 c0)) (hf : w.frozen? ⟨X, v, none⟩ = false) (hX : X < w.heap.size) (hi : Ints w b o l L) (hbX : b ≠ X) (hl : l ≤ 1048576) :
    Calls Try.prog 87 #[.pointer (some ⟨X, 0, none⟩), .int .i64 (-1 - (v : Int)), .slice (some ⟨b, o, none⟩) l c] w fun e w' => e = .returned (.bool true) ∧ ∃ w1, Below w.heap.size w w1 ∧ Below w1.heap.size (w1.setCell ⟨X, v, none⟩ (.slice (some ⟨b, o, none⟩) l c)) w' := by
  have HI := hidden hi
  have HX := hidden hX
  have HF := hidden hf
  clear hi hf
  go_enter Try.func87, Try.ntmps87
  go_wp2_with fail
  with_reducible refine (isVariable_any _ _).mono ?_
  rintro e w1 ⟨rfl, hb1⟩
  rw [show varB (-1 - (v : Int)) = true by simp [varB]; omega]
  have c1 := (hb1.cell (p := ⟨X, v, none⟩) HX.out).trans h0
  have f1 := (hb1.frozen (p := ⟨X, v, none⟩) HX.out).trans HF.out
  have I1 := hidden (HI.out.keep hb1)
  have B := hidden hb1
  clear hb1 h0 HF HI
  go_wp2_with fail
  with_reducible refine (variableOf_any _ _ hv).mono ?_
  rintro e w2 ⟨rfl, rfl⟩
  have I2 := hidden (show Ints (w2.setCell ⟨X, v, none⟩ (.slice (some ⟨b, o, none⟩) l c)) b o l L from ⟨fun h => by simpa using I1.out.blk h, fun i hi => by rw [World.cell?_setCell_other _ _ _ _ (by intro e; exact hbX (congrArg Addr.block e).symm)]; exact I1.out.cell i hi⟩)
  have c3 : (w2.setCell ⟨X, v, none⟩ (.slice (some ⟨b, o, none⟩) l c)).cell? ⟨X, v, none⟩ = some (.slice (some ⟨b, o, none⟩) l c) := World.cell?_setCell_same' _ _ _ (by rw [c1]; rfl)
  clear I1
  go_wp2_with fail
  with_reducible refine (sameTerms_any _ _ _ _ _ _ _ _ L L _ I2.out I2.out hl).mono ?_
  rintro e w3 ⟨rfl, hb3⟩
  rw [sameI_refl]
  have B3 := hidden hb3
  clear hb3 c1 f1 c3
  go_wp2
  go_ret
  exact ⟨rfl, w2, B.out, by have := B3.out; simpa using this⟩

set_option maxRecDepth 20000 in
set_option maxHeartbeats 1600000 in
theorem fitsPart_old (X b o l c v b1 o1 l1 c1 : Nat) (L L1 : Nat → Int) (w : World) (hv : v < 12) (h0 : w.cell? ⟨X, v, none⟩ = some (.slice (some ⟨b1, o1, none⟩) l1 c1)) (hX : X < w.heap.size) (hi : Ints w b o l L) (h1 : Ints w b1 o1 l1 L1) (hl : l1 ≤ 1048576) (hp : 0 < l1) :
    Calls Try.prog 87 #[.pointer (some ⟨X, 0, none⟩), .int .i64 (-1 - (v : Int)), .slice (some ⟨b, o, none⟩) l c] w fun e w' => e = .returned (.bool (sameI l1 l L1 L)) ∧ Below w.heap.size w w' := by
  have HI := hidden hi
  have H1 := hidden h1
  have hp' : ((l1 : Int) == 0) = false := by simp; omega
  clear hi h1
  go_enter Try.func87, Try.ntmps87
  go_wp2_with fail
  with_reducible refine (isVariable_any _ _).mono ?_
  rintro e w1 ⟨rfl, hb1⟩
  rw [show varB (-1 - (v : Int)) = true by simp [varB]; omega]
  have c2 := (hb1.cell (p := ⟨X, v, none⟩) hX).trans h0
  have I1 := hidden (HI.out.keep hb1)
  have J1 := hidden (H1.out.keep hb1)
  have B := hidden hb1
  clear hb1 h0 HI H1
  go_wp2_with fail
  with_reducible refine (variableOf_any _ _ hv).mono ?_
  rintro e w2 ⟨rfl, rfl⟩
  go_wp2_with fail
  with_reducible refine (sameTerms_any _ _ _ _ _ _ _ _ L1 L _ J1.out I1.out hl).mono ?_
  rintro e w3 ⟨rfl, hb3⟩
  replace B := hidden (keepB B.out hb3)
  obtain ⟨z, hz⟩ : ∃ z, z = sameI l1 l L1 L := ⟨_, rfl⟩
  have HZ := hidden hz
  rw [← hz]
  clear hb3 c2 hz
  go_wp2
  go_ret
  exact ⟨by rw [← HZ.out]; rfl, B.out⟩

end Go.Proofs.Ytbdgnpjbmlcchaa

/- Contract: matchedParts: a pattern held against the term at a place, as the program does it. -/
namespace Go.Proofs.Ytbdgnpjbmlcchaa
open Go.RowKit

theorem One.other1 {w : World} {b : Nat} {x : Value} (h : One w b x) (a : Addr) (v : Value) (hne : b ≠ a.block) : One (w.setCell a v) b x :=
  ⟨by simpa using h.blk, by rw [World.cell?_setCell_other _ _ _ _ (by intro e; exact hne (by rw [e]))]; exact h.c0⟩

theorem same_ptL {l : List Int} {T : Nat → Int} {p e : Nat} : sameI l.length (e - p) (fun i => l.getD i 0) (fun i => T (p + i)) = true ↔ l = ptL T p e := by
  rw [sameI_iff]
  constructor
  · rintro ⟨h1, h2⟩
    refine List.ext_getElem (by rw [ptL_len]; exact h1) (fun i hi hi' => ?_)
    have h3 := h2 i hi
    rw [← ptL_at (T := T) (show i < e - p by omega)] at h3
    simpa [List.getD_eq_getElem?_getD, hi, hi'] using h3
  · rintro rfl
    exact ⟨ptL_len _ _ _, fun i hi => ptL_at (by rwa [ptL_len] at hi)⟩

theorem sliceV {w : World} {b' : Nat} {M : Nat → List Int} {V : Nat → Value} (h : PtV w b' M V) {v : Nat} (hv : v < 12) : ∃ p l c, V v = .slice p l c := by
  obtain ⟨p, c, e, _⟩ := h v hv
  exact ⟨p, _, c, e⟩

def SlV (V : Nat → Value) : Prop := ∀ v, v < 12 → ∃ p l c, V v = .slice p l c

/-- What matchedParts answers. -/
def MatAns (b' : Nat) (A T P : Nat → Int) (m mP q : Nat) (e : Ending) (w' : World) : Prop :=
  (mtB A T P m mP q = none ∧ ∃ V, e = .returned (.tuple #[arr12 V, .bool false]) ∧ SlV V) ∨ (∃ M, mtB A T P m mP q = some M ∧ ∃ V, e = .returned (.tuple #[arr12 V, .bool true]) ∧ PtV w' b' M V)

set_option maxRecDepth 20000 in
set_option maxHeartbeats 12800000 in
theorem matchedParts_any (b off n c bp op mP cp b' off' m c' q e0 : Nat) (N : Nat → ByteArray) (A P T : Nat → Int) (w : World) (h : Syms w b off n N A) (hP : Ints w bp op mP P) (h' : Ints w b' off' m T) (hg : Trm n A m T) (hp : Trm n A mP P) (hq : skip (aOf A T) m q 1 = some e0) (hc : e0 - q ≤ c') :
    Calls Try.prog 64 #[.agg #[.slice (some ⟨b, off, none⟩) n c], .slice (some ⟨bp, op, none⟩) mP cp, .slice (some ⟨b', off' + q, none⟩) (e0 - q) c'] w fun e w' => MatAns b' A T P m mP q e w' ∧ Below w.heap.size w w' := by
  have hqe := (skip_le hq).2 (by omega)
  have hm24 := hg.nods.most
  have hp24 := hp.nods.most
  have hp0 := hp.pos
  have hn0 := hg.sig.least
  have S0 := hidden (One.new w (.slice (some ⟨b, off, none⟩) n c) 34)
  have b0 := alloc_below w (.cells #[.slice (some ⟨b, off, none⟩) n c] 34)
  obtain ⟨wa, hwa⟩ : ∃ wa, wa = w.alloc (.cells #[.slice (some ⟨b, off, none⟩) n c] 34) := ⟨_, rfl⟩
  have sa : wa.heap.size = w.heap.size + 1 := by rw [hwa]; simp
  rw [← hwa] at S0 b0
  have r1 := Pts.new wa (fun _ => .slice none 0 0) 102
  have b1 := alloc_below wa (.cells #[.slice none 0 0, .slice none 0 0, .slice none 0 0, .slice none 0 0, .slice none 0 0, .slice none 0 0, .slice none 0 0, .slice none 0 0, .slice none 0 0, .slice none 0 0, .slice none 0 0, .slice none 0 0] 102)
  obtain ⟨wb, hwb⟩ : ∃ wb, wb = wa.alloc (.cells #[.slice none 0 0, .slice none 0 0, .slice none 0 0, .slice none 0 0, .slice none 0 0, .slice none 0 0, .slice none 0 0, .slice none 0 0, .slice none 0 0, .slice none 0 0, .slice none 0 0, .slice none 0 0] 102) := ⟨_, rfl⟩
  have sb : wb.heap.size = w.heap.size + 1 + 1 := by rw [hwb]; simp [sa]
  rw [← hwb] at r1 b1
  have r2 := Pts.new wb (fun _ => .slice none 0 0) 102
  have b2 := alloc_below wb (.cells #[.slice none 0 0, .slice none 0 0, .slice none 0 0, .slice none 0 0, .slice none 0 0, .slice none 0 0, .slice none 0 0, .slice none 0 0, .slice none 0 0, .slice none 0 0, .slice none 0 0, .slice none 0 0] 102)
  obtain ⟨w0, hw0⟩ : ∃ w0, w0 = wb.alloc (.cells #[.slice none 0 0, .slice none 0 0, .slice none 0 0, .slice none 0 0, .slice none 0 0, .slice none 0 0, .slice none 0 0, .slice none 0 0, .slice none 0 0, .slice none 0 0, .slice none 0 0, .slice none 0 0] 102) := ⟨_, rfl⟩
  have s0 : w0.heap.size = w.heap.size + 1 + 1 + 1 := by rw [hw0]; simp [sb]
  rw [← hw0] at r2 b2
  rw [sa] at r1
  rw [sb] at r2
  have SG := hidden ((S0.out.keep b1).keep b2)
  have R1 := hidden (r1.keep b2)
  have R2 := hidden r2
  have B0 := hidden (keepB (keepB b0 b1) b2)
  have HSZ := hidden s0
  have HS := hidden h
  have HP := hidden hP
  have HT := hidden h'
  have HG := hidden hg
  have HPT := hidden hp
  have HQ := hidden hq
  have hbl : b' < w.heap.size := h'.blk (by omega)
  have hw2 : w0 = ((w.alloc (.cells #[.slice (some ⟨b, off, none⟩) n c] 34)).alloc (.cells #[.slice none 0 0, .slice none 0 0, .slice none 0 0, .slice none 0 0, .slice none 0 0, .slice none 0 0, .slice none 0 0, .slice none 0 0, .slice none 0 0, .slice none 0 0, .slice none 0 0, .slice none 0 0] 102)).alloc (.cells #[.slice none 0 0, .slice none 0 0, .slice none 0 0, .slice none 0 0, .slice none 0 0, .slice none 0 0, .slice none 0 0, .slice none 0 0, .slice none 0 0, .slice none 0 0, .slice none 0 0, .slice none 0 0] 102) := by rw [hw0, hwb, hwa]
  clear h hP h' hg hp hq S0 b0 b1 b2 r1 r2 sa sb s0 hwa hwb hw0
  go_enter Try.func64, Try.ntmps64
  go_wp2
  rw [← hw2]
  clear hw2 wa wb
  go_loopw [9, 16] (fun r i wr => ∃ (k p : Nat) (M : Nat → List Int) (V : Nat → Value) (pt : Option Addr) (cc : Nat), k ≤ mP ∧ p ≤ e0 ∧ i = .int .i64 (k : Nat) ∧ r = .slice pt (e0 - p) cc ∧ Hid (mtS (aOf A T) m T P q k = some (p, M)) ∧ Hid (p < e0 → pt = some ⟨b', off' + p, none⟩ ∧ e0 - p ≤ cc) ∧ Hid (Pts wr (w.heap.size + 1 + 1) V ∧ PtV w b' M V ∧ Pts wr (w.heap.size + 1) (fun _ => .slice none 0 0)) ∧ Hid (One wr w.heap.size (.slice (some ⟨b, off, none⟩) n c)) ∧ Hid (Below w.heap.size w wr)) (fun _ i _ => mP - (intOf i).toNat)
  case atStart => exact ⟨0, q, fun _ => [], fun _ => .slice none 0 0, _, c', Nat.zero_le _, by omega, rfl, rfl, hidden rfl, hidden (fun _ => ⟨rfl, hc⟩), hidden ⟨R2.out, fun v hv => ⟨none, 0, rfl, Or.inl rfl⟩, R1.out⟩, SG, B0⟩
  case round =>
    clear R1 R2 SG B0 HSZ w0
    obtain ⟨k, p, M, V, pt, cc, hk, hpe, rfl, rfl, HM, HR, HX, HSG, HB⟩ := hrel
    by_cases hlt : k < mP
    · have I := hidden (mt_inv HPT.out HQ.out k p M hk HM.out)
      obtain ⟨e, n1, n2, n3, n4, n5⟩ := I.out.next HPT.out hlt
      obtain ⟨rfl, hcc⟩ := HR.out (by omega)
      have z1 := (HP.out.keep HB.out).cell k hlt
      have HE := hidden n1
      clear n1 n5 HR
      rcases nodeB_cases (HPT.out.nods.node k hlt) with ⟨j, ej, hj⟩ | hv
      · have HJ := hidden ej
        rw [ej] at z1
        have z2 := (HT.out.keep HB.out).cell p (by omega)
        obtain ⟨y, hy⟩ : ∃ y, y = T p := ⟨_, rfl⟩
        have HY := hidden hy
        rw [← hy] at z2
        clear ej hy
        have hbB : b' < wr.heap.size := Nat.lt_of_lt_of_le hbl HB.out.size
        go_wp2_with fail
        with_reducible refine (isVariable_any _ _).mono ?_
        rintro e1 w1 ⟨rfl, hb1⟩
        rw [show varB (j : Int) = false by simp [varB]; omega]
        have Z2 := hidden ((hb1.cell (p := ⟨b', off' + p, none⟩) hbB).trans z2)
        have hb1B := Nat.lt_of_lt_of_le hbB hb1.size
        replace HX := hidden (And.intro (HX.out.1.keep hb1) (And.intro HX.out.2.1 (HX.out.2.2.keep hb1)))
        replace HSG := hidden (HSG.out.keep hb1)
        replace HB := hidden (keepB HB.out hb1)
        clear hb1 z1 z2 hbB
        have g1 : (1 : Int) ≤ ((cc : Nat) : Int) := by omega
        go_wp2_with fail
        with_reducible refine (fitsPart_sym _ b' (off' + p) _ _ (j : Int) y _ (by omega) (by decide) Z2.out hb1B).mono ?_
        rintro e1 w2 ⟨rfl, hb2⟩
        replace HX := hidden (And.intro (HX.out.1.keep hb2) (And.intro HX.out.2.1 (HX.out.2.2.keep hb2)))
        replace HSG := hidden (HSG.out.keep hb2)
        replace HB := hidden (keepB HB.out hb2)
        clear hb2 Z2 hb1B
        by_cases hyj : y = j
        · subst hyj
          have HM2 := hidden (mt_sym HM.out (by rw [HJ.out]; omega) (by rw [← HY.out, HJ.out]))
          rw [beq_self_eq_true]
          by_cases hce : cc = 1
          · subst hce
            go_wp2
            go_roundw
            case rel => exact ⟨k + 1, p + 1, M, V, _, _, by omega, by omega, by go_num, by first | rfl | (congr 1; done) | (congr 1; omega), HM2, hidden (fun h => by omega), HX, HSG, HB⟩
            case measure => simp [intOf]; omega
          · go_wp2
            go_roundw
            case rel => exact ⟨k + 1, p + 1, M, V, _, _, by omega, by omega, by go_num, by first | rfl | (congr 1; done) | (congr 1; omega), HM2, hidden (fun h => ⟨by rw [Nat.add_assoc], by omega⟩), HX, HSG, HB⟩
            case measure => simp [intOf]; omega
        · have HM2 := hidden (mt_stay (mt_off HM.out (by rw [HJ.out]; omega) (by rw [← HY.out, HJ.out]; exact hyj)) mP hlt)
          rw [show (y == (j : Int)) = false by simpa using hyj]
          clear hyj
          obtain ⟨p0, l0, c0, v0⟩ := sliceV HX.out.2.1 (v := 0) (by omega)
          obtain ⟨p1, l1, c1, v1⟩ := sliceV HX.out.2.1 (v := 1) (by omega)
          obtain ⟨p2, l2, c2, v2⟩ := sliceV HX.out.2.1 (v := 2) (by omega)
          obtain ⟨p3, l3, c3, v3⟩ := sliceV HX.out.2.1 (v := 3) (by omega)
          obtain ⟨p4, l4, c4, v4⟩ := sliceV HX.out.2.1 (v := 4) (by omega)
          obtain ⟨p5, l5, c5, v5⟩ := sliceV HX.out.2.1 (v := 5) (by omega)
          obtain ⟨p6, l6, c6, v6⟩ := sliceV HX.out.2.1 (v := 6) (by omega)
          obtain ⟨p7, l7, c7, v7⟩ := sliceV HX.out.2.1 (v := 7) (by omega)
          obtain ⟨p8, l8, c8, v8⟩ := sliceV HX.out.2.1 (v := 8) (by omega)
          obtain ⟨p9, l9, c9, v9⟩ := sliceV HX.out.2.1 (v := 9) (by omega)
          obtain ⟨p10, l10, c10, v10⟩ := sliceV HX.out.2.1 (v := 10) (by omega)
          obtain ⟨p11, l11, c11, v11⟩ := sliceV HX.out.2.1 (v := 11) (by omega)
          have k0 := HX.out.1.cell 0 (by omega)
          have k1 := HX.out.1.cell 1 (by omega)
          have k2 := HX.out.1.cell 2 (by omega)
          have k3 := HX.out.1.cell 3 (by omega)
          have k4 := HX.out.1.cell 4 (by omega)
          have k5 := HX.out.1.cell 5 (by omega)
          have k6 := HX.out.1.cell 6 (by omega)
          have k7 := HX.out.1.cell 7 (by omega)
          have k8 := HX.out.1.cell 8 (by omega)
          have k9 := HX.out.1.cell 9 (by omega)
          have k10 := HX.out.1.cell 10 (by omega)
          have k11 := HX.out.1.cell 11 (by omega)
          rw [v0] at k0
          rw [v1] at k1
          rw [v2] at k2
          rw [v3] at k3
          rw [v4] at k4
          rw [v5] at k5
          rw [v6] at k6
          rw [v7] at k7
          rw [v8] at k8
          rw [v9] at k9
          rw [v10] at k10
          rw [v11] at k11
          have q0 := HX.out.2.2.cell 0 (by omega)
          have q1 := HX.out.2.2.cell 1 (by omega)
          have q2 := HX.out.2.2.cell 2 (by omega)
          have q3 := HX.out.2.2.cell 3 (by omega)
          have q4 := HX.out.2.2.cell 4 (by omega)
          have q5 := HX.out.2.2.cell 5 (by omega)
          have q6 := HX.out.2.2.cell 6 (by omega)
          have q7 := HX.out.2.2.cell 7 (by omega)
          have q8 := HX.out.2.2.cell 8 (by omega)
          have q9 := HX.out.2.2.cell 9 (by omega)
          have q10 := HX.out.2.2.cell 10 (by omega)
          have q11 := HX.out.2.2.cell 11 (by omega)
          have f0 := HX.out.2.2.frz 0 (by omega)
          have f1 := HX.out.2.2.frz 1 (by omega)
          have f2 := HX.out.2.2.frz 2 (by omega)
          have f3 := HX.out.2.2.frz 3 (by omega)
          have f4 := HX.out.2.2.frz 4 (by omega)
          have f5 := HX.out.2.2.frz 5 (by omega)
          have f6 := HX.out.2.2.frz 6 (by omega)
          have f7 := HX.out.2.2.frz 7 (by omega)
          have f8 := HX.out.2.2.frz 8 (by omega)
          have f9 := HX.out.2.2.frz 9 (by omega)
          have f10 := HX.out.2.2.frz 10 (by omega)
          have f11 := HX.out.2.2.frz 11 (by omega)
          have W0 := hidden v0
          have W1 := hidden v1
          have W2 := hidden v2
          have W3 := hidden v3
          have W4 := hidden v4
          have W5 := hidden v5
          have W6 := hidden v6
          have W7 := hidden v7
          have W8 := hidden v8
          have W9 := hidden v9
          have W10 := hidden v10
          have W11 := hidden v11
          clear v0 v1 v2 v3 v4 v5 v6 v7 v8 v9 v10 v11
          go_wp2
          refine bodyPost_ret (v := .tuple #[arr12 V, .bool false]) ?_ rfl ⟨Or.inl ⟨mtB_none HM2.out, V, rfl, fun v hv => sliceV HX.out.2.1 hv⟩, ?_⟩
          · unfold arr12; rw [W0.out, W1.out, W2.out, W3.out, W4.out, W5.out, W6.out, W7.out, W8.out, W9.out, W10.out, W11.out]; simp [results, Try.results64, go_sem, q0, q1, q2, q3, q4, q5, q6, q7, q8, q9, q10, q11]
          · exact ((((((((((((HB.out.setCell (by simp) _).setCell (by simp) _).setCell (by simp) _).setCell (by simp) _).setCell (by simp) _).setCell (by simp) _).setCell (by simp) _).setCell (by simp) _).setCell (by simp) _).setCell (by simp) _).setCell (by simp) _).setCell (by simp) _)
      · obtain ⟨v, ev⟩ : ∃ v : Nat, P k = -1 - (v : Int) := ⟨(-1 - P k).toNat, by omega⟩
        have hv12 : v < 12 := by omega
        have EV := hidden ev
        rw [ev] at z1
        clear ev hv
        go_wp2_with fail
        with_reducible refine (isVariable_any _ _).mono ?_
        rintro e1 w1 ⟨rfl, hb1⟩
        rw [show varB (-1 - (v : Int)) = true by simp [varB]; omega]
        replace HX := hidden (And.intro (HX.out.1.keep hb1) (And.intro HX.out.2.1 (HX.out.2.2.keep hb1)))
        replace HSG := hidden (HSG.out.keep hb1)
        replace HB := hidden (keepB HB.out hb1)
        clear hb1 z1
        have d0 := HSG.out.c0
        have IT := hidden (show Ints w1 b' (off' + p) (e0 - p) (fun i => T (p + i)) from (HT.out.keep HB.out).part (q := p) (k := e0 - p) (by omega))
        have GT := hidden (show Nods n A (e0 - p) (fun i => T (p + i)) from ⟨HG.out.nods.few, HG.out.nods.ar, by omega, fun i hi => HG.out.nods.node _ (by omega)⟩)
        have SZ := hidden (sizeThere_any b off n c b' (off' + p) (e0 - p) cc 0 N A (fun i => T (p + i)) w1 (HS.out.keep HB.out) IT.out GT.out hn0 (by omega) hcc)
        rw [aOf_part, many_part HE.out (by omega), show (((0 : Nat)) : Int) = 0 from rfl] at SZ
        go_wp2_with fail
        with_reducible refine SZ.out.mono ?_
        rintro e1 w2 ⟨rfl, hb2⟩
        replace HX := hidden (And.intro (HX.out.1.keep hb2) (And.intro HX.out.2.1 (HX.out.2.2.keep hb2)))
        replace HSG := hidden (HSG.out.keep hb2)
        replace HB := hidden (keepB HB.out hb2)
        clear hb2 d0 IT GT SZ
        obtain ⟨l, hl⟩ : ∃ l, l = e - p := ⟨_, rfl⟩
        rw [← hl]
        have hlc : l ≤ cc := by omega
        have hl1 : 0 < l := by omega
        have hlm : l ≤ 24 := by omega
        have hpl : p + l ≤ e0 := by omega
        have HL := hidden hl
        clear hl
        have IT := hidden (show Ints w2 b' (off' + p) l (fun i => T (p + i)) from (HT.out.keep HB.out).part (q := p) (k := l) (by omega))
        obtain ⟨pv, lv, cv, evv⟩ := sliceV HX.out.2.1 hv12
        obtain ⟨pw, cw, ew, hpw⟩ := HX.out.2.1 v hv12
        have cell := HX.out.1.cell v hv12
        have frz := HX.out.1.frz v hv12
        rw [ew] at cell
        clear evv pv lv cv ew
        by_cases hM : M v = []
        · have hz : (M v).length = 0 := by rw [hM]; rfl
          rw [hz] at cell
          have S := hidden (fitsPart_new (w.heap.size + 1 + 1) b' (off' + p) l cc v cw pw (fun i => T (p + i)) w2 hv12 cell frz HX.out.1.blk IT.out (by omega) (by omega))
          have HM2 := hidden (mt_new HM.out EV.out hM HE.out)
          have PV2 := hidden (HX.out.2.1.set v (off' + p) l cc (ptL T p e) (by rw [ptL_len]; exact HL.out) (show Ints w b' (off' + p) l (fun i => (ptL T p e).getD i 0) from ⟨fun _ => hbl, fun i hi => by
            rw [ptL_at (by have := HL.out; omega)]; exact (HT.out.part (q := p) (k := l) (by omega)).cell i hi⟩))
          clear hM hz cell frz hpw
          go_wp2_with fail
          with_reducible refine S.out.mono ?_
          rintro e1 w4 ⟨rfl, w3, hb3, hb4⟩
          have bs := (HB.out.trans (hb3.mono HB.out.size)).setCell (p := ⟨w.heap.size + 1 + 1, v, none⟩) (by show w.heap.size ≤ w.heap.size + 1 + 1; omega) (.slice (some ⟨b', off' + p, none⟩) l cc)
          replace HX := hidden (show Pts w4 (w.heap.size + 1 + 1) (setV V v (.slice (some ⟨b', off' + p, none⟩) l cc)) ∧ PtV w b' (updM M v (ptL T p e)) (setV V v (.slice (some ⟨b', off' + p, none⟩) l cc)) ∧ Pts w4 (w.heap.size + 1) (fun _ => .slice none 0 0) from ⟨(((HX.out.1.keep hb3).set hv12 _).keep (by simpa using hb4)), PV2.out, (((HX.out.2.2.keep hb3).other ⟨w.heap.size + 1 + 1, v, none⟩ _ (by simp)).keep (by simpa using hb4))⟩)
          replace HSG := hidden (((HSG.out.keep hb3).other1 ⟨w.heap.size + 1 + 1, v, none⟩ (.slice (some ⟨b', off' + p, none⟩) l cc) (by simp; omega)).keep (by simpa using hb4))
          replace HB := hidden (show Below w.heap.size w w4 from keepB bs (by simpa using hb4))
          clear hb3 hb4 bs S PV2
          by_cases hce : cc = l
          · subst hce
            go_wp2
            go_roundw
            case rel => exact ⟨k + 1, e, _, _, _, _, by omega, by omega, by go_num, by have hle := HL.out; first | rfl | (congr 1; done) | (congr 1; omega), HM2, hidden (fun h => by have := HL.out; omega), HX, HSG, HB⟩
            case measure => simp [intOf]; omega
          · go_wp2
            go_roundw
            case rel => exact ⟨k + 1, e, _, _, _, _, by omega, by omega, by go_num, by have hle := HL.out; first | rfl | (congr 1; done) | (congr 1; omega), HM2, hidden (fun h => ⟨by rw [HL.out, Nat.add_assoc, show p + (e - p) = e by omega], by have := HL.out; omega⟩), HX, HSG, HB⟩
            case measure => simp [intOf]; omega
        · rcases hpw with h0 | ⟨ow, rfl, iw⟩
          · exact absurd h0 hM
          have hMl := I.out.len hm24 hqe.2 v
          have hMp : 0 < (M v).length := List.length_pos_iff.2 hM
          have S := hidden (fitsPart_old (w.heap.size + 1 + 1) b' (off' + p) l cc v b' ow (M v).length cw (fun i => T (p + i)) (fun i => (M v).getD i 0) w2 hv12 cell HX.out.1.blk IT.out (iw.keep HB.out) (by omega) hMp)
          have HMN := hidden hM
          clear iw cell frz hM hMl hMp
          go_wp2_with fail
          with_reducible refine S.out.mono ?_
          rintro e1 w3 ⟨rfl, hb3⟩
          replace HX := hidden (And.intro (HX.out.1.keep hb3) (And.intro HX.out.2.1 (HX.out.2.2.keep hb3)))
          replace HSG := hidden (HSG.out.keep hb3)
          replace HB := hidden (keepB HB.out hb3)
          clear hb3 S
          by_cases hs : M v = ptL T p e
          · have HM2 := hidden (mt_old HM.out EV.out HMN.out HE.out hs)
            rw [show sameI (M v).length l (fun i => (M v).getD i 0) (fun i => T (p + i)) = true by rw [HL.out]; exact same_ptL.2 hs]
            clear hs
            by_cases hce : cc = l
            · subst hce
              go_wp2
              go_roundw
              case rel => exact ⟨k + 1, e, M, V, _, _, by omega, by omega, by go_num, by have hle := HL.out; first | rfl | (congr 1; done) | (congr 1; omega), HM2, hidden (fun h => by have := HL.out; omega), HX, HSG, HB⟩
              case measure => simp [intOf]; omega
            · go_wp2
              go_roundw
              case rel => exact ⟨k + 1, e, M, V, _, _, by omega, by omega, by go_num, by have hle := HL.out; first | rfl | (congr 1; done) | (congr 1; omega), HM2, hidden (fun h => ⟨by rw [HL.out, Nat.add_assoc, show p + (e - p) = e by omega], by have := HL.out; omega⟩), HX, HSG, HB⟩
              case measure => simp [intOf]; omega
          · have HM2 := hidden (mt_stay (mt_dif HM.out EV.out HMN.out HE.out hs) mP hlt)
            rw [show sameI (M v).length l (fun i => (M v).getD i 0) (fun i => T (p + i)) = false by
              cases hh : sameI (M v).length l (fun i => (M v).getD i 0) (fun i => T (p + i)) with
              | false => rfl
              | true => rw [HL.out] at hh; exact absurd (same_ptL.1 hh) hs]
            clear hs
            obtain ⟨p0, l0, c0, v0⟩ := sliceV HX.out.2.1 (v := 0) (by omega)
            obtain ⟨p1, l1, c1, v1⟩ := sliceV HX.out.2.1 (v := 1) (by omega)
            obtain ⟨p2, l2, c2, v2⟩ := sliceV HX.out.2.1 (v := 2) (by omega)
            obtain ⟨p3, l3, c3, v3⟩ := sliceV HX.out.2.1 (v := 3) (by omega)
            obtain ⟨p4, l4, c4, v4⟩ := sliceV HX.out.2.1 (v := 4) (by omega)
            obtain ⟨p5, l5, c5, v5⟩ := sliceV HX.out.2.1 (v := 5) (by omega)
            obtain ⟨p6, l6, c6, v6⟩ := sliceV HX.out.2.1 (v := 6) (by omega)
            obtain ⟨p7, l7, c7, v7⟩ := sliceV HX.out.2.1 (v := 7) (by omega)
            obtain ⟨p8, l8, c8, v8⟩ := sliceV HX.out.2.1 (v := 8) (by omega)
            obtain ⟨p9, l9, c9, v9⟩ := sliceV HX.out.2.1 (v := 9) (by omega)
            obtain ⟨p10, l10, c10, v10⟩ := sliceV HX.out.2.1 (v := 10) (by omega)
            obtain ⟨p11, l11, c11, v11⟩ := sliceV HX.out.2.1 (v := 11) (by omega)
            have k0 := HX.out.1.cell 0 (by omega)
            have k1 := HX.out.1.cell 1 (by omega)
            have k2 := HX.out.1.cell 2 (by omega)
            have k3 := HX.out.1.cell 3 (by omega)
            have k4 := HX.out.1.cell 4 (by omega)
            have k5 := HX.out.1.cell 5 (by omega)
            have k6 := HX.out.1.cell 6 (by omega)
            have k7 := HX.out.1.cell 7 (by omega)
            have k8 := HX.out.1.cell 8 (by omega)
            have k9 := HX.out.1.cell 9 (by omega)
            have k10 := HX.out.1.cell 10 (by omega)
            have k11 := HX.out.1.cell 11 (by omega)
            rw [v0] at k0
            rw [v1] at k1
            rw [v2] at k2
            rw [v3] at k3
            rw [v4] at k4
            rw [v5] at k5
            rw [v6] at k6
            rw [v7] at k7
            rw [v8] at k8
            rw [v9] at k9
            rw [v10] at k10
            rw [v11] at k11
            have q0 := HX.out.2.2.cell 0 (by omega)
            have q1 := HX.out.2.2.cell 1 (by omega)
            have q2 := HX.out.2.2.cell 2 (by omega)
            have q3 := HX.out.2.2.cell 3 (by omega)
            have q4 := HX.out.2.2.cell 4 (by omega)
            have q5 := HX.out.2.2.cell 5 (by omega)
            have q6 := HX.out.2.2.cell 6 (by omega)
            have q7 := HX.out.2.2.cell 7 (by omega)
            have q8 := HX.out.2.2.cell 8 (by omega)
            have q9 := HX.out.2.2.cell 9 (by omega)
            have q10 := HX.out.2.2.cell 10 (by omega)
            have q11 := HX.out.2.2.cell 11 (by omega)
            have f0 := HX.out.2.2.frz 0 (by omega)
            have f1 := HX.out.2.2.frz 1 (by omega)
            have f2 := HX.out.2.2.frz 2 (by omega)
            have f3 := HX.out.2.2.frz 3 (by omega)
            have f4 := HX.out.2.2.frz 4 (by omega)
            have f5 := HX.out.2.2.frz 5 (by omega)
            have f6 := HX.out.2.2.frz 6 (by omega)
            have f7 := HX.out.2.2.frz 7 (by omega)
            have f8 := HX.out.2.2.frz 8 (by omega)
            have f9 := HX.out.2.2.frz 9 (by omega)
            have f10 := HX.out.2.2.frz 10 (by omega)
            have f11 := HX.out.2.2.frz 11 (by omega)
            have W0 := hidden v0
            have W1 := hidden v1
            have W2 := hidden v2
            have W3 := hidden v3
            have W4 := hidden v4
            have W5 := hidden v5
            have W6 := hidden v6
            have W7 := hidden v7
            have W8 := hidden v8
            have W9 := hidden v9
            have W10 := hidden v10
            have W11 := hidden v11
            clear v0 v1 v2 v3 v4 v5 v6 v7 v8 v9 v10 v11
            go_wp2
            refine bodyPost_ret (v := .tuple #[arr12 V, .bool false]) ?_ rfl ⟨Or.inl ⟨mtB_none HM2.out, V, rfl, fun v hv => sliceV HX.out.2.1 hv⟩, ?_⟩
            · unfold arr12; rw [W0.out, W1.out, W2.out, W3.out, W4.out, W5.out, W6.out, W7.out, W8.out, W9.out, W10.out, W11.out]; simp [results, Try.results64, go_sem, q0, q1, q2, q3, q4, q5, q6, q7, q8, q9, q10, q11]
            · exact ((((((((((((HB.out.setCell (by simp) _).setCell (by simp) _).setCell (by simp) _).setCell (by simp) _).setCell (by simp) _).setCell (by simp) _).setCell (by simp) _).setCell (by simp) _).setCell (by simp) _).setCell (by simp) _).setCell (by simp) _).setCell (by simp) _)
    · obtain rfl : k = mP := by omega
      have HM2 := hidden (mtB_some HM.out)
      obtain ⟨p0, l0, c0, v0⟩ := sliceV HX.out.2.1 (v := 0) (by omega)
      obtain ⟨p1, l1, c1, v1⟩ := sliceV HX.out.2.1 (v := 1) (by omega)
      obtain ⟨p2, l2, c2, v2⟩ := sliceV HX.out.2.1 (v := 2) (by omega)
      obtain ⟨p3, l3, c3, v3⟩ := sliceV HX.out.2.1 (v := 3) (by omega)
      obtain ⟨p4, l4, c4, v4⟩ := sliceV HX.out.2.1 (v := 4) (by omega)
      obtain ⟨p5, l5, c5, v5⟩ := sliceV HX.out.2.1 (v := 5) (by omega)
      obtain ⟨p6, l6, c6, v6⟩ := sliceV HX.out.2.1 (v := 6) (by omega)
      obtain ⟨p7, l7, c7, v7⟩ := sliceV HX.out.2.1 (v := 7) (by omega)
      obtain ⟨p8, l8, c8, v8⟩ := sliceV HX.out.2.1 (v := 8) (by omega)
      obtain ⟨p9, l9, c9, v9⟩ := sliceV HX.out.2.1 (v := 9) (by omega)
      obtain ⟨p10, l10, c10, v10⟩ := sliceV HX.out.2.1 (v := 10) (by omega)
      obtain ⟨p11, l11, c11, v11⟩ := sliceV HX.out.2.1 (v := 11) (by omega)
      have k0 := HX.out.1.cell 0 (by omega)
      have k1 := HX.out.1.cell 1 (by omega)
      have k2 := HX.out.1.cell 2 (by omega)
      have k3 := HX.out.1.cell 3 (by omega)
      have k4 := HX.out.1.cell 4 (by omega)
      have k5 := HX.out.1.cell 5 (by omega)
      have k6 := HX.out.1.cell 6 (by omega)
      have k7 := HX.out.1.cell 7 (by omega)
      have k8 := HX.out.1.cell 8 (by omega)
      have k9 := HX.out.1.cell 9 (by omega)
      have k10 := HX.out.1.cell 10 (by omega)
      have k11 := HX.out.1.cell 11 (by omega)
      rw [v0] at k0
      rw [v1] at k1
      rw [v2] at k2
      rw [v3] at k3
      rw [v4] at k4
      rw [v5] at k5
      rw [v6] at k6
      rw [v7] at k7
      rw [v8] at k8
      rw [v9] at k9
      rw [v10] at k10
      rw [v11] at k11
      have q0 := HX.out.2.2.cell 0 (by omega)
      have q1 := HX.out.2.2.cell 1 (by omega)
      have q2 := HX.out.2.2.cell 2 (by omega)
      have q3 := HX.out.2.2.cell 3 (by omega)
      have q4 := HX.out.2.2.cell 4 (by omega)
      have q5 := HX.out.2.2.cell 5 (by omega)
      have q6 := HX.out.2.2.cell 6 (by omega)
      have q7 := HX.out.2.2.cell 7 (by omega)
      have q8 := HX.out.2.2.cell 8 (by omega)
      have q9 := HX.out.2.2.cell 9 (by omega)
      have q10 := HX.out.2.2.cell 10 (by omega)
      have q11 := HX.out.2.2.cell 11 (by omega)
      have f0 := HX.out.2.2.frz 0 (by omega)
      have f1 := HX.out.2.2.frz 1 (by omega)
      have f2 := HX.out.2.2.frz 2 (by omega)
      have f3 := HX.out.2.2.frz 3 (by omega)
      have f4 := HX.out.2.2.frz 4 (by omega)
      have f5 := HX.out.2.2.frz 5 (by omega)
      have f6 := HX.out.2.2.frz 6 (by omega)
      have f7 := HX.out.2.2.frz 7 (by omega)
      have f8 := HX.out.2.2.frz 8 (by omega)
      have f9 := HX.out.2.2.frz 9 (by omega)
      have f10 := HX.out.2.2.frz 10 (by omega)
      have f11 := HX.out.2.2.frz 11 (by omega)
      have W0 := hidden v0
      have W1 := hidden v1
      have W2 := hidden v2
      have W3 := hidden v3
      have W4 := hidden v4
      have W5 := hidden v5
      have W6 := hidden v6
      have W7 := hidden v7
      have W8 := hidden v8
      have W9 := hidden v9
      have W10 := hidden v10
      have W11 := hidden v11
      clear v0 v1 v2 v3 v4 v5 v6 v7 v8 v9 v10 v11
      go_wp2
      refine bodyPost_ret (v := .tuple #[arr12 V, .bool true]) ?_ rfl ⟨Or.inr ⟨M, HM2.out, V, rfl, HX.out.2.1.keep ?_⟩, ?_⟩
      · unfold arr12; rw [W0.out, W1.out, W2.out, W3.out, W4.out, W5.out, W6.out, W7.out, W8.out, W9.out, W10.out, W11.out]; simp [results, Try.results64, go_sem, q0, q1, q2, q3, q4, q5, q6, q7, q8, q9, q10, q11]
      · exact ((((((((((((HB.out.setCell (by simp) _).setCell (by simp) _).setCell (by simp) _).setCell (by simp) _).setCell (by simp) _).setCell (by simp) _).setCell (by simp) _).setCell (by simp) _).setCell (by simp) _).setCell (by simp) _).setCell (by simp) _).setCell (by simp) _)
      · exact ((((((((((((HB.out.setCell (by simp) _).setCell (by simp) _).setCell (by simp) _).setCell (by simp) _).setCell (by simp) _).setCell (by simp) _).setCell (by simp) _).setCell (by simp) _).setCell (by simp) _).setCell (by simp) _).setCell (by simp) _).setCell (by simp) _)

end Go.Proofs.Ytbdgnpjbmlcchaa

/- Contract: l6Match: a pattern held against the term at a place, as the model does it: a binding. -/
namespace Go.Proofs.Ytbdgnpjbmlcchaa
open Go.RowKit

theorem mt_hi {n : Nat} {A T P : Nat → Int} {m mP q : Nat} (hp : Trm n A mP P) : ∀ k p M, k ≤ mP → mtS (aOf A T) m T P q k = some (p, M) → ∀ v, 12 ≤ v → M v = []
  | 0, p, M, _, h => by
    simp only [mtS, Option.some.injEq, Prod.mk.injEq] at h
    obtain ⟨rfl, rfl⟩ := h
    exact fun _ _ => rfl
  | k + 1, p, M, hk, h => by
    intro v hv
    cases hs : mtS (aOf A T) m T P q k with
    | none => simp [mtS, hs] at h
    | some s =>
      obtain ⟨p0, M0⟩ := s
      have I := mt_hi hp k p0 M0 (by omega) hs v hv
      simp only [mtS, hs, Option.bind, mtG] at h
      rcases nodeB_cases (hp.nods.node k (by omega)) with ⟨j, ej, hj⟩ | hx
      · have e1 : (0 : Int) ≤ P k := by omega
        rw [if_pos e1] at h
        by_cases ht : T p0 = P k
        · rw [if_pos ht] at h
          simp only [Option.some.injEq, Prod.mk.injEq] at h
          rw [← h.2]; exact I
        · rw [if_neg ht] at h; cases h
      · have e1 : ¬ (0 : Int) ≤ P k := by omega
        rw [if_neg e1] at h
        by_cases h1 : M0 (-1 - P k).toNat = []
        · rw [if_pos h1] at h
          simp only [Option.some.injEq, Prod.mk.injEq] at h
          rw [← h.2]
          show (if v = _ then _ else M0 v) = []
          rw [if_neg (by omega)]; exact I
        · rw [if_neg h1] at h
          by_cases h2 : M0 (-1 - P k).toNat = ptL T p0 ((skip (aOf A T) m p0 1).getD m)
          · rw [if_pos h2] at h
            simp only [Option.some.injEq, Prod.mk.injEq] at h
            rw [← h.2]; exact I
          · rw [if_neg h2] at h; cases h

theorem upto_list (l : List Int) : upto (fun i => l.getD i 0) l.length = l := by
  apply List.ext_getElem?
  intro i
  by_cases hi : i < l.length
  · simp [upto, hi]
  · rw [List.getElem?_eq_none (by rw [upto_length]; omega), List.getElem?_eq_none (by omega)]

/-- What a binding told in the one way binds. -/
theorem bdM_canon {M : Nat → List Int} (h : ∀ v, 12 ≤ v → M v = []) (v : Nat) : bdM (cR M) (cV M) (cnD M 12) (v : Int) = M v := by
  cases hb : bdI (cV M) (v : Int) (cR M) with
  | some i =>
    obtain ⟨hi, e⟩ := bdI_some _ _ hb
    rw [bdM_some hb, (cnD_m e).1, (cnD_m e).2]
    exact upto_list _
  | none =>
    rw [bdM_none hb]
    by_cases hv : v < 12
    · by_cases hM : M v = []
      · exact hM.symm
      · obtain ⟨j, hj, e⟩ := cV_all hv hM
        have : ∀ k, bdI (cV M) (v : Int) k = none → ∀ i, i < k → cV M i ≠ (v : Int) := by
          intro k
          induction k with
          | zero => intro _ i hi; omega
          | succ k ih =>
            intro h1 i hi
            simp only [bdI] at h1
            cases hc : bdI (cV M) (v : Int) k with
            | some z => rw [hc] at h1; simp at h1
            | none =>
              rw [hc] at h1
              by_cases ei : i = k
              · rw [ei]; intro e2; simp only at h1; rw [if_pos e2] at h1; cases h1
              · exact ih hc i (by omega)
        exact absurd e (this _ hb j hj)
    · exact (h v (by omega)).symm

theorem bdN_canon {M : Nat → List Int} (h : ∀ v, 12 ≤ v → M v = []) : bdN (cR M) (cV M) (cnD M 12) = M := funext fun v => bdM_canon h v

/-- A binding of its own that tells M, behind block lo. -/
def Bd (w : World) (lo : Nat) (M : Nat → List Int) (va ta : Value) : Prop :=
  (cR M = 0 ∧ va = .slice none 0 0 ∧ ta = .slice none 0 0) ∨ (0 < cR M ∧ ∃ B X, lo ≤ X ∧ BySt w B X M 12 va ta)

theorem Bd.keep {w w' : World} {lo : Nat} {M : Nat → List Int} {va ta : Value} (h : Bd w lo M va ta) (hb : Below w.heap.size w w') : Bd w' lo M va ta :=
  h.imp id fun ⟨h0, B, X, hl, hs⟩ => ⟨h0, B, X, hl, hs.keep hb⟩

theorem Bd.far {w : World} {lo : Nat} {M : Nat → List Int} {va ta : Value} (h : Bd w lo M va ta) (a : Addr) (u : Value) (ha : a.block < lo) : Bd (w.setCell a u) lo M va ta :=
  h.imp id fun ⟨h0, B, X, hl, hs⟩ => ⟨h0, B, X, hl, hs.far a u (by have := hs.low; omega) (by omega)⟩

theorem Bd.le {w : World} {lo lo' : Nat} {M : Nat → List Int} {va ta : Value} (h : Bd w lo M va ta) (hl : lo' ≤ lo) : Bd w lo' M va ta :=
  h.imp id fun ⟨h0, B, X, hx, hs⟩ => ⟨h0, B, X, by omega, hs⟩

theorem Bd.at {w : World} {lo : Nat} {M : Nat → List Int} {va ta : Value} (h : Bd w lo M va ta) : ∃ p1 c1 p2 c2, va = .slice p1 (cR M) c1 ∧ ta = .slice p2 (cR M) c2 ∧ BdAt w p1 c1 p2 c2 M := by
  rcases h with ⟨h0, rfl, rfl⟩ | ⟨h0, B, X, hl, hs⟩
  · exact ⟨none, 0, none, 0, by rw [h0], by rw [h0], ⟨Or.inl h0⟩⟩
  · obtain ⟨g1, d1, g2, d2, e1, e2, ho⟩ := hs.done h0
    exact ⟨_, d1, _, d2, e1, e2, ⟨Or.inr ⟨g1, 0, g2, 0, rfl, rfl, ho.vars.ints, ho.terms.mats⟩⟩⟩

set_option maxRecDepth 20000 in
set_option maxHeartbeats 800000 in
theorem l6Term_none (E : Nat) (p1 : Option Addr) (c1 : Nat) (y : Value) (v : Int) (w : World) (he : Two w E (.slice p1 0 c1) y) :
    Calls Try.prog 72 #[.pointer (some ⟨E, 0, none⟩), .int .i64 v] w fun e w' => e = .returned (.slice none 0 0) ∧ Below w.heap.size w w' := by
  have x0 := he.c0
  clear he
  go_enter Try.func72, Try.ntmps72
  go_wp2
  refine wp_loop_rounds 1 ?_
  rw [rounds_succ]
  go_wp2
  go_ret
  exact ⟨rfl, Below.refl _ _⟩

/-- What the model finds for a variable in a binding. -/
theorem l6Term_bd (E : Nat) (lo : Nat) (M : Nat → List Int) (va ta : Value) (v : Nat) (w : World) (he : Two w E va ta) (hb : Bd w lo M va ta) (hi : ∀ v, 12 ≤ v → M v = []) :
    Calls Try.prog 72 #[.pointer (some ⟨E, 0, none⟩), .int .i64 (v : Int)] w fun e w' => (∃ p c, e = .returned (.slice p (M v).length c) ∧ MayL w' p (M v)) ∧ Below w.heap.size w w' := by
  obtain ⟨p1, c1, p2, c2, rfl, rfl, ha⟩ := hb.at
  rcases ha.rows with h0 | ⟨b1, o1, b2, o2, rfl, rfl, h1, h2⟩
  · have hM : M v = [] := by
      have := bdM_canon hi v
      rw [h0] at this
      rw [← this]; rfl
    rw [h0] at he
    refine (l6Term_none E p1 c1 _ _ w he).mono ?_
    rintro e w' ⟨rfl, hb⟩
    exact ⟨⟨none, 0, by rw [hM]; rfl, Or.inl (by rw [hM]; rfl)⟩, hb⟩
  · have := l6Term_any E b1 o1 (cR M) c1 b2 o2 c2 (cV M) (cnD M 12) (v : Int) w he h1 h2 (by have := cR_le M; omega)
    rwa [bdM_canon hi v] at this

/-- What l6Match answers. -/
def MatS (A T P : Nat → Int) (m mP q : Nat) (lo : Nat) (e : Ending) (w' : World) : Prop :=
  (mtB A T P m mP q = none ∧ e = .returned (.tuple #[.agg #[.slice none 0 0, .slice none 0 0], .bool false])) ∨ (∃ M, mtB A T P m mP q = some M ∧ (∀ v, 12 ≤ v → M v = []) ∧ ∃ va ta, e = .returned (.tuple #[.agg #[va, ta], .bool true]) ∧ Bd w' lo M va ta)

theorem Bd.slices {w : World} {lo : Nat} {M : Nat → List Int} {va ta : Value} (h : Bd w lo M va ta) : ∃ p1 c1 p2 c2, va = .slice p1 (cR M) c1 ∧ ta = .slice p2 (cR M) c2 := by
  obtain ⟨p1, c1, p2, c2, e1, e2, _⟩ := h.at
  exact ⟨p1, c1, p2, c2, e1, e2⟩

theorem Ints.same {w : World} {b off n : Nat} {L L' : Nat → Int} (h : Ints w b off n L) (he : ∀ i, i < n → L i = L' i) : Ints w b off n L' :=
  ⟨h.blk, fun i hi => by rw [← he i hi]; exact h.cell i hi⟩

set_option maxRecDepth 20000 in
set_option maxHeartbeats 12800000 in
theorem l6Match_any (Bs b off n c bp op mP cp b' off' m c' q e0 : Nat) (N : Nat → ByteArray) (A P T : Nat → Int) (w : World) (hs : One w Bs (.slice (some ⟨b, off, none⟩) n c)) (h : Syms w b off n N A) (hP : Ints w bp op mP P) (h' : Ints w b' off' m T) (hg : Trm n A m T) (hp : Trm n A mP P) (hq : skip (aOf A T) m q 1 = some e0) (hc : m ≤ c') :
    Calls Try.prog 54 #[.pointer (some ⟨Bs, 0, none⟩), .slice (some ⟨bp, op, none⟩) mP cp, .slice (some ⟨b', off', none⟩) m c', .int .i64 (q : Int)] w fun e w' => MatS A T P m mP q w.heap.size e w' ∧ Below w.heap.size w w' := by
  have hqe := (skip_le hq).2 (by omega)
  have hm24 := hg.nods.most
  have hp24 := hp.nods.most
  have hp0 := hp.pos
  have b0 := alloc_below w (.cells #[.slice none 0 0, .slice none 0 0] 92)
  have r0 := Own2.new w (.slice none 0 0) (.slice none 0 0) 92
  obtain ⟨wa, hwa⟩ : ∃ wa, wa = w.alloc (.cells #[.slice none 0 0, .slice none 0 0] 92) := ⟨_, rfl⟩
  have sa : wa.heap.size = w.heap.size + 1 := by rw [hwa]; simp
  rw [← hwa] at b0 r0
  have b1 := alloc_below wa (.cells #[.slice none 0 0, .slice none 0 0] 92)
  have r1 := Own2.new wa (.slice none 0 0) (.slice none 0 0) 92
  obtain ⟨wb, hwb⟩ : ∃ wb, wb = wa.alloc (.cells #[.slice none 0 0, .slice none 0 0] 92) := ⟨_, rfl⟩
  have sb : wb.heap.size = w.heap.size + 1 + 1 := by rw [hwb]; simp [sa]
  rw [← hwb] at b1 r1
  rw [sa] at r1
  have R := hidden (r0.keep b1)
  have X := hidden r1
  have B := hidden (keepB b0 b1)
  have SB := hidden sb
  have HS := hidden hs
  have HY := hidden h
  have HP := hidden hP
  have HT := hidden h'
  have HG := hidden hg
  have HPT := hidden hp
  have HQ := hidden hq
  have hw2 : wb = (w.alloc (.cells #[.slice none 0 0, .slice none 0 0] 92)).alloc (.cells #[.slice none 0 0, .slice none 0 0] 92) := by rw [hwb, hwa]
  clear b0 b1 r0 r1 hs h hP h' hg hp hq sa sb hwb hwa
  go_enter Try.func54, Try.ntmps54
  go_wp2
  rw [← hw2]
  clear hw2 wa
  go_loopw [3, 11] (fun a i wr => ∃ (k p : Nat) (M : Nat → List Int) (va ta : Value), k ≤ mP ∧ p ≤ e0 ∧ i = .int .i64 (k : Nat) ∧ a = .int .i64 (p : Nat) ∧ Hid (mtS (aOf A T) m T P q k = some (p, M)) ∧ Hid (Own2 wr (w.heap.size + 1) va ta ∧ Bd wr (w.heap.size + 1 + 1) M va ta) ∧ Hid (Own2 wr w.heap.size (.slice none 0 0) (.slice none 0 0)) ∧ Hid (Below w.heap.size w wr)) (fun _ i _ => mP - (intOf i).toNat)
  case atStart => exact ⟨0, q, fun _ => [], _, _, Nat.zero_le _, by omega, rfl, rfl, hidden rfl, hidden ⟨X.out, Or.inl ⟨by simp [cR, cnL, flt, hasB], rfl, rfl⟩⟩, R, B⟩
  case round =>
    clear R X B SB wb
    obtain ⟨k, p, M, va, ta, hk, hpe, rfl, rfl, HM, HX, HR, HB⟩ := hrel
    by_cases hlt : k < mP
    · have I := hidden (mt_inv HPT.out HQ.out k p M hk HM.out)
      have HHI := hidden (mt_hi HPT.out k p M hk HM.out)
      obtain ⟨e, n1, n2, n3, n4, n5⟩ := I.out.next HPT.out hlt
      have z1 := (HP.out.keep HB.out).cell k hlt
      have HE := hidden n1
      clear n1 n5
      rcases nodeB_cases (HPT.out.nods.node k hlt) with ⟨j, ej, hj⟩ | hv
      · have HJ := hidden ej
        rw [ej] at z1
        have z2 := (HT.out.keep HB.out).cell p (by omega)
        obtain ⟨y, hy⟩ : ∃ y, y = T p := ⟨_, rfl⟩
        have HYY := hidden hy
        rw [← hy] at z2
        clear ej hy
        by_cases hyj : y = j
        · subst hyj
          have HM2 := hidden (mt_sym HM.out (by rw [HJ.out]; omega) (by rw [← HYY.out, HJ.out]))
          go_wp2
          go_big_region
          go_wp2
          go_roundw
          case rel => exact ⟨k + 1, p + 1, M, va, ta, by omega, by omega, by go_num, by go_num, HM2, hidden ⟨HX.out.1.keep (Below.refl _ _).drew, HX.out.2.keep (Below.refl _ _).drew⟩, hidden (HR.out.keep (Below.refl _ _).drew), hidden HB.out.drew⟩
          case measure => simp [intOf]; omega
        · have HM2 := hidden (mt_stay (mt_off HM.out (by rw [HJ.out]; omega) (by rw [← HYY.out, HJ.out]; exact hyj)) mP hlt)
          have hyj' : (y != (j : Int)) = true := by simpa using hyj
          have q0 := HR.out.two.c0
          have q1 := HR.out.two.c1
          have f0 := HR.out.f0
          have f1 := HR.out.f1
          go_wp2
          go_big_region
          go_wp2
          exact bodyPost_ret (v := .tuple #[.agg #[.slice none 0 0, .slice none 0 0], .bool false]) (by simp [results, Try.results54, go_sem, q0, q1]) rfl ⟨Or.inl ⟨mtB_none HM2.out, rfl⟩, (HB.out.drew.setCell (Nat.le_refl _) _).setCell (Nat.le_refl _) _⟩
      · obtain ⟨v, ev⟩ : ∃ v : Nat, P k = -1 - (v : Int) := ⟨(-1 - P k).toNat, by omega⟩
        have hv12 : v < 12 := by omega
        have EV := hidden ev
        rw [ev] at z1
        clear ev hv
        go_wp2_with fail
        with_reducible refine (l3Sub_any _ _ _ _ _ _ _ _ _ p e N A T _ (HS.out.keep HB.out) (HY.out.keep HB.out) (HT.out.keep HB.out) HG.out.nods (by omega) hc HE.out).mono ?_
        rintro r1 w1 ⟨g, d, rfl, hgg, ho, hb⟩
        have IT := hidden (show Ints w1 g 0 (e - p) (fun i => (ptL T p e).getD i 0) from ho.ints.same (fun i hi => (ptL_at hi).symm))
        replace HX := hidden (And.intro (HX.out.1.keep hb) (HX.out.2.keep hb))
        replace HR := hidden (HR.out.keep hb)
        replace HB := hidden (keepB HB.out hb)
        clear hb ho hgg z1
        have z1 := (HP.out.keep HB.out).cell k hlt
        rw [EV.out] at z1
        have S := hidden (l6Term_bd (w.heap.size + 1) _ M va ta v w1 HX.out.1.two HX.out.2 HHI.out)
        rw [show (v : Int) = -1 - (-1 - (v : Int)) by omega] at S
        obtain ⟨l, hl⟩ : ∃ l, l = e - p := ⟨_, rfl⟩
        have HL := hidden hl
        have hl1 : 0 < l := by omega
        have hl24 : l ≤ 24 := by omega
        have hle : p + l = e := by omega
        rw [← hl] at IT ⊢
        clear hl
        go_wp2_with fail
        with_reducible refine S.out.mono ?_
        rintro r1 w2 ⟨⟨po, co, rfl, hpo⟩, hb⟩
        replace IT := hidden (IT.out.keep hb)
        replace HX := hidden (And.intro (HX.out.1.keep hb) (HX.out.2.keep hb))
        replace HR := hidden (HR.out.keep hb)
        replace HB := hidden (keepB HB.out hb)
        clear hb z1 S
        by_cases hM : M v = []
        · have hz : (M v).length = 0 := by rw [hM]; rfl
          rw [hz]
          have z1 := (HP.out.keep HB.out).cell k hlt
          rw [EV.out] at z1
          have HM2 := hidden (mt_new HM.out EV.out hM HE.out)
          have HXP := hidden HX.out.2
          obtain ⟨p1, c1, p2, c2, rfl, rfl, ha⟩ := HX.out.2.at
          have hpe2 : p < e := n2
          have S := hidden (l6With_any (w.heap.size + 1) p1 c1 p2 c2 M v g 0 d (ptL T p e) w2 HX.out.1.two ha (by rw [ptL_len, ← HL.out]; exact IT.out) hv12 hM (ptL_ne hpe2) ((I.out.new HPT.out hlt (by rw [EV.out]; omega) HE.out v).len hm24 hqe.2))
          rw [ptL_len, ← HL.out, show (v : Int) = -1 - (-1 - (v : Int)) by omega] at S
          clear hM hz hpo ha
          go_wp2_with fail
          with_reducible refine S.out.mono ?_
          rintro r1 w3 ⟨va2, ta2, B2, X2, rfl, hX2, hs, hb⟩
          obtain ⟨g1, d1, g2, d2, rfl, rfl, -⟩ := hs.done (cnU_pos hv12 (ptL_ne hpe2))
          have hbk := HX.out.1.two.blk
          have hlow := hs.low
          have hpos : 0 < cR (updM M v (ptL T p e)) := cnU_pos hv12 (ptL_ne hpe2)
          obtain ⟨r2, hr2⟩ : ∃ r2, r2 = (cnL (updM M v (ptL T p e)) 12).length := ⟨_, rfl⟩
          rw [← hr2] at hs ⊢
          have HX2 := hidden (show Own2 ((w3.setCell ⟨w.heap.size + 1, 0, none⟩ (.slice (some ⟨g1, 0, none⟩) r2 d1)).setCell ⟨w.heap.size + 1, 1, none⟩ (.slice (some ⟨g2, 0, none⟩) r2 d2)) (w.heap.size + 1) (.slice (some ⟨g1, 0, none⟩) r2 d1) (.slice (some ⟨g2, 0, none⟩) r2 d2) ∧ Bd ((w3.setCell ⟨w.heap.size + 1, 0, none⟩ (.slice (some ⟨g1, 0, none⟩) r2 d1)).setCell ⟨w.heap.size + 1, 1, none⟩ (.slice (some ⟨g2, 0, none⟩) r2 d2)) (w.heap.size + 1 + 1) (updM M v (ptL T p e)) (.slice (some ⟨g1, 0, none⟩) r2 d1) (.slice (some ⟨g2, 0, none⟩) r2 d2) from
            ⟨((HX.out.1.keep hb).set0 _).set1 _, Or.inr ⟨hpos, B2, X2, by omega, (hs.far _ _ (by show w.heap.size + 1 < B2; omega) (by show X2 ≠ w.heap.size + 1; omega)).far _ _ (by show w.heap.size + 1 < B2; omega) (by show X2 ≠ w.heap.size + 1; omega)⟩⟩)
          have k0 := (HX.out.1.keep hb).two.c0
          have k1 := (HX.out.1.keep hb).two.c1
          have f0 := (HX.out.1.keep hb).f0
          have f1 := (HX.out.1.keep hb).f1
          have HR2 := hidden (((HR.out.keep hb).other ⟨w.heap.size + 1, 0, none⟩ (.slice (some ⟨g1, 0, none⟩) r2 d1) (by simp)).other ⟨w.heap.size + 1, 1, none⟩ (.slice (some ⟨g2, 0, none⟩) r2 d2) (by simp))
          have HB2 := hidden (((keepB HB.out hb).setCell (p := ⟨w.heap.size + 1, 0, none⟩) (by simp) (.slice (some ⟨g1, 0, none⟩) r2 d1)).setCell (p := ⟨w.heap.size + 1, 1, none⟩) (by simp) (.slice (some ⟨g2, 0, none⟩) r2 d2))
          clear hb hs hX2 hbk hlow hpos hr2 S z1 IT HX HXP
          go_wp2
          go_roundw
          case rel => exact ⟨k + 1, e, _, _, _, by omega, by omega, by go_num, by first | (rw [← hle]; go_num; done) | (congr 1; omega), HM2, HX2, HR2, HB2⟩
          case measure => simp [intOf]; omega
        · rcases hpo with h0 | ⟨bo, oo, rfl, io⟩
          · exact absurd (List.eq_nil_of_length_eq_zero h0) hM
          have hMl := I.out.len hm24 hqe.2 v
          have hMp : 0 < (M v).length := List.length_pos_iff.2 hM
          have hMz : (((M v).length : Int) == 0) = false := by simp; omega
          have HMN := hidden hM
          have S := hidden (l1Same_any bo oo (M v).length co g 0 l d (fun i => (M v).getD i 0) (fun i => T (p + i)) w2 io (IT.out.same (fun i hi => ptL_at (by rw [← HL.out]; exact hi))) (by omega))
          clear io hM
          go_wp2_with fail
          with_reducible refine S.out.mono ?_
          rintro r1 w3 ⟨rfl, hb⟩
          replace HX := hidden (And.intro (HX.out.1.keep hb) (HX.out.2.keep hb))
          replace HR := hidden (HR.out.keep hb)
          replace HB := hidden (keepB HB.out hb)
          clear hb S IT
          by_cases hs : M v = ptL T p e
          · have HM2 := hidden (mt_old HM.out EV.out HMN.out HE.out hs)
            rw [show sameI (M v).length l (fun i => (M v).getD i 0) (fun i => T (p + i)) = true by rw [HL.out]; exact same_ptL.2 hs]
            clear hs
            go_wp2
            go_roundw
            case rel => exact ⟨k + 1, e, M, va, ta, by omega, by omega, by go_num, by first | (rw [← hle]; go_num; done) | (congr 1; omega), HM2, HX, HR, HB⟩
            case measure => simp [intOf]; omega
          · have HM2 := hidden (mt_stay (mt_dif HM.out EV.out HMN.out HE.out hs) mP hlt)
            rw [show sameI (M v).length l (fun i => (M v).getD i 0) (fun i => T (p + i)) = false by
              cases hh : sameI (M v).length l (fun i => (M v).getD i 0) (fun i => T (p + i)) with
              | false => rfl
              | true => rw [HL.out] at hh; exact absurd (same_ptL.1 hh) hs]
            clear hs
            have q0 := HR.out.two.c0
            have q1 := HR.out.two.c1
            have f0 := HR.out.f0
            have f1 := HR.out.f1
            go_wp2
            exact bodyPost_ret (v := .tuple #[.agg #[.slice none 0 0, .slice none 0 0], .bool false]) (by simp [results, Try.results54, go_sem, q0, q1]) rfl ⟨Or.inl ⟨mtB_none HM2.out, rfl⟩, (HB.out.setCell (Nat.le_refl _) _).setCell (Nat.le_refl _) _⟩
    · obtain rfl : k = mP := by omega
      have HM2 := hidden (mtB_some HM.out)
      have HHI := hidden (mt_hi HPT.out k p M hk HM.out)
      have BD := hidden HX.out.2
      obtain ⟨p1, c1, p2, c2, rfl, rfl, -⟩ := HX.out.2.at
      have q0 := HR.out.two.c0
      have q1 := HR.out.two.c1
      have f0 := HR.out.f0
      have f1 := HR.out.f1
      have k0 := HX.out.1.two.c0
      have k1 := HX.out.1.two.c1
      obtain ⟨r2, hr2⟩ : ∃ r2, r2 = cR M := ⟨_, rfl⟩
      rw [← hr2] at k0 k1 BD
      clear HX hr2
      go_wp2
      exact bodyPost_ret (v := .tuple #[.agg #[.slice p1 r2 c1, .slice p2 r2 c2], .bool true]) (by simp [results, Try.results54, go_sem, q0, q1]) rfl ⟨Or.inr ⟨M, HM2.out, HHI.out, _, _, rfl, ((BD.out.far ⟨w.heap.size, 0, none⟩ _ (by show w.heap.size < _; omega)).far ⟨w.heap.size, 1, none⟩ _ (by show w.heap.size < _; omega)).le (by omega)⟩, (HB.out.setCell (Nat.le_refl _) _).setCell (Nat.le_refl _) _⟩

end Go.Proofs.Ytbdgnpjbmlcchaa
