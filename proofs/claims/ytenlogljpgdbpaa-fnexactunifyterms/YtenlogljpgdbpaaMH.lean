/- Several texts as one: Plcs, ApplyI, BhdC, MatT, Bhd, ThnP, ThnS, ThK. -/
import Derived.Test.YtenlogljpgdbpaaApply
import Derived.Maps.OwnSet
import Derived.Test.YtenlogljpgdbpaaMY
import Derived.Test.YtenlogljpgdbpaaMM
import Derived.Test.YtenlogljpgdbpaaEqnF
import Derived.Laws.EntriesVeiled
import Derived.Deep.RegionHeld3
/- Contracts: the map of a binding's variables to their places, and what of it stays when variables are deleted. -/
namespace Go.Proofs.Ytenlogljpgdbpaa
open Go.RowKit Go.Maps

def keyV (x : Int) : Lit := .int .i64 x

theorem keyV_inj {a b : Int} (h : keyV a = keyV b) : a = b := by simpa [keyV] using h
theorem keyV_key (a : Int) : WideAt.IsKeyLit (keyV a) := by simp [keyV, WideAt.IsKeyLit]

/-- The map behind the first k variables. -/
def mapV (V : Nat → Int) : Nat → DataW Unit
  | 0 => .map []
  | k + 1 => (mapV V k).put (keyV (V k)) (.lit (.int .i64 (k : Int)))

/-- .. and behind the first k deletes. -/
def delV (V : Nat → Int) (D : DataW Unit) : Nat → DataW Unit
  | 0 => D
  | k + 1 => (delV V D k).del (keyV (V k))

theorem mapV_tidy (V : Nat → Int) : ∀ k, Tidy (mapV V k)
  | 0 => tidy_empty
  | k + 1 => (mapV_tidy V k).put (keyV_key _) _

theorem mapV_has (V : Nat → Int) (x : Int) : ∀ k, Maps.has (mapV V k) (keyV x) = true ↔ ∃ i, i < k ∧ V i = x
  | 0 => by simp [mapV, Maps.has]
  | k + 1 => by
    by_cases e : x = V k
    · subst e
      simp only [mapV, has_put_same (mapV_tidy V k).isMap (keyV_key _), true_iff]
      exact ⟨k, by omega, rfl⟩
    · rw [mapV, has_put_other (fun h => e (keyV_inj h)), mapV_has V x k]
      constructor
      · rintro ⟨i, hi, h⟩; exact ⟨i, by omega, h⟩
      · rintro ⟨i, hi, h⟩
        refine ⟨i, ?_, h⟩
        by_cases ei : i = k
        · subst ei; exact absurd h.symm e
        · omega

theorem mapV_at (V : Nat → Int) {i : Nat} (z : DataW Unit) : ∀ k, (∀ a b, a < k → b < k → V a = V b → a = b) → i < k → (mapV V k).atKey (keyV (V i)) z = .lit (.int .i64 (i : Int))
  | 0, _, h => by omega
  | k + 1, hd, h => by
    by_cases e : i = k
    · subst e; rw [mapV, atKey_put_same (mapV_tidy V i).isMap (keyV_key _)]
    · rw [mapV, atKey_put_other (fun h' => e (hd i k (by omega) (by omega) (keyV_inj h')))]
      exact mapV_at V z k (fun a b ha hb => hd a b (by omega) (by omega)) (by omega)

theorem delV_tidy (V : Nat → Int) {D : DataW Unit} (hD : Tidy D) : ∀ k, Tidy (delV V D k)
  | 0 => hD
  | k + 1 => (delV_tidy V hD k).del _

theorem delV_out (V : Nat → Int) (D : DataW Unit) (x : Int) : ∀ k, (∃ i, i < k ∧ V i = x) → Maps.has (delV V D k) (keyV x) = false
  | 0, h => by obtain ⟨i, hi, _⟩ := h; omega
  | k + 1, h => by
    by_cases e : x = V k
    · subst e; rw [delV]; exact has_del_same
    · rw [delV, has_del_other (fun h' => e (keyV_inj h'))]
      obtain ⟨i, hi, hx⟩ := h
      refine delV_out V D x k ⟨i, ?_, hx⟩
      by_cases ei : i = k
      · subst ei; exact absurd hx.symm e
      · omega

theorem delV_in (V : Nat → Int) (D : DataW Unit) (x : Int) (z : DataW Unit) : ∀ k, (∀ i, i < k → V i ≠ x) → Maps.has (delV V D k) (keyV x) = Maps.has D (keyV x) ∧ (delV V D k).atKey (keyV x) z = D.atKey (keyV x) z
  | 0, _ => ⟨rfl, rfl⟩
  | k + 1, h => by
    have e : keyV x ≠ keyV (V k) := fun h' => h k (by omega) (keyV_inj h').symm
    obtain ⟨h1, h2⟩ := delV_in V D x z k (fun i hi => h i (by omega))
    rw [delV, has_del_other e, atKey_del_other e]
    exact ⟨h1, h2⟩

theorem lawV : Keyed Try.prog 2 := int_keyed Try.underlying2
theorem zeroInt (w : World) : (zeroValue 3).run Try.prog w = .ok (.int .i64 0) w := by kernel_rfl

theorem keyOfV {x : Int} (h : -1000 ≤ x ∧ x ≤ 1000) : keyOf Try.prog 2 (.int .i64 x) = some (keyV x) := by
  have hw : (Lit.int .i64 x).wf = true := WalkArith.wf_i64 (by omega)
  simp [keyOf, mapKey, Try.underlying2, hw, keyV]

theorem makeMapV (k : Int) (w : World) : (Instr.makeMap 118 (some (.int .i64 k))).run Try.prog w = .ok (.map (some w.heap.size)) (w.alloc (.map #[] 0)) := by
  simp [Instr.makeMap, run_underlying Try.underlying118, asInt, asIntOf, Result.andThen]

/-- A slice of numbers that may be none. -/
def RowV (w : World) (p : Option Addr) (k : Nat) (V : Nat → Int) : Prop := k = 0 ∨ ∃ b o, p = some ⟨b, o, none⟩ ∧ Ints w b o k V
theorem RowV.keep {w w' : World} {p : Option Addr} {k : Nat} {V : Nat → Int} (h : RowV w p k V) (hb : Below w.heap.size w w') : RowV w' p k V :=
  h.imp id fun ⟨b, o, e, h⟩ => ⟨b, o, e, h.keep hb⟩

set_option maxRecDepth 20000 in
set_option maxHeartbeats 1600000 in
theorem placesBy_any (p1 : Option Addr) (k c1 : Nat) (p2 : Option Addr) (k2 c2 : Nat) (V : Nat → Int) (w : World) (h : RowV w p1 k V) (hk : k ≤ 12) (hV : ∀ i, i < k → 0 ≤ V i ∧ V i ≤ 11) :
    Calls Try.prog 84 #[.agg #[.slice p1 k c1, .slice p2 k2 c2]] w fun e w' => ∃ X, e = .returned (.map (some X)) ∧ w.heap.size ≤ X ∧ w'.ownsMap Try.prog 2 (plainElem (H := Unit) Try.prog 3) X k (mapV V k) ∧ Below w.heap.size w w' := by
  have hmm := makeMapV
  have HH := hidden h
  have HV := hidden hV
  have TW := hidden (Two.new w (.slice p1 k c1) (.slice p2 k2 c2) 29)
  have y0 := ((TW.out.keep (alloc_below _ (.map #[] 0)))).c0
  clear h hV
  go_enter Try.func84, Try.ntmps84
  go_wp2
  clear hmm y0
  go_loopw [13] (fun i wr => ∃ j : Nat, j ≤ k ∧ i = .int .i64 j ∧ Hid (wr.ownsMap Try.prog 2 (plainElem (H := Unit) Try.prog 3) (w.heap.size + 1) j (mapV V j) ∧ Below w.heap.size w wr)) (fun i _ => k - (intOf i).toNat)
  case atStart =>
    refine ⟨0, Nat.zero_le _, rfl, hidden ⟨?_, (alloc_below _ _).alloc (by simp) _⟩⟩
    have := World.ownsMap_made (w.alloc (.cells #[.slice p1 k c1, .slice p2 k2 c2] 29)) Try.prog 2 (plainElem (H := Unit) Try.prog 3)
    rw [World.size_alloc] at this
    exact this
  case round =>
    obtain ⟨j, hj, rfl, HI⟩ := hrel
    by_cases hlt : j < k
    · rcases HH.out with h0 | ⟨b, o, rfl, hi⟩
      · omega
      have c1v := (hi.keep HI.out.2).cell j hlt
      have hvj := HV.out j hlt
      have HM := hidden HI.out.1
      have HKey := hidden (keyOfV (x := V j) ⟨by omega, by omega⟩)
      have HB := hidden HI.out.2
      have SZ := hidden (show w.heap.size ≤ w.heap.size + 1 by omega)
      clear hi HI
      go_wp2_with (first | (at_mapUpdate; refine wpList_mapUpdate_own _ rfl _ _ _ 118 rfl 2 3 lawV Try.underlying118 _ (w.heap.size + 1) j _ rfl HM.out (by unfold maxLen; omega) _ _ _ rfl rfl HKey.out _ [] (plainElem_int Try.underlying3 (WalkArith.wf_i64 (by omega))) ?_) | go_in)
      intro w1 hown1 hgrow1
      have H1 := hidden hown1
      have B1 := hidden (HB.out.grown hgrow1 HB.out.size (fun q hq => by cases hq; exact SZ.out))
      clear hown1 hgrow1 HM HB c1v
      go_wp2
      go_roundw
      case rel => exact ⟨j + 1, by omega, by go_num, hidden ⟨H1.out, B1.out⟩⟩
      case measure => simp [intOf]; omega
    · obtain rfl : k = j := by omega
      go_wp2
      go_ret
      exact ⟨_, rfl, by omega, HI.out.1, HI.out.2⟩

end Go.Proofs.Ytenlogljpgdbpaa

/- Contracts: what a binding binds, as the program's meaning tells it; ApplyBinding, as the program makes it. -/
namespace Go.Proofs.Ytenlogljpgdbpaa
open Go.RowKit

/-- The place, or -1. -/
def ixV (V : Nat → Int) (v : Int) (m : Nat) : Int := match bdI V v m with | some i => (i : Int) | none => -1

theorem ixV_some {V : Nat → Int} {v : Int} {m i : Nat} (h : bdI V v m = some i) : ixV V v m = i := by simp [ixV, h]
theorem ixV_none {V : Nat → Int} {v : Int} {m : Nat} (h : bdI V v m = none) : ixV V v m = -1 := by simp [ixV, h]

set_option maxRecDepth 20000 in
set_option maxHeartbeats 800000 in
theorem ixAt_any (b off m c : Nat) (V : Nat → Int) (v : Int) (w : World) (h : Ints w b off m V) (hm : m ≤ 1048576) :
    Calls Try.prog 76 #[.slice (some ⟨b, off, none⟩) m c, .int .i64 v] w fun e w' => e = .returned (.int .i64 (ixV V v m)) ∧ Below w.heap.size w w' := by
  go_enter Try.func76, Try.ntmps76
  go_wp2
  go_loopw [8] (fun i wr => ∃ k : Nat, k ≤ m ∧ i = .int .i64 k ∧ Hid (∀ j, j < k → V j ≠ v) ∧ wr = w) (fun i _ => m - (intOf i).toNat)
  case atStart => exact ⟨0, Nat.zero_le _, rfl, hidden (fun j hj => by omega), rfl⟩
  case round =>
    obtain ⟨k, hk, rfl, HE, rfl⟩ := hrel
    by_cases hlt : k < m
    · have c1 := h.cell k hlt
      by_cases hv : V k = v
      · have HR := hidden (ixV_some (bdI_first HE.out hv m hlt))
        rw [hv] at c1
        clear hv
        go_wp2
        go_ret
        exact ⟨by rw [HR.out]; rfl, Below.refl _ _⟩
      · have HV := hidden hv
        have hv' : (v == V k) = false := by simpa using (fun e => hv (Eq.symm e))
        clear hv
        go_wp2
        go_roundw
        case rel => exact ⟨k + 1, by omega, by go_num, hidden (fun j hj => by
          by_cases e : j = k
          · rw [e]; exact HV.out
          · exact HE.out j (by omega)), by trivial⟩
        case measure => simp [intOf]; omega
    · have HR := hidden (ixV_none (bdI_none (V := V) (v := v) m (fun i hi => HE.out i (by omega))))
      go_wp2
      go_ret
      exact ⟨by rw [HR.out]; rfl, Below.refl _ _⟩

set_option maxRecDepth 20000 in
set_option maxHeartbeats 800000 in
theorem meaning1_any (E b1 o1 m c1 b2 o2 c2 : Nat) (V : Nat → Int) (D : LsL) (v : Int) (w : World) (he : Two w E (.slice (some ⟨b1, o1, none⟩) m c1) (.slice (some ⟨b2, o2, none⟩) m c2)) (h1 : Ints w b1 o1 m V) (h2 : Mats w b2 o2 m D) (hm : m ≤ 1048576) :
    Calls Try.prog 75 #[.int .i64 v, .pointer (some ⟨E, 0, none⟩)] w fun e w' => (∃ p c, e = .returned (.slice p (bdM m V D v).length c) ∧ MayL w' p (bdM m V D v)) ∧ Below w.heap.size w w' := by
  have X := hidden he
  have I1 := hidden h1
  have I2 := hidden h2
  clear he h1 h2
  have x0 := X.out.c0
  go_enter Try.func75, Try.ntmps75
  go_wp2_with fail
  with_reducible refine (ixAt_any _ _ _ _ V v _ I1.out hm).mono ?_
  rintro e w1 ⟨rfl, hb⟩
  have B := hidden hb
  replace X := hidden (X.out.keep hb)
  replace I2 := hidden (I2.out.keep hb)
  clear hb x0 I1
  cases hd : bdI V v m with
  | none =>
    have HB := hidden (bdM_none (D := D) hd)
    rw [ixV_none hd]
    clear hd
    go_wp2
    go_ret
    exact ⟨⟨none, 0, by rw [HB.out]; rfl, Or.inl (by rw [HB.out]; rfl)⟩, B.out⟩
  | some i =>
    have HB := hidden (bdM_some (D := D) hd)
    have hi := (bdI_some m i hd).1
    rw [ixV_some hd]
    clear hd
    have x1 := X.out.c1
    obtain ⟨g, o, c, e1, i1, _⟩ := I2.out.row i hi
    have J := hidden i1
    clear i1
    go_wp2
    go_ret
    exact ⟨⟨_, _, by rw [HB.out, upto_length]; rfl, by rw [HB.out]; exact J.out.mayL⟩, B.out⟩

set_option maxRecDepth 20000 in
theorem enters_bn : Enters 75 := fun _ _ => rfl

theorem meaning1_mean (E b1 o1 m c1 b2 o2 c2 : Nat) (V : Nat → Int) (D : LsL) (w : World) (he : Two w E (.slice (some ⟨b1, o1, none⟩) m c1) (.slice (some ⟨b2, o2, none⟩) m c2)) (h1 : Ints w b1 o1 m V) (h2 : Mats w b2 o2 m D) (hm : m ≤ 1048576) : Mean 75 #[.pointer (some ⟨E, 0, none⟩)] (bdN m V D) w := by
  refine ⟨enters_bn, fun v w1 hv hb => ?_⟩
  exact meaning1_any E b1 o1 m c1 b2 o2 c2 V D (v : Int) w1 (he.keep hb) (h1.keep hb) (h2.keep hb) hm

set_option maxRecDepth 20000 in
set_option maxHeartbeats 400000 in
theorem meaningOf_any (b1 o1 m c1 b2 o2 c2 : Nat) (V : Nat → Int) (D : LsL) (w : World) (h1 : Ints w b1 o1 m V) (h2 : Mats w b2 o2 m D) (hm : m ≤ 1048576) :
    Calls Try.prog 40 #[.agg #[.slice (some ⟨b1, o1, none⟩) m c1, .slice (some ⟨b2, o2, none⟩) m c2]] w fun e w' => ∃ E, e = .returned (.func (Fn.func 75) #[] #[.pointer (some ⟨E, 0, none⟩)]) ∧ Mean 75 #[.pointer (some ⟨E, 0, none⟩)] (bdN m V D) w' ∧ Below w.heap.size w w' := by
  have X := hidden (Two.new w (.slice (some ⟨b1, o1, none⟩) m c1) (.slice (some ⟨b2, o2, none⟩) m c2) 29)
  have B := hidden (alloc_below w (.cells #[.slice (some ⟨b1, o1, none⟩) m c1, .slice (some ⟨b2, o2, none⟩) m c2] 29))
  have HM := hidden (meaning1_mean _ _ _ _ _ _ _ _ V D _ X.out (h1.keep B.out) (h2.keep B.out) hm)
  clear h1 h2
  go_enter Try.func40, Try.ntmps40
  go_wp2
  go_ret
  exact ⟨_, rfl, HM.out, B.out⟩

theorem ap_len {n : Nat} {N : Nat → ByteArray} {A : Nat → Int} {m : Nat} {V : Nat → Int} {t : Nat} {D : LsL} {k : Nat} {T : Nat → Int} (h : apC n N A m V t D k T = 0) : (putL (bdN m V D) T k).length ≤ 24 := by
  by_cases hf : bnF n N A m V t D = 0
  · by_cases hl : lF n A k T = 0
    · rw [ap_put hf hl] at h
      by_cases h2 : 24 < (putL (bdN m V D) T k).length
      · rw [if_pos h2] at h; cases h
      · omega
    · rw [ap_term hf hl] at h; exact absurd h hl
  · rw [ap_fault hf] at h; exact absurd h hf

end Go.Proofs.Ytenlogljpgdbpaa

/- Contracts: the meaning of a binding as a function that tells lists of old memory; the meaning of two bindings one behind the other. -/
namespace Go.Proofs.Ytenlogljpgdbpaa
open Go.RowKit Go.Maps

/-- A slice of lists that may be none. -/
def MatV (w : World) (p : Option Addr) (k : Nat) (D : LsL) : Prop := k = 0 ∨ ∃ b o, p = some ⟨b, o, none⟩ ∧ Mats w b o k D
theorem MatV.keep {w w' : World} {p : Option Addr} {k : Nat} {D : LsL} (h : MatV w p k D) (hb : Below w.heap.size w w') : MatV w' p k D :=
  h.imp id fun ⟨b, o, e, h⟩ => ⟨b, o, e, h.keep hb⟩

theorem ownsMap_below {k : TypeId} {R : Value → Option (DataW Unit × List MemPlace)} {w w' : World} {b n : Nat} {D : DataW Unit} (h : w.ownsMap Try.prog k R b n D) (hb : Below w.heap.size w w') : w'.ownsMap Try.prog k R b n D := by
  have hl := h.lt
  obtain ⟨es, clock, h1, h2⟩ := h
  exact ⟨es, clock, by rw [hb.block b hl]; exact h1, h2⟩

theorem bdN_zero {V : Nat → Int} {D : LsL} : bdN 0 V D = fun _ => [] := by funext v; rfl

set_option maxRecDepth 20000 in
set_option maxHeartbeats 400000 in
theorem indexZ (p : Option Addr) (c : Nat) (x : Int) (w : World) :
    Calls Try.prog 76 #[.slice p 0 c, .int .i64 x] w fun e w' => e = .returned (.int .i64 (-1)) ∧ Below w.heap.size w w' := by
  go_enter Try.func76, Try.ntmps76
  go_wp2
  refine wp_loop_rounds 1 ?_
  rw [rounds_succ]
  go_wp2
  go_ret
  exact ⟨rfl, Below.refl _ _⟩

theorem indexO (p : Option Addr) (k c : Nat) (V : Nat → Int) (v : Int) (w : World) (h : RowV w p k V) (hk : k ≤ 12) :
    Calls Try.prog 76 #[.slice p k c, .int .i64 v] w fun e w' => e = .returned (.int .i64 (ixV V v k)) ∧ Below w.heap.size w w' := by
  rcases h with rfl | ⟨b, o, rfl, hi⟩
  · exact indexZ p c v w
  · exact ixAt_any b o k c V v w hi (by omega)

set_option maxRecDepth 20000 in
set_option maxHeartbeats 800000 in
theorem meaningO_any (E : Nat) (p1 p2 : Option Addr) (k c1 c2 : Nat) (V : Nat → Int) (D : LsL) (v : Int) (w0 w : World) (hw : Below w0.heap.size w0 w) (he : Two w0 E (.slice p1 k c1) (.slice p2 k c2)) (h1 : RowV w0 p1 k V) (h2 : MatV w0 p2 k D) (hk : k ≤ 12) :
    Calls Try.prog 75 #[.int .i64 v, .pointer (some ⟨E, 0, none⟩)] w fun e w' => (∃ p c, e = .returned (.slice p (bdM k V D v).length c) ∧ ((bdM k V D v).length = 0 ∨ ∃ b off, p = some ⟨b, off, none⟩ ∧ Ints w0 b off (bdM k V D v).length (fun i => (bdM k V D v).getD i 0))) ∧ Below w.heap.size w w' := by
  have X := hidden (he.keep hw)
  have I1 := hidden (h1.keep hw)
  have I2 := hidden h2
  have HW := hidden hw
  clear he h1 h2 hw
  have x0 := X.out.c0
  go_enter Try.func75, Try.ntmps75
  go_wp2_with fail
  with_reducible refine (indexO _ _ _ V v _ I1.out hk).mono ?_
  rintro e w1 ⟨rfl, hb⟩
  have B := hidden hb
  replace X := hidden (X.out.keep hb)
  replace HW := hidden (keepB HW.out hb)
  clear hb x0 I1
  cases hd : bdI V v k with
  | none =>
    have HB := hidden (bdM_none (D := D) hd)
    rw [ixV_none hd]
    clear hd
    go_wp2
    go_ret
    exact ⟨⟨none, 0, by rw [HB.out]; rfl, Or.inl (by rw [HB.out]; rfl)⟩, B.out⟩
  | some i =>
    have HB := hidden (bdM_some (D := D) hd)
    have hi := (bdI_some k i hd).1
    rw [ixV_some hd]
    clear hd
    rcases I2.out with h0 | ⟨b2, o2, rfl, hm⟩
    · omega
    have x1 := X.out.c1
    obtain ⟨g, o, c, e0, i1, _⟩ := hm.row i hi
    have e1 : w1.cell? ⟨b2, o2 + i, none⟩ = some (.slice (some ⟨g, o, none⟩) (D.m i) c) := by rw [(bcell HW.out).1 _ _ (hm.blk (by omega))]; exact e0
    have J := hidden i1
    clear i1 e0 hm
    go_wp2
    go_ret
    exact ⟨⟨_, _, by rw [HB.out, upto_length]; rfl, by rw [HB.out]; exact J.out.mayL⟩, B.out⟩

theorem meaningO_mean (E : Nat) (p1 p2 : Option Addr) (k c1 c2 : Nat) (V : Nat → Int) (D : LsL) (w : World) (he : Two w E (.slice p1 k c1) (.slice p2 k c2)) (h1 : RowV w p1 k V) (h2 : MatV w p2 k D) (hk : k ≤ 12) : MeanO 75 #[.pointer (some ⟨E, 0, none⟩)] (bdN k V D) w :=
  ⟨enters_bn, fun v w1 _ hb => meaningO_any E p1 p2 k c1 c2 V D (v : Int) w w1 hb he h1 h2 hk⟩

set_option maxRecDepth 20000 in
set_option maxHeartbeats 400000 in
theorem meaningOfO_any (p1 p2 : Option Addr) (k c1 c2 : Nat) (V : Nat → Int) (D : LsL) (w : World) (h1 : RowV w p1 k V) (h2 : MatV w p2 k D) (hk : k ≤ 12) :
    Calls Try.prog 40 #[.agg #[.slice p1 k c1, .slice p2 k c2]] w fun e w' => ∃ E, e = .returned (.func (Fn.func 75) #[] #[.pointer (some ⟨E, 0, none⟩)]) ∧ MeanO 75 #[.pointer (some ⟨E, 0, none⟩)] (bdN k V D) w' ∧ Below w.heap.size w w' := by
  have X := hidden (Two.new w (.slice p1 k c1) (.slice p2 k c2) 29)
  have B := hidden (alloc_below w (.cells #[.slice p1 k c1, .slice p2 k c2] 29))
  have HM := hidden (meaningO_mean _ _ _ _ _ _ V D _ X.out (h1.keep B.out) (h2.keep B.out) hk)
  clear h1 h2
  go_enter Try.func40, Try.ntmps40
  go_wp2
  go_ret
  exact ⟨_, rfl, HM.out, B.out⟩

/-- The terms of the first binding, with what the second one binds. -/
def thnD (M2 : Nat → List Int) (D1 : LsL) : LsL := ⟨fun i => (putL M2 (D1.L i) (D1.m i)).length, fun i j => (putL M2 (D1.L i) (D1.m i)).getD j 0⟩

/-- Two bindings one behind the other. -/
def thnM (k1 : Nat) (V1 : Nat → Int) (D1 : LsL) (k2 : Nat) (V2 : Nat → Int) (D2 : LsL) : Nat → List Int := fun v =>
  match bdI V1 (v : Int) k1 with
  | some i => putL (bdN k2 V2 D2) (D1.L i) (D1.m i)
  | none => bdN k2 V2 D2 v

theorem upto_self (l : List Int) : upto (fun j => l.getD j 0) l.length = l := by
  apply List.ext_getElem?
  intro i
  by_cases hi : i < l.length
  · simp [upto, hi]
  · rw [List.getElem?_eq_none (by rw [upto_length]; omega), List.getElem?_eq_none (by omega)]

section
variable {k1 k2 : Nat} {V1 V2 : Nat → Int} {D1 D2 : LsL} {v : Nat}
theorem thn_some {i : Nat} (h : bdI V1 (v : Int) k1 = some i) : thnM k1 V1 D1 k2 V2 D2 v = bdN k1 V1 (thnD (bdN k2 V2 D2) D1) v := by
  unfold thnM
  rw [h]
  show _ = bdM k1 V1 (thnD (bdN k2 V2 D2) D1) (v : Int)
  rw [bdM_some h]
  exact (upto_self _).symm
theorem thn_none (h : bdI V1 (v : Int) k1 = none) : thnM k1 V1 D1 k2 V2 D2 v = bdN k2 V2 D2 v ∧ bdN k1 V1 (thnD (bdN k2 V2 D2) D1) v = [] := by
  unfold thnM
  rw [h]
  exact ⟨rfl, bdM_none h⟩
end

theorem bdI_iff {V : Nat → Int} {x : Int} {k : Nat} : (bdI V x k).isSome = true ↔ ∃ i, i < k ∧ V i = x := by
  constructor
  · intro h
    cases hb : bdI V x k with
    | none => rw [hb] at h; cases h
    | some i => exact ⟨i, bdI_some k i hb⟩
  · rintro ⟨i, hi, e⟩
    cases hb : bdI V x k with
    | some j => rfl
    | none =>
      exfalso
      have : ∀ k, bdI V x k = none → ∀ i, i < k → V i ≠ x := by
        intro k
        induction k with
        | zero => intro _ i hi; omega
        | succ k ih =>
          intro h1 i hi
          simp only [bdI] at h1
          cases hc : bdI V x k with
          | some z => rw [hc] at h1; simp at h1
          | none =>
            rw [hc] at h1
            by_cases ei : i = k
            · rw [ei]; intro e2; simp only at h1; rw [if_pos e2] at h1; cases h1
            · exact ih hc i (by omega)
      exact this k hb i hi e

/-- What the map tells behind all deletes. -/
structure MapIs (k1 : Nat) (V1 : Nat → Int) (k2 : Nat) (V2 : Nat → Int) (D : DataW Unit) : Prop where
  yes : ∀ x : Int, Maps.has D (keyV x) = true → bdI V1 x k1 = none ∧ ∃ i, i < k2 ∧ V2 i = x ∧ bdI V2 x k2 = some i ∧ D.atKey (keyV x) (.lit (.int .i64 0)) = .lit (.int .i64 (i : Int))
  no : ∀ x : Int, Maps.has D (keyV x) = false → (bdI V1 x k1).isSome = true ∨ bdI V2 x k2 = none

theorem map_is {k1 : Nat} {V1 : Nat → Int} {k2 : Nat} {V2 : Nat → Int} (hinj : ∀ a b, a < k2 → b < k2 → V2 a = V2 b → a = b) : MapIs k1 V1 k2 V2 (delV V1 (mapV V2 k2) k1) := by
  constructor
  · intro x h
    by_cases h1 : ∃ i, i < k1 ∧ V1 i = x
    · rw [delV_out V1 _ x k1 h1] at h; cases h
    · have h1' : ∀ i, i < k1 → V1 i ≠ x := fun i hi e => h1 ⟨i, hi, e⟩
      obtain ⟨d1, d2⟩ := delV_in V1 (mapV V2 k2) x (.lit (.int .i64 0)) k1 h1'
      rw [d1] at h
      obtain ⟨i, hi, rfl⟩ := (mapV_has V2 x k2).1 h
      refine ⟨bdI_none k1 h1', i, hi, rfl, ?_, ?_⟩
      · exact bdI_first (fun j hj e => by have := hinj j i (by omega) hi e; omega) rfl k2 hi
      · rw [d2]; exact mapV_at V2 _ k2 hinj hi
  · intro x h
    by_cases h1 : ∃ i, i < k1 ∧ V1 i = x
    · exact Or.inl (bdI_iff.2 h1)
    · right
      have h1' : ∀ i, i < k1 → V1 i ≠ x := fun i hi e => h1 ⟨i, hi, e⟩
      obtain ⟨d1, _⟩ := delV_in V1 (mapV V2 k2) x (.lit (.int .i64 0)) k1 h1'
      rw [d1] at h
      refine bdI_none k2 (fun i hi e => ?_)
      rw [(mapV_has V2 x k2).2 ⟨i, hi, e⟩] at h
      cases h

set_option maxRecDepth 20000 in
set_option maxHeartbeats 1600000 in
theorem behind1_any (X9 X3 X12 X E n : Nat) (p3 p4 : Option Addr) (k1 k2 c3 c4 : Nat) (V1 V2 : Nat → Int) (D1 D2 : LsL) (D : DataW Unit) (v : Nat) (w0 w : World) (hw : Below w0.heap.size w0 w) (hv : v < 12) (h9 : One w0 X9 (.map (some X))) (hX : w0.ownsMap Try.prog 2 (plainElem (H := Unit) Try.prog 3) X n D) (hD : MapIs k1 V1 k2 V2 D) (h3 : Two w0 X3 (.slice p3 k2 c3) (.slice p4 k2 c4)) (h4 : MatV w0 p4 k2 D2)
    (h12 : One w0 X12 (.func (Fn.func 75) #[] #[.pointer (some ⟨E, 0, none⟩)])) (hE : MeanO 75 #[.pointer (some ⟨E, 0, none⟩)] (bdN k1 V1 (thnD (bdN k2 V2 D2) D1)) w0) :
    Calls Try.prog 85 #[.int .i64 (v : Int), .pointer (some ⟨X9, 0, none⟩), .pointer (some ⟨X3, 0, none⟩), .pointer (some ⟨X12, 0, none⟩)] w fun e w' => (∃ p c, e = .returned (.slice p (thnM k1 V1 D1 k2 V2 D2 v).length c) ∧ ((thnM k1 V1 D1 k2 V2 D2 v).length = 0 ∨ ∃ b off, p = some ⟨b, off, none⟩ ∧ Ints w0 b off (thnM k1 V1 D1 k2 V2 D2 v).length (fun i => (thnM k1 V1 D1 k2 V2 D2 v).getD i 0))) ∧ Below w.heap.size w w' := by
  have z9 := (h9.keep hw).c0
  have HX := hidden (ownsMap_below hX hw)
  have H3 := hidden (h3.keep hw)
  have H4 := hidden h4
  have H12 := hidden (h12.keep hw)
  have HE := hidden hE
  have HD := hidden hD
  have HW := hidden hw
  have HKey := hidden (keyOfV (x := (v : Int)) ⟨by omega, by omega⟩)
  clear h9 hX h3 h4 h12 hE hD hw
  obtain ⟨hs, hhs⟩ : ∃ hs, hs = Maps.has D (keyV (v : Int)) := ⟨_, rfl⟩
  have HS := hidden hhs
  go_enter Try.func85, Try.ntmps85
  go_wp2_with (first | (at_lookup; refine wpList_lookup_own_ok_int _ rfl _ _ 118 rfl 2 3 .i64 lawV Try.underlying118 Try.underlying3 (zeroInt _) X n D rfl HX.out _ _ rfl HKey.out ?_) | go_in)
  intro cc hat hwc
  rw [← hhs]
  clear hhs z9
  cases hs with
  | true =>
    obtain ⟨hn, i, hi, hvi, hbi, hval⟩ := HD.out.yes (v : Int) HS.out.symm
    rw [hval] at hat
    obtain rfl : (i : Int) = cc := by simpa using hat
    rcases H4.out with h0 | ⟨b4, o4, rfl, hm⟩
    · omega
    have z1 := H3.out.c1
    obtain ⟨g, o, c, e0, i1, _⟩ := hm.row i hi
    have e1 : w.cell? ⟨b4, o4 + i, none⟩ = some (.slice (some ⟨g, o, none⟩) (D2.m i) c) := by rw [(bcell HW.out).1 _ _ (hm.blk (by omega))]; exact e0
    have J := hidden i1
    have HT := hidden (show thnM k1 V1 D1 k2 V2 D2 v = upto (D2.L i) (D2.m i) by rw [(thn_none hn).1]; exact bdM_some hbi)
    clear i1 e0 hm hat hwc hval hbi hvi hn HX HD
    go_wp2
    go_ret
    exact ⟨⟨_, _, by rw [HT.out, upto_length]; rfl, by rw [HT.out]; exact J.out.mayL⟩, Below.refl _ _⟩
  | false =>
    have HT := hidden (show thnM k1 V1 D1 k2 V2 D2 v = bdN k1 V1 (thnD (bdN k2 V2 D2) D1) v by
      rcases HD.out.no (v : Int) HS.out.symm with h1 | h2
      · cases hb : bdI V1 (v : Int) k1 with
        | none => rw [hb] at h1; cases h1
        | some i => exact thn_some hb
      · cases hb : bdI V1 (v : Int) k1 with
        | some i => exact thn_some hb
        | none => rw [(thn_none hb).1, (thn_none hb).2]; exact bdM_none h2)
    have z12 := H12.out.c0
    clear hat hwc HX HD
    go_wp2_with fail
    refine Calls.mono (show Calls Try.prog 75 #[.int .i64 (v : Int), .pointer (some ⟨E, 0, none⟩)] w _ from HE.out.call v _ hv HW.out) ?_
    rintro e w1 ⟨⟨p, c, rfl, hp⟩, hb⟩
    have HB := hidden hb
    have HP := hidden hp
    clear hb hp z12
    generalize hl : (bdN k1 V1 (thnD (bdN k2 V2 D2) D1) v).length = l
    have HL := hidden hl
    clear hl
    go_wp2
    go_ret
    exact ⟨⟨p, c, by rw [HT.out, HL.out]; rfl, by rw [HT.out]; exact HP.out⟩, HB.out⟩

set_option maxRecDepth 20000 in
theorem enters_bh : Enters 85 := fun _ _ => rfl

end Go.Proofs.Ytenlogljpgdbpaa

/- Contracts: MatchTerm, as the model and as the program does it: a binding as an answer. -/
namespace Go.Proofs.Ytenlogljpgdbpaa
open Go.RowKit

/-- Three cells that may be written. -/
structure Bn3 (w : World) (b : Nat) (x y z : Value) : Prop where
  blk : b < w.heap.size
  c0 : w.cell? ⟨b, 0, none⟩ = some x
  c1 : w.cell? ⟨b, 1, none⟩ = some y
  c2 : w.cell? ⟨b, 2, none⟩ = some z
  f0 : w.frozen? ⟨b, 0, none⟩ = false
  f1 : w.frozen? ⟨b, 1, none⟩ = false
  f2 : w.frozen? ⟨b, 2, none⟩ = false

theorem Bn3.new (w : World) (x y z : Value) (t : TypeId) : Bn3 (w.alloc (.cells #[x, y, z] t)) w.heap.size x y z := by
  refine ⟨by simp, ?_, ?_, ?_, ?_, ?_, ?_⟩ <;> simp [go_sem]

theorem Bn3.keep {w w' : World} {b : Nat} {x y z : Value} (h : Bn3 w b x y z) (hb : Below w.heap.size w w') : Bn3 w' b x y z :=
  ⟨Nat.lt_of_lt_of_le h.blk hb.size, by rw [(bcell hb).1 _ _ h.blk]; exact h.c0, by rw [(bcell hb).1 _ _ h.blk]; exact h.c1, by rw [(bcell hb).1 _ _ h.blk]; exact h.c2, by rw [(bcell hb).2 _ _ h.blk]; exact h.f0, by rw [(bcell hb).2 _ _ h.blk]; exact h.f1, by rw [(bcell hb).2 _ _ h.blk]; exact h.f2⟩

/-- A code and a binding as an answer: none, or one in memory of its own. -/
def BnAns (w : World) (C : Int) (M : Nat → List Int) (e : Ending) (w' : World) : Prop :=
  ((C ≠ 0 ∨ cR M = 0) ∧ e = .returned (.agg #[.int .i64 C, .slice none 0 0, .slice none 0 0])) ∨
  (C = 0 ∧ 0 < cR M ∧ ∃ lo g1 d1 g2 d2, e = .returned (.agg #[.int .i64 0, .slice (some ⟨g1, 0, none⟩) (cR M) d1, .slice (some ⟨g2, 0, none⟩) (cR M) d2]) ∧ w.heap.size ≤ lo ∧ OwnBx w' lo w'.heap.size g1 (cR M) d1 (cV M) g2 (cR M) d2 (cnD M 12))

/-- MatchTerm's code, and what is bound. -/
noncomputable def mtC (n : Nat) (N : Nat → ByteArray) (A : Nat → Int) (m1 : Nat) (L1 : Nat → Int) (m2 : Nat) (L2 : Nat → Int) : Int :=
  if sdF n N A m1 L1 m2 L2 = 0 then (if (mtB A L2 L1 m2 m1 0).isNone = true then 4 else 0) else sdF n N A m1 L1 m2 L2
def mtM (A : Nat → Int) (m1 : Nat) (L1 : Nat → Int) (m2 : Nat) (L2 : Nat → Int) : Nat → List Int := (mtB A L2 L1 m2 m1 0).getD (fun _ => [])

section
variable {n : Nat} {N : Nat → ByteArray} {A : Nat → Int} {m1 : Nat} {L1 : Nat → Int} {m2 : Nat} {L2 : Nat → Int}
theorem mtC_bad (h : sdF n N A m1 L1 m2 L2 ≠ 0) : mtC n N A m1 L1 m2 L2 = sdF n N A m1 L1 m2 L2 := by rw [mtC, if_neg h]
theorem mtC_none (h : sdF n N A m1 L1 m2 L2 = 0) (hn : mtB A L2 L1 m2 m1 0 = none) : mtC n N A m1 L1 m2 L2 = 4 := by rw [mtC, if_pos h, hn]; rfl
theorem mtC_some (h : sdF n N A m1 L1 m2 L2 = 0) {M : Nat → List Int} (hn : mtB A L2 L1 m2 m1 0 = some M) : mtC n N A m1 L1 m2 L2 = 0 ∧ mtM A m1 L1 m2 L2 = M := by
  constructor
  · rw [mtC, if_pos h, hn]; rfl
  · rw [mtM, hn]; rfl

theorem mtB_len {M : Nat → List Int} (hp : Trm n A m1 L1) (hg : Trm n A m2 L2) (h : mtB A L2 L1 m2 m1 0 = some M) : ∀ v, (M v).length ≤ 24 := by
  unfold mtB at h
  cases hs : mtS (aOf A L2) m2 L2 L1 0 m1 with
  | none => rw [hs] at h; cases h
  | some s =>
    rw [hs] at h
    simp only [Option.map_some, Option.some.injEq] at h
    subst h
    exact fun v => (mt_inv hp hg.whole m1 s.1 s.2 (Nat.le_refl _) hs).len hg.nods.most (Nat.le_refl _) v
end

set_option maxRecDepth 20000 in
set_option maxHeartbeats 6400000 in
theorem specMatch_any (b off n c b1 o1 m1 c1 b2 o2 m2 c2 : Nat) (N : Nat → ByteArray) (A L1 L2 : Nat → Int) (w : World) (h : Syms w b off n N A) (h1 : Ints w b1 o1 m1 L1) (h2 : Ints w b2 o2 m2 L2) (hk : Kept n N A) (hm1 : m1 ≤ 1048576) (hm2 : m2 ≤ 1048576) (hc : m2 ≤ c2) :
    Calls Try.prog 7 #[.agg #[.slice (some ⟨b, off, none⟩) n c], .slice (some ⟨b1, o1, none⟩) m1 c1, .slice (some ⟨b2, o2, none⟩) m2 c2] w fun e w' => BnAns w (mtC n N A m1 L1 m2 L2) (mtM A m1 L1 m2 L2) e w' ∧ Below w.heap.size w w' := by
  have X := hidden ((One.new w (.slice (some ⟨b, off, none⟩) n c) 35).keep (alloc_below _ (.cells #[.int .i64 0, .slice none 0 0, .slice none 0 0] 31)))
  have R := hidden (show Bn3 ((w.alloc (.cells #[.slice (some ⟨b, off, none⟩) n c] 35)).alloc (.cells #[.int .i64 0, .slice none 0 0, .slice none 0 0] 31)) (w.heap.size + 1) (.int .i64 0) (.slice none 0 0) (.slice none 0 0) by
    have := Bn3.new (w.alloc (.cells #[.slice (some ⟨b, off, none⟩) n c] 35)) (.int .i64 0) (.slice none 0 0) (.slice none 0 0) 31
    rwa [World.size_alloc] at this)
  have B := hidden (keepB (alloc_below w (.cells #[.slice (some ⟨b, off, none⟩) n c] 35)) (alloc_below _ (.cells #[.int .i64 0, .slice none 0 0, .slice none 0 0] 31)))
  have Q := hidden (h.keep B.out)
  have J1 := hidden (h1.keep B.out)
  have J2 := hidden (h2.keep B.out)
  have HK := hidden hk
  clear h h1 h2 hk
  go_enter Try.func7, Try.ntmps7
  go_wp2_with fail
  with_reducible refine (specTerm_any _ _ _ _ _ _ _ _ N A L1 _ Q.out J1.out HK.out hm1).mono ?_
  rintro e w1 ⟨rfl, hb⟩
  replace X := hidden (X.out.keep hb)
  replace R := hidden (R.out.keep hb)
  replace Q := hidden (Q.out.keep hb)
  replace J1 := hidden (J1.out.keep hb)
  replace J2 := hidden (J2.out.keep hb)
  replace B := hidden (keepB B.out hb)
  clear hb
  by_cases hz : termF n N A m1 L1 = 0
  · have HZ := hidden hz
    have hf0 : faultF n N A = 0 := by
      by_cases hf : faultF n N A = 0
      · exact hf
      · rw [term_fault hf] at hz; exact absurd hz hf
    have SD := hidden (show sdF n N A m1 L1 m2 L2 = lF n A m2 L2 by rw [sdF_right hz, term_l hf0])
    have SO := hidden (fault_sound hf0)
    rw [hz]
    clear hz hf0
    go_wp2_with fail
    with_reducible refine (l3Fault_all _ _ _ _ _ _ _ _ _ N A L2 _ X.out Q.out J2.out SO.out hm2).mono ?_
    rintro e w2 ⟨rfl, hb⟩
    replace X := hidden (X.out.keep hb)
    replace R := hidden (R.out.keep hb)
    replace Q := hidden (Q.out.keep hb)
    replace J1 := hidden (J1.out.keep hb)
    replace J2 := hidden (J2.out.keep hb)
    replace B := hidden (keepB B.out hb)
    clear hb
    by_cases hz2 : lF n A m2 L2 = 0
    · have HS0 := hidden (SD.out.trans hz2)
      have HP := hidden (term_right HZ.out)
      have HG := hidden (lF_right SO.out hz2)
      rw [hz2]
      clear hz2
      have S0 := l6Match_any w.heap.size b off n c b1 o1 m1 c1 b2 o2 m2 c2 0 m2 N A L1 L2 w2 X.out Q.out J1.out J2.out HG.out HP.out HG.out.whole hc
      rw [show ((0 : Nat) : Int) = 0 from rfl] at S0
      have S := hidden S0
      clear S0
      go_wp2_with fail
      with_reducible refine S.out.mono ?_
      rintro e w3 ⟨ha, hb⟩
      have HW2 := hidden B.out.size
      have HW3 := hidden hb.size
      have RB := hidden R.out.blk
      replace X := hidden (X.out.keep hb)
      replace R := hidden (R.out.keep hb)
      replace Q := hidden (Q.out.keep hb)
      replace J1 := hidden (J1.out.keep hb)
      replace J2 := hidden (J2.out.keep hb)
      replace B := hidden (keepB B.out hb)
      clear hb
      rcases ha with ⟨hn, rfl⟩ | ⟨M, hn, hi, va, ta, rfl, hbd⟩
      · have HA := hidden (mtC_none HS0.out hn)
        clear hn
        replace X := hidden (X.out.keep (alloc_below _ (.cells #[.slice none 0 0, .slice none 0 0] 29)))
        replace R := hidden (R.out.keep (alloc_below _ (.cells #[.slice none 0 0, .slice none 0 0] 29)))
        replace B := hidden (keepB B.out (alloc_below _ (.cells #[.slice none 0 0, .slice none 0 0] 29)))
        obtain ⟨_, q0, q1, q2, f0, f1, f2⟩ := id R.out
        go_wp2
        exact bodyPost_ret (v := .agg #[.int .i64 4, .slice none 0 0, .slice none 0 0]) (by simp [results, Try.results7, go_sem, q0, q1, q2]) rfl ⟨Or.inl ⟨by rw [HA.out]; exact Or.inl (by decide), by rw [HA.out]⟩, ((B.out.setCell (by simp) _).setCell (by simp) _).setCell (by simp) _⟩
      · have HC := hidden (mtC_some HS0.out hn).1
        have HM := hidden (mtC_some HS0.out hn).2
        clear hn hi
        rcases hbd with ⟨h0, rfl, rfl⟩ | ⟨hpos, Bb, Xb, hlo, hs⟩
        · have H0 := hidden h0
          clear h0
          have T9 := hidden (Two.new w3 (.slice none 0 0) (.slice none 0 0) 29)
          replace X := hidden (X.out.keep (alloc_below _ (.cells #[.slice none 0 0, .slice none 0 0] 29)))
          replace R := hidden (R.out.keep (alloc_below _ (.cells #[.slice none 0 0, .slice none 0 0] 29)))
          replace B := hidden (keepB B.out (alloc_below _ (.cells #[.slice none 0 0, .slice none 0 0] 29)))
          have t0 := T9.out.c0
          have t1 := T9.out.c1
          obtain ⟨_, q0, q1, q2, f0, f1, f2⟩ := id R.out
          go_wp2
          exact bodyPost_ret (v := .agg #[.int .i64 0, .slice none 0 0, .slice none 0 0]) (by simp [results, Try.results7, go_sem, q0, q1, q2]) rfl ⟨Or.inl ⟨by rw [HM.out]; exact Or.inr H0.out, by rw [HC.out]⟩, ((B.out.setCell (by simp) _).setCell (by simp) _).setCell (by simp) _⟩
        · have HL := hidden (show w.heap.size + 1 < Xb ∧ 0 < cR M from ⟨by have := RB.out; have := HW2.out; omega, hpos⟩)
          obtain ⟨g1, d1, g2, d2, rfl, rfl, -⟩ := hs.done hpos
          have BS := hidden (hs.keep (alloc_below w3 (.cells #[.slice (some ⟨g1, 0, none⟩) (cnL M 12).length d1, .slice (some ⟨g2, 0, none⟩) (cnL M 12).length d2] 29)))
          clear hs hlo hpos
          generalize hq : (cnL M 12).length = q at BS ⊢
          have HQ := hidden hq
          clear hq
          have T9 := hidden (Two.new w3 (.slice (some ⟨g1, 0, none⟩) q d1) (.slice (some ⟨g2, 0, none⟩) q d2) 29)
          replace X := hidden (X.out.keep (alloc_below _ (.cells #[.slice (some ⟨g1, 0, none⟩) q d1, .slice (some ⟨g2, 0, none⟩) q d2] 29)))
          replace R := hidden (R.out.keep (alloc_below _ (.cells #[.slice (some ⟨g1, 0, none⟩) q d1, .slice (some ⟨g2, 0, none⟩) q d2] 29)))
          replace B := hidden (keepB B.out (alloc_below _ (.cells #[.slice (some ⟨g1, 0, none⟩) q d1, .slice (some ⟨g2, 0, none⟩) q d2] 29)))
          have t0 := T9.out.c0
          have t1 := T9.out.c1
          obtain ⟨_, q0, q1, q2, f0, f1, f2⟩ := id R.out
          go_wp2
          have hlow := BS.out.low
          have hlo := HL.out.1
          have BF := ((BS.out.farY ⟨w.heap.size + 1, 0, none⟩ (.int .i64 0) (by show w.heap.size + 1 < _; omega) (by show Xb ≠ w.heap.size + 1; omega)).farY ⟨w.heap.size + 1, 1, none⟩ (.slice (some ⟨g1, 0, none⟩) q d1) (by show w.heap.size + 1 < _; omega) (by show Xb ≠ w.heap.size + 1; omega)).farY ⟨w.heap.size + 1, 2, none⟩ (.slice (some ⟨g2, 0, none⟩) q d2) (by show w.heap.size + 1 < _; omega) (by show Xb ≠ w.heap.size + 1; omega)
          obtain ⟨g3, d3, g4, d4, e1, e2, ho⟩ := BF.done HL.out.2
          rw [HQ.out] at e1 e2
          refine bodyPost_ret (v := .agg #[.int .i64 0, .slice (some ⟨g1, 0, none⟩) q d1, .slice (some ⟨g2, 0, none⟩) q d2]) (by simp [results, Try.results7, go_sem, q0, q1, q2]) rfl ⟨Or.inr ⟨HC.out, by rw [HM.out]; exact HL.out.2, Bb, g3, d3, g4, d4, ?_, by omega, by rw [HM.out]; exact ho⟩, ((B.out.setCell (by simp) _).setCell (by simp) _).setCell (by simp) _⟩
          rw [HM.out, show cR M = q from HQ.out, e1, e2]
    · have HA := hidden (mtC_bad (show sdF n N A m1 L1 m2 L2 ≠ 0 by rw [SD.out]; exact hz2))
      rw [SD.out] at HA
      have HN := hidden hz2
      have hz' : (lF n A m2 L2 != 0) = true := by simpa using hz2
      generalize lF n A m2 L2 = z at *
      clear hz2
      obtain ⟨_, q0, q1, q2, f0, f1, f2⟩ := id R.out
      go_wp2
      exact bodyPost_ret (v := .agg #[.int .i64 z, .slice none 0 0, .slice none 0 0]) (by simp [results, Try.results7, go_sem, q0, q1, q2]) rfl ⟨Or.inl ⟨by rw [HA.out]; exact Or.inl HN.out, by rw [HA.out]⟩, ((B.out.setCell (by simp) _).setCell (by simp) _).setCell (by simp) _⟩
  · have HA := hidden (mtC_bad (n := n) (N := N) (A := A) (m1 := m1) (L1 := L1) (m2 := m2) (L2 := L2) (by rw [sdF_left hz]; exact hz))
    rw [sdF_left hz] at HA
    have HN := hidden hz
    have hz' : (termF n N A m1 L1 != 0) = true := by simpa using hz
    generalize termF n N A m1 L1 = z at *
    clear hz
    obtain ⟨_, q0, q1, q2, f0, f1, f2⟩ := id R.out
    go_wp2
    exact bodyPost_ret (v := .agg #[.int .i64 z, .slice none 0 0, .slice none 0 0]) (by simp [results, Try.results7, go_sem, q0, q1, q2]) rfl ⟨Or.inl ⟨by rw [HA.out]; exact Or.inl HN.out, by rw [HA.out]⟩, ((B.out.setCell (by simp) _).setCell (by simp) _).setCell (by simp) _⟩

/-- Twelve values by their numbers. -/
def twelveM (x0 x1 x2 x3 x4 x5 x6 x7 x8 x9 x10 x11 : Value) : Nat → Value := fun i => match i with | 0 => x0 | 1 => x1 | 2 => x2 | 3 => x3 | 4 => x4 | 5 => x5 | 6 => x6 | 7 => x7 | 8 => x8 | 9 => x9 | 10 => x10 | _ => x11

theorem twelveM_eq {V : Nat → Value} {x0 x1 x2 x3 x4 x5 x6 x7 x8 x9 x10 x11 : Value} (h : V 0 = x0 ∧ V 1 = x1 ∧ V 2 = x2 ∧ V 3 = x3 ∧ V 4 = x4 ∧ V 5 = x5 ∧ V 6 = x6 ∧ V 7 = x7 ∧ V 8 = x8 ∧ V 9 = x9 ∧ V 10 = x10 ∧ V 11 = x11) : ∀ v, v < 12 → twelveM x0 x1 x2 x3 x4 x5 x6 x7 x8 x9 x10 x11 v = V v := by
  obtain ⟨h0, h1, h2, h3, h4, h5, h6, h7, h8, h9, h10, h11⟩ := h
  intro v hv
  match v, hv with
  | 0, _ => exact h0.symm
  | 1, _ => exact h1.symm
  | 2, _ => exact h2.symm
  | 3, _ => exact h3.symm
  | 4, _ => exact h4.symm
  | 5, _ => exact h5.symm
  | 6, _ => exact h6.symm
  | 7, _ => exact h7.symm
  | 8, _ => exact h8.symm
  | 9, _ => exact h9.symm
  | 10, _ => exact h10.symm
  | 11, _ => exact h11.symm
  | j + 12, hj => omega

theorem Pts.congrM {w : World} {X : Nat} {V V' : Nat → Value} (h : Pts w X V) (he : ∀ v, v < 12 → V v = V' v) : Pts w X V' :=
  ⟨h.blk, fun v hv => by rw [← he v hv]; exact h.cell v hv, h.frz⟩

set_option maxRecDepth 20000 in
theorem enters_mt : Enters 34 := fun _ _ => rfl

set_option maxRecDepth 20000 in
set_option maxHeartbeats 400000 in
theorem match1_any (X b' : Nat) (M : Nat → List Int) (V : Nat → Value) (v : Nat) (w : World) (h : Pts w X V) (hp : PtV w b' M V) (hv : v < 12) :
    Calls Try.prog 34 #[.int .i64 (v : Int), .pointer (some ⟨X, 0, none⟩)] w fun e w' => (∃ p c, e = .returned (.slice p (M v).length c) ∧ ((M v).length = 0 ∨ ∃ off, p = some ⟨b', off, none⟩ ∧ Ints w b' off (M v).length (fun i => (M v).getD i 0))) ∧ Below w.heap.size w w' := by
  obtain ⟨p, c, e, hq⟩ := hp v hv
  have c0 := h.cell v hv
  rw [e] at c0
  have HQ := hidden hq
  obtain ⟨l, hl⟩ : ∃ l, l = (M v).length := ⟨_, rfl⟩
  have HL := hidden hl
  rw [← hl] at c0
  clear h hp e hq hl
  go_enter Try.func34, Try.ntmps34
  go_wp2
  go_ret
  refine ⟨⟨p, c, by rw [← HL.out]; rfl, ?_⟩, Below.refl _ _⟩
  rcases HQ.out with h0 | ⟨o, rfl, hi⟩
  · exact Or.inl (by rw [h0]; rfl)
  · exact Or.inr ⟨o, rfl, hi⟩

theorem Ints.backM {w w' : World} {b off n : Nat} {L : Nat → Int} (h : Ints w' b off n L) (hb : Below w.heap.size w w') (hl : b < w.heap.size) : Ints w b off n L :=
  ⟨fun _ => hl, fun i hi => by rw [← (bcell hb).1 _ _ hl]; exact h.cell i hi⟩

theorem match1_mean (X b' : Nat) (M : Nat → List Int) (V : Nat → Value) (w : World) (h : Pts w X V) (hp : PtV w b' M V) (hl : b' < w.heap.size) : MeanO 34 #[.pointer (some ⟨X, 0, none⟩)] M w := by
  refine ⟨enters_mt, fun v w1 hv hb => ?_⟩
  refine (match1_any X b' M V v w1 (h.keep hb) (hp.keep hb) hv).mono ?_
  rintro e w2 ⟨⟨p, c, rfl, hq⟩, hb2⟩
  refine ⟨⟨p, c, rfl, ?_⟩, hb2⟩
  rcases hq with h0 | ⟨off, rfl, hi⟩
  · exact Or.inl h0
  · exact Or.inr ⟨b', off, rfl, hi.backM hb hl⟩

set_option maxRecDepth 20000 in
set_option maxHeartbeats 12800000 in
theorem implMatch_any (b off n c b1 o1 m1 c1 b2 o2 m2 c2 : Nat) (N : Nat → ByteArray) (A L1 L2 : Nat → Int) (w : World) (h : Syms w b off n N A) (h1 : Ints w b1 o1 m1 L1) (h2 : Ints w b2 o2 m2 L2) (hk : Kept n N A) (hm1 : m1 ≤ 1048576) (hm2 : m2 ≤ 1048576) (hc : m2 ≤ c2) :
    Calls Try.prog 10 #[.agg #[.slice (some ⟨b, off, none⟩) n c], .slice (some ⟨b1, o1, none⟩) m1 c1, .slice (some ⟨b2, o2, none⟩) m2 c2] w fun e w' => BnAns w (mtC n N A m1 L1 m2 L2) (mtM A m1 L1 m2 L2) e w' ∧ Below w.heap.size w w' := by
  have hb2w := h2.blk
  have X := hidden ((One.new w (.slice (some ⟨b, off, none⟩) n c) 35).keep (alloc_below _ (.cells #[.int .i64 0, .slice none 0 0, .slice none 0 0] 31)))
  have R := hidden (show Bn3 ((w.alloc (.cells #[.slice (some ⟨b, off, none⟩) n c] 35)).alloc (.cells #[.int .i64 0, .slice none 0 0, .slice none 0 0] 31)) (w.heap.size + 1) (.int .i64 0) (.slice none 0 0) (.slice none 0 0) by
    have := Bn3.new (w.alloc (.cells #[.slice (some ⟨b, off, none⟩) n c] 35)) (.int .i64 0) (.slice none 0 0) (.slice none 0 0) 31
    rwa [World.size_alloc] at this)
  have B := hidden (keepB (alloc_below w (.cells #[.slice (some ⟨b, off, none⟩) n c] 35)) (alloc_below _ (.cells #[.int .i64 0, .slice none 0 0, .slice none 0 0] 31)))
  have Q := hidden (h.keep B.out)
  have J1 := hidden (h1.keep B.out)
  have J2 := hidden (h2.keep B.out)
  have HK := hidden hk
  clear h h1 h2 hk
  go_enter Try.func10, Try.ntmps10
  go_wp2_with fail
  with_reducible refine (sides_any _ _ _ _ _ _ _ _ _ _ _ _ N A L1 L2 _ Q.out J1.out J2.out HK.out hm1 hm2).mono ?_
  rintro e w1 ⟨rfl, hb⟩
  replace X := hidden (X.out.keep hb)
  replace R := hidden (R.out.keep hb)
  replace Q := hidden (Q.out.keep hb)
  replace J1 := hidden (J1.out.keep hb)
  replace J2 := hidden (J2.out.keep hb)
  replace B := hidden (keepB B.out hb)
  clear hb
  by_cases hz : sdF n N A m1 L1 m2 L2 = 0
  · have HZ := hidden hz
    have HP := hidden (term_right (sdF_both hz).1)
    have HG := hidden (term_right (sdF_both hz).2)
    have S := hidden (matchedParts_any b off n c b1 o1 m1 c1 b2 o2 m2 c2 0 m2 N A L1 L2 w1 Q.out J1.out J2.out HG.out HP.out HG.out.whole (by omega))
    rw [Nat.add_zero, Nat.sub_zero] at S
    rw [hz]
    clear hz
    have x0 := X.out.c0
    go_wp2_with fail
    with_reducible refine S.out.mono ?_
    rintro e w2 ⟨ha, hb⟩
    clear S x0
    replace X := hidden (X.out.keep hb)
    replace R := hidden (R.out.keep hb)
    replace Q := hidden (Q.out.keep hb)
    replace J1 := hidden (J1.out.keep hb)
    replace J2 := hidden (J2.out.keep hb)
    replace B := hidden (keepB B.out hb)
    clear hb
    rcases ha with ⟨hn, V, rfl, hsl⟩ | ⟨M, hn, V, rfl, hpt⟩
    · have HA := hidden (mtC_none HZ.out hn)
      clear hn
      unfold arr12
      obtain ⟨vp0, vl0, vc0, ve0⟩ := hsl 0 (by omega)
      obtain ⟨vp1, vl1, vc1, ve1⟩ := hsl 1 (by omega)
      obtain ⟨vp2, vl2, vc2, ve2⟩ := hsl 2 (by omega)
      obtain ⟨vp3, vl3, vc3, ve3⟩ := hsl 3 (by omega)
      obtain ⟨vp4, vl4, vc4, ve4⟩ := hsl 4 (by omega)
      obtain ⟨vp5, vl5, vc5, ve5⟩ := hsl 5 (by omega)
      obtain ⟨vp6, vl6, vc6, ve6⟩ := hsl 6 (by omega)
      obtain ⟨vp7, vl7, vc7, ve7⟩ := hsl 7 (by omega)
      obtain ⟨vp8, vl8, vc8, ve8⟩ := hsl 8 (by omega)
      obtain ⟨vp9, vl9, vc9, ve9⟩ := hsl 9 (by omega)
      obtain ⟨vp10, vl10, vc10, ve10⟩ := hsl 10 (by omega)
      obtain ⟨vp11, vl11, vc11, ve11⟩ := hsl 11 (by omega)
      rw [ve0, ve1, ve2, ve3, ve4, ve5, ve6, ve7, ve8, ve9, ve10, ve11]
      clear ve0 ve1 ve2 ve3 ve4 ve5 ve6 ve7 ve8 ve9 ve10 ve11 hsl
      have hab := alloc_below w2 (.cells #[.slice vp0 vl0 vc0, .slice vp1 vl1 vc1, .slice vp2 vl2 vc2, .slice vp3 vl3 vc3, .slice vp4 vl4 vc4, .slice vp5 vl5 vc5, .slice vp6 vl6 vc6, .slice vp7 vl7 vc7, .slice vp8 vl8 vc8, .slice vp9 vl9 vc9, .slice vp10 vl10 vc10, .slice vp11 vl11 vc11] 62)
      replace R := hidden (R.out.keep hab)
      replace B := hidden (keepB B.out hab)
      clear hab
      obtain ⟨_, q0, q1, q2, f0, f1, f2⟩ := id R.out
      go_wp2
      exact bodyPost_ret (v := .agg #[.int .i64 4, .slice none 0 0, .slice none 0 0]) (by simp [results, Try.results10, go_sem, q0, q1, q2]) rfl ⟨Or.inl ⟨by rw [HA.out]; exact Or.inl (by decide), by rw [HA.out]⟩, ((B.out.setCell (by simp) _).setCell (by simp) _).setCell (by simp) _⟩
    · have HC := hidden (mtC_some HZ.out hn).1
      have HM := hidden (mtC_some HZ.out hn).2
      have HL := hidden (mtB_len HP.out HG.out hn)
      have hsl : SlV V := fun v hv => sliceV hpt hv
      have HPT := hidden hpt
      have hlt2 : b2 < w2.heap.size := J2.out.blk HG.out.pos
      clear hn
      unfold arr12
      obtain ⟨vp0, vl0, vc0, ve0⟩ := hsl 0 (by omega)
      obtain ⟨vp1, vl1, vc1, ve1⟩ := hsl 1 (by omega)
      obtain ⟨vp2, vl2, vc2, ve2⟩ := hsl 2 (by omega)
      obtain ⟨vp3, vl3, vc3, ve3⟩ := hsl 3 (by omega)
      obtain ⟨vp4, vl4, vc4, ve4⟩ := hsl 4 (by omega)
      obtain ⟨vp5, vl5, vc5, ve5⟩ := hsl 5 (by omega)
      obtain ⟨vp6, vl6, vc6, ve6⟩ := hsl 6 (by omega)
      obtain ⟨vp7, vl7, vc7, ve7⟩ := hsl 7 (by omega)
      obtain ⟨vp8, vl8, vc8, ve8⟩ := hsl 8 (by omega)
      obtain ⟨vp9, vl9, vc9, ve9⟩ := hsl 9 (by omega)
      obtain ⟨vp10, vl10, vc10, ve10⟩ := hsl 10 (by omega)
      obtain ⟨vp11, vl11, vc11, ve11⟩ := hsl 11 (by omega)
      rw [ve0, ve1, ve2, ve3, ve4, ve5, ve6, ve7, ve8, ve9, ve10, ve11]
      have hab := alloc_below w2 (.cells #[.slice vp0 vl0 vc0, .slice vp1 vl1 vc1, .slice vp2 vl2 vc2, .slice vp3 vl3 vc3, .slice vp4 vl4 vc4, .slice vp5 vl5 vc5, .slice vp6 vl6 vc6, .slice vp7 vl7 vc7, .slice vp8 vl8 vc8, .slice vp9 vl9 vc9, .slice vp10 vl10 vc10, .slice vp11 vl11 vc11] 62)
      have PX := hidden ((Pts.new w2 (twelveM (.slice vp0 vl0 vc0) (.slice vp1 vl1 vc1) (.slice vp2 vl2 vc2) (.slice vp3 vl3 vc3) (.slice vp4 vl4 vc4) (.slice vp5 vl5 vc5) (.slice vp6 vl6 vc6) (.slice vp7 vl7 vc7) (.slice vp8 vl8 vc8) (.slice vp9 vl9 vc9) (.slice vp10 vl10 vc10) (.slice vp11 vl11 vc11)) 62).congrM (twelveM_eq (V := V) ⟨ve0, ve1, ve2, ve3, ve4, ve5, ve6, ve7, ve8, ve9, ve10, ve11⟩))
      clear ve0 ve1 ve2 ve3 ve4 ve5 ve6 ve7 ve8 ve9 ve10 ve11 hsl hpt
      have ME := hidden (match1_mean w2.heap.size b2 M V (w2.alloc (.cells #[.slice vp0 vl0 vc0, .slice vp1 vl1 vc1, .slice vp2 vl2 vc2, .slice vp3 vl3 vc3, .slice vp4 vl4 vc4, .slice vp5 vl5 vc5, .slice vp6 vl6 vc6, .slice vp7 vl7 vc7, .slice vp8 vl8 vc8, .slice vp9 vl9 vc9, .slice vp10 vl10 vc10, .slice vp11 vl11 vc11] 62)) PX.out (HPT.out.keep hab) (by simp; omega))
      replace R := hidden (R.out.keep hab)
      replace B := hidden (keepB B.out hab)
      clear hab PX HPT
      go_wp2_with fail
      with_reducible refine (bindingBy_walk _ _ M _ ME.out HL.out).mono ?_
      rintro e w3 ⟨va, ta, rfl, ⟨Bb, Xb, hlo, hs, hnil⟩, hb⟩
      have hR := R.out.blk
      replace hlo : w.heap.size + 1 < Xb := Nat.lt_of_lt_of_le hR hlo
      replace R := hidden (R.out.keep hb)
      replace B := hidden (keepB B.out hb)
      have HS := hidden hs
      have HN := hidden hnil
      clear hb ME hR hs hnil
      by_cases h0 : cR M = 0
      · obtain ⟨rfl, rfl⟩ := HN.out h0
        have H0 := hidden h0
        clear h0
        obtain ⟨_, q0, q1, q2, f0, f1, f2⟩ := id R.out
        go_wp2
        exact bodyPost_ret (v := .agg #[.int .i64 0, .slice none 0 0, .slice none 0 0]) (by simp [results, Try.results10, go_sem, q0, q1, q2]) rfl ⟨Or.inl ⟨by rw [HM.out]; exact Or.inr H0.out, by rw [HC.out]⟩, ((B.out.setCell (by simp) _).setCell (by simp) _).setCell (by simp) _⟩
      · have hpos : 0 < cR M := by omega
        have hs := HS.out
        have BS := hidden hs
        have HL := hidden (And.intro hlo hpos)
        obtain ⟨g1, d1, g2, d2, rfl, rfl, -⟩ := hs.done hpos
        clear hs hlo h0 hpos
        obtain ⟨_, q0, q1, q2, f0, f1, f2⟩ := id R.out
        generalize hq : (cnL M 12).length = q at BS ⊢
        have HQ := hidden hq
        clear hq
        go_wp2
        have hlow := BS.out.low
        have hlo := HL.out.1
        have BF := ((BS.out.farY ⟨w.heap.size + 1, 0, none⟩ (.int .i64 0) (by show w.heap.size + 1 < _; omega) (by show Xb ≠ w.heap.size + 1; omega)).farY ⟨w.heap.size + 1, 1, none⟩ (.slice (some ⟨g1, 0, none⟩) q d1) (by show w.heap.size + 1 < _; omega) (by show Xb ≠ w.heap.size + 1; omega)).farY ⟨w.heap.size + 1, 2, none⟩ (.slice (some ⟨g2, 0, none⟩) q d2) (by show w.heap.size + 1 < _; omega) (by show Xb ≠ w.heap.size + 1; omega)
        obtain ⟨g3, d3, g4, d4, e1, e2, ho⟩ := BF.done HL.out.2
        rw [HQ.out] at e1 e2
        refine bodyPost_ret (v := .agg #[.int .i64 0, .slice (some ⟨g1, 0, none⟩) q d1, .slice (some ⟨g2, 0, none⟩) q d2]) (by simp [results, Try.results10, go_sem, q0, q1, q2]) rfl ⟨Or.inr ⟨HC.out, by rw [HM.out]; exact HL.out.2, Bb, g3, d3, g4, d4, ?_, by omega, by rw [HM.out]; exact ho⟩, ((B.out.setCell (by simp) _).setCell (by simp) _).setCell (by simp) _⟩
        rw [HM.out, show cR M = q from HQ.out, e1, e2]
  · have HA := hidden (mtC_bad hz)
    have HN := hidden hz
    have hz' : (sdF n N A m1 L1 m2 L2 != 0) = true := by simpa using hz
    generalize sdF n N A m1 L1 m2 L2 = z at *
    clear hz
    obtain ⟨_, q0, q1, q2, f0, f1, f2⟩ := id R.out
    go_wp2
    exact bodyPost_ret (v := .agg #[.int .i64 z, .slice none 0 0, .slice none 0 0]) (by simp [results, Try.results10, go_sem, q0, q1, q2]) rfl ⟨Or.inl ⟨by rw [HA.out]; exact Or.inl HN.out, by rw [HA.out]⟩, ((B.out.setCell (by simp) _).setCell (by simp) _).setCell (by simp) _⟩

end Go.Proofs.Ytenlogljpgdbpaa

/- Contract: bindBehind: two bindings one behind the other, as the program makes them. -/
namespace Go.Proofs.Ytenlogljpgdbpaa
open Go.RowKit Go.Maps

open Classical in
/-- The code: whether a term grows too great. -/
noncomputable def bhC (k1 : Nat) (M2 : Nat → List Int) (D1 : LsL) : Int := if ∃ i, i < k1 ∧ 24 < (putL M2 (D1.L i) (D1.m i)).length then 2 else 0

theorem bhC_many {k1 : Nat} {M2 : Nat → List Int} {D1 : LsL} {i : Nat} (hi : i < k1) (h : 24 < (putL M2 (D1.L i) (D1.m i)).length) : bhC k1 M2 D1 = 2 := by rw [bhC, if_pos ⟨i, hi, h⟩]
theorem bhC_ok {k1 : Nat} {M2 : Nat → List Int} {D1 : LsL} (h : ∀ i, i < k1 → ¬ 24 < (putL M2 (D1.L i) (D1.m i)).length) : bhC k1 M2 D1 = 0 := by rw [bhC, if_neg (fun ⟨i, hi, hh⟩ => h i hi hh)]

theorem thn_len {k1 k2 : Nat} {V1 V2 : Nat → Int} {D1 D2 : LsL} (h : ∀ i, i < k1 → ¬ 24 < (putL (bdN k2 V2 D2) (D1.L i) (D1.m i)).length) (h2 : ∀ i, i < k2 → D2.m i ≤ 24) (v : Nat) : (thnM k1 V1 D1 k2 V2 D2 v).length ≤ 24 := by
  unfold thnM
  cases hb : bdI V1 (v : Int) k1 with
  | some i => have := h i (bdI_some k1 i hb).1; simp only; omega
  | none => exact bdM_len h2 (v : Int)

/-- A binding that is right, in memory or none. -/
structure BnIn (w : World) (p1 p2 : Option Addr) (k : Nat) (V : Nat → Int) (D : LsL) : Prop where
  vars : RowV w p1 k V
  terms : MatV w p2 k D
  most : k ≤ 12
  low : ∀ i, i < k → 0 ≤ V i ∧ V i ≤ 11
  inj : ∀ a b, a < k → b < k → V a = V b → a = b
  len : ∀ i, i < k → 1 ≤ D.m i ∧ D.m i ≤ 24
  node : ∀ i, i < k → ∀ j, j < D.m i → -12 ≤ D.L i j

theorem BnIn.keep {w w' : World} {p1 p2 : Option Addr} {k : Nat} {V : Nat → Int} {D : LsL} (h : BnIn w p1 p2 k V D) (hb : Below w.heap.size w w') : BnIn w' p1 p2 k V D :=
  ⟨h.vars.keep hb, h.terms.keep hb, h.most, h.low, h.inj, h.len, h.node⟩

theorem Bn3.grownB {w w' : World} {b g : Nat} {x y z : Value} (h : Bn3 w b x y z) (hg : w.grownBy w' (some g)) (hne : b ≠ g) : Bn3 w' b x y z := by
  have hb := hg.block b h.blk (by simpa using hne)
  refine ⟨Nat.lt_of_lt_of_le h.blk hg.size, (World.cell?_of_block (a := ⟨b, 0, none⟩) hb).trans h.c0, (World.cell?_of_block (a := ⟨b, 1, none⟩) hb).trans h.c1, (World.cell?_of_block (a := ⟨b, 2, none⟩) hb).trans h.c2, ?_, ?_, ?_⟩
  · rw [World.frozen?_of_block hb]; exact h.f0
  · rw [World.frozen?_of_block hb]; exact h.f1
  · rw [World.frozen?_of_block hb]; exact h.f2

set_option maxRecDepth 20000 in
set_option maxHeartbeats 12800000 in
theorem bindBehind_any (p1 p2 p3 p4 : Option Addr) (k1 k2 c1 c2 c3 c4 : Nat) (V1 V2 : Nat → Int) (D1 D2 : LsL) (w : World) (h1 : BnIn w p1 p2 k1 V1 D1) (h2 : BnIn w p3 p4 k2 V2 D2) :
    Calls Try.prog 51 #[.agg #[.slice p1 k1 c1, .slice p2 k1 c2], .agg #[.slice p3 k2 c3, .slice p4 k2 c4]] w fun e w' => BnAns w (bhC k1 (bdN k2 V2 D2) D1) (thnM k1 V1 D1 k2 V2 D2) e w' ∧ Below w.heap.size w w' := by
  have q1 := h1.most
  have q2 := h2.most
  have bA := alloc_below w (.cells #[.slice p1 k1 c1, .slice p2 k1 c2] 29)
  have bB := alloc_below (w.alloc (.cells #[.slice p1 k1 c1, .slice p2 k1 c2] 29)) (.cells #[.slice p3 k2 c3, .slice p4 k2 c4] 29)
  have bC := alloc_below ((w.alloc (.cells #[.slice p1 k1 c1, .slice p2 k1 c2] 29)).alloc (.cells #[.slice p3 k2 c3, .slice p4 k2 c4] 29)) (.cells #[.int .i64 0, .slice none 0 0, .slice none 0 0] 31)
  have x1 := ((Two.new w (.slice p1 k1 c1) (.slice p2 k1 c2) 29).keep bB).keep bC
  have x2 := (Two.new (w.alloc (.cells #[.slice p1 k1 c1, .slice p2 k1 c2] 29)) (.slice p3 k2 c3) (.slice p4 k2 c4) 29).keep bC
  have r1 := Bn3.new ((w.alloc (.cells #[.slice p1 k1 c1, .slice p2 k1 c2] 29)).alloc (.cells #[.slice p3 k2 c3, .slice p4 k2 c4] 29)) (.int .i64 0) (.slice none 0 0) (.slice none 0 0) 31
  simp only [World.size_alloc] at x2 r1
  have X1 := hidden x1
  have X2 := hidden x2
  have R := hidden r1
  have B := hidden (keepB (keepB bA bB) bC)
  have H1 := hidden h1
  have H2 := hidden h2
  obtain ⟨wd, hmk, how, hgr⟩ := makeMats (((w.alloc (.cells #[.slice p1 k1 c1, .slice p2 k1 c2] 29)).alloc (.cells #[.slice p3 k2 c3, .slice p4 k2 c4] 29)).alloc (.cells #[.int .i64 0, .slice none 0 0, .slice none 0 0] 31)) k1 (by omega)
  have HO := hidden (show OwnM wd (w.heap.size + 1 + 1 + 1) (w.heap.size + 1 + 1 + 1) k1 k1 (thnD (bdN k2 V2 D2) D1) 0 from by
    have hz : (((w.alloc (.cells #[.slice p1 k1 c1, .slice p2 k1 c2] 29)).alloc (.cells #[.slice p3 k2 c3, .slice p4 k2 c4] 29)).alloc (.cells #[.int .i64 0, .slice none 0 0, .slice none 0 0] 31)).heap.size = (w.heap.size + 1 + 1 + 1) := by simp
    rw [hz] at how
    exact ⟨_, fun _ => 0, how, fun i hi => by omega, fun i j _ hj => by omega⟩)
  have BG := hidden ((Below.refl _ (((w.alloc (.cells #[.slice p1 k1 c1, .slice p2 k1 c2] 29)).alloc (.cells #[.slice p3 k2 c3, .slice p4 k2 c4] 29)).alloc (.cells #[.int .i64 0, .slice none 0 0, .slice none 0 0] 31))).grown hgr (Nat.le_refl _) (fun k hk => by cases hk))
  have HSZ := hidden (show (w.heap.size + 1 + 1 + 1) ≤ wd.heap.size by have := BG.out.size; simp at this; omega)
  clear bA bB bC x1 x2 r1 h1 h2 how hgr
  have x10 := X1.out.c1
  have x11 := (X1.out.keep BG.out).c1
  go_enter Try.func51, Try.ntmps51
  go_wp2
  clear hmk x10 x11
  replace X1 := hidden (X1.out.keep BG.out)
  replace X2 := hidden (X2.out.keep BG.out)
  replace R := hidden (R.out.keep BG.out)
  replace B := hidden (keepB B.out BG.out)
  clear BG
  go_loopw [20] (fun i wr => ∃ j : Nat, j ≤ k1 ∧ i = .int .i64 (j : Nat) ∧ Hid (OwnM wr (w.heap.size + 1 + 1 + 1) (w.heap.size + 1 + 1 + 1) k1 k1 (thnD (bdN k2 V2 D2) D1) j ∧ (w.heap.size + 1 + 1 + 1) ≤ wr.heap.size) ∧ Hid (Two wr w.heap.size (.slice p1 k1 c1) (.slice p2 k1 c2)) ∧ Hid (Two wr (w.heap.size + 1) (.slice p3 k2 c3) (.slice p4 k2 c4)) ∧ Hid (Bn3 wr (w.heap.size + 1 + 1) (.int .i64 0) (.slice none 0 0) (.slice none 0 0)) ∧ Hid (∀ i, i < j → ¬ 24 < (putL (bdN k2 V2 D2) (D1.L i) (D1.m i)).length) ∧ Hid (Below w.heap.size w wr)) (fun i _ => k1 - (intOf i).toNat)
  case atStart => exact ⟨0, Nat.zero_le _, rfl, hidden ⟨HO.out, HSZ.out⟩, X1, X2, R, hidden (fun i hi => by omega), B⟩
  case round =>
    clear X1 X2 R B HO HSZ wd
    obtain ⟨j, hj, rfl, HO, X1, X2, R, HN, B⟩ := hrel
    have I1 := hidden (H1.out.keep B.out)
    have I2 := hidden (H2.out.keep B.out)
    by_cases hlt : j < k1
    · rcases I1.out.terms with h0 | ⟨bt, ot, rfl, hm⟩
      · omega
      obtain ⟨g, o, c, e1, i1, _⟩ := hm.row j hlt
      have IT := hidden i1
      have hlen := I1.out.len j hlt
      have HNO := hidden (I1.out.node j hlt)
      have HL2 := hidden (show ∀ v : Nat, ((bdN k2 V2 D2) v).length ≤ 24 from fun v => bdM_len (fun i hi => (I2.out.len i hi).2) (v : Int))
      have x20 := X2.out.c0
      have x21 := X2.out.c1
      clear i1 hm
      go_wp2_with fail
      with_reducible refine (meaningOfO_any p3 p4 k2 c3 c4 V2 D2 _ I2.out.vars I2.out.terms q2).mono ?_
      rintro e w2 ⟨E, rfl, hE, hb⟩
      have ME := hidden hE.mean
      have HW := hidden (Below.refl wr.heap.size wr)
      replace IT := hidden (IT.out.keep hb)
      replace HW := hidden (keepB HW.out hb)
      have hsz := hb.size
      clear hb hE x20 x21 e1
      go_wp2_with fail
      with_reducible refine (putIn_any _ _ (bdN k2 V2 D2) g o (D1.m j) c (D1.L j) _ ME.out IT.out hlen.1 hlen.2 HNO.out HL2.out).mono ?_
      rintro e w3 ⟨ha, hb⟩
      replace HW := hidden (keepB HW.out hb)
      clear hb ME
      by_cases h24 : 24 < (putL (bdN k2 V2 D2) (D1.L j) (D1.m j)).length
      · have HC := hidden (bhC_many hlt h24)
        rw [if_pos h24] at ha
        rcases ha with ⟨-, rfl⟩ | ⟨h0, -⟩
        · clear h24 hlen
          have hab := keepB HW.out (alloc_below w3 (.cells #[.int .i64 2, .slice none 0 0] 111))
          replace R := hidden (R.out.keep hab)
          replace B := hidden (keepB B.out hab)
          have t0 := (Two.new w3 (.int .i64 2) (.slice none 0 0) 111).c0
          clear hab HW
          obtain ⟨_, q0, q1', q2', f0, f1, f2⟩ := id R.out
          go_wp2
          exact bodyPost_ret (v := .agg #[.int .i64 2, .slice none 0 0, .slice none 0 0]) (by simp [results, Try.results51, go_sem, q0, q1', q2']) rfl ⟨Or.inl ⟨by rw [HC.out]; exact Or.inl (by decide), by rw [HC.out]⟩, ((B.out.setCell (by simp; omega) _).setCell (by simp; omega) _).setCell (by simp; omega) _⟩
        · exact absurd h0 (by decide)
      · rw [if_neg h24] at ha
        have H24 := hidden h24
        rcases ha with ⟨h0, -⟩ | ⟨-, g3, d3, rfl, hg3, ho⟩
        · exact absurd rfl h0
        · have hg3' : wr.heap.size ≤ g3 := Nat.le_trans hsz hg3
          have hab := keepB HW.out (alloc_below w3 (.cells #[.int .i64 0, .slice (some ⟨g3, 0, none⟩) (putL (bdN k2 V2 D2) (D1.L j) (D1.m j)).length d3] 111))
          have hcap := ho.capY
          have t1 := (Two.new w3 (.int .i64 0) (.slice (some ⟨g3, 0, none⟩) (putL (bdN k2 V2 D2) (D1.L j) (D1.m j)).length d3) 111).c1
          have t0 := (Two.new w3 (.int .i64 0) (.slice (some ⟨g3, 0, none⟩) (putL (bdN k2 V2 D2) (D1.L j) (D1.m j)).length d3) 111).c0
          have OP := HO.out.1.put hab hlt hg3' hcap HO.out.2 (ho.keep (alloc_below w3 (.cells #[.int .i64 0, .slice (some ⟨g3, 0, none⟩) (putL (bdN k2 V2 D2) (D1.L j) (D1.m j)).length d3] 111)))
          have hBB := keepB B.out hab
          have X1' := X1.out.keep hab
          have X2' := X2.out.keep hab
          have R' := R.out.keep hab
          have hs3 := hab.size
          have hO2 := HO.out.2
          have hKd : ((thnD (bdN k2 V2 D2) D1)).m j = (putL (bdN k2 V2 D2) (D1.L j) (D1.m j)).length := rfl
          rw [hKd] at OP
          clear hab hKd ho HW hsz hg3 hg3' h24
          generalize hK : (putL (bdN k2 V2 D2) (D1.L j) (D1.m j)).length = K at *
          have HKK := hidden hK
          clear hK
          generalize hW4 : w3.alloc (.cells #[.int .i64 0, .slice (some ⟨g3, 0, none⟩) K d3] 111) = w4 at *
          have HW4 := hidden hW4
          obtain ⟨⟨u0, z0⟩, zf, o3, gw⟩ := OP
          have HO4 := hidden (And.intro o3 (show (w.heap.size + 1 + 1 + 1) ≤ (w4.setCell ⟨(w.heap.size + 1 + 1 + 1), j, none⟩ (.slice (some ⟨g3, 0, none⟩) K d3)).heap.size by simp; omega))
          have XA := hidden (X1'.grown gw (by omega))
          have XB := hidden (X2'.grown gw (by omega))
          have RA := hidden (R'.grownB gw (by omega))
          have B4 := hidden (hBB.grown gw hBB.size (fun q hq => by cases hq; omega))
          have HN4 := hidden (show ∀ i, i < j + 1 → ¬ 24 < (putL (bdN k2 V2 D2) (D1.L i) (D1.m i)).length from fun i hi => by
            by_cases e : i = j
            · rw [e, HKK.out]; exact H24.out
            · exact HN.out i (by omega))
          clear o3 gw X1' X2' R' hBB hs3 hO2 HO X1 X2 R B HN hcap
          go_wp2
          go_roundw
          case rel => exact ⟨j + 1, by omega, by go_num, HO4, XA, XB, RA, HN4, B4⟩
          case measure => simp [intOf]; omega
    · obtain rfl : k1 = j := by omega
      have HC := hidden (bhC_ok HN.out)
      have x20 := X2.out.c0
      have x21 := X2.out.c1
      have HW := hidden (Below.refl wr.heap.size wr)
      go_wp2_with fail
      with_reducible refine (placesBy_any p3 k2 c3 p4 k2 c4 V2 _ I2.out.vars q2 I2.out.low).mono ?_
      rintro e w2 ⟨X, rfl, hX, hown, hb⟩
      have hXl := hown.lt
      have hbx := keepB hb (alloc_below w2 (.cells #[.map (some X)] 118))
      have X9 := hidden (One.new w2 (.map (some X)) 118)
      have HM0 := hidden (ownsMap_below hown (alloc_below w2 (.cells #[.map (some X)] 118)))
      have HX := hidden hX
      have HXL := hidden hXl
      have HBX := hidden hbx
      have x10 := (X1.out.keep hbx).c0
      clear hb hbx hown hX hXl x20 x21 HW
      go_wp2
      clear x10
      obtain ⟨w5, hw5⟩ : ∃ w5, w5 = w2.alloc (.cells #[.map (some X)] 118) := ⟨_, rfl⟩
      rw [← hw5] at X9 HM0 HBX ⊢
      clear hw5
      go_loopw [46] (fun i wq => ∃ j2 : Nat, j2 ≤ k1 ∧ i = .int .i64 (j2 : Nat) ∧ Hid (wq.ownsMap Try.prog 2 (plainElem (H := Unit) Try.prog 3) X k2 (delV V1 (mapV V2 k2) j2)) ∧ Hid (One wq w2.heap.size (.map (some X))) ∧ Hid (Below wr.heap.size wr wq)) (fun i _ => k1 - (intOf i).toNat)
      case atStart => exact ⟨0, Nat.zero_le _, rfl, HM0, X9, HBX⟩
      case round =>
        clear HM0 X9 HBX w5
        rename World => wq
        obtain ⟨j2, hj2, rfl, HM, X9, HW⟩ := hrel
        by_cases hlt : j2 < k1
        · have hlow := H1.out.low j2 hlt
          have HKey := hidden (keyOfV (x := V1 j2) ⟨by omega, by omega⟩)
          rcases H1.out.vars with h0 | ⟨b1, o1, rfl, hi⟩
          · omega
          have c1v := (hi.keep (keepB B.out HW.out)).cell j2 hlt
          have z9 := X9.out.c0
          clear hi
          go_wp2_with (first | (at_delete; refine wpList_delete_own _ rfl _ _ 118 2 rfl 3 lawV Try.underlying118 _ X k2 _ rfl HM.out _ _ rfl HKey.out ?_) | go_in)
          intro w6 hown6 hturn6
          have HM6 := hidden hown6
          have X6 := hidden (X9.out.grown hturn6.grown (by have := HXL.out; omega))
          have HW6 := hidden (HW.out.grown hturn6.grown HW.out.size (fun q hq => by cases hq; exact HX.out))
          clear hown6 hturn6 HM X9 HW c1v z9 HKey hlow
          go_wp2
          go_roundw
          case rel => exact ⟨j2 + 1, by omega, by go_num, HM6, X6, HW6⟩
          case measure => simp [intOf]; omega
        · obtain rfl : k1 = j2 := by omega
          have IV := hidden (show RowV wq p1 k1 V1 from (I1.out.keep HW.out).vars)
          have IM := hidden (show MatV wq (some ⟨(w.heap.size + 1 + 1 + 1), 0, none⟩) k1 (thnD (bdN k2 V2 D2) D1) from Or.inr ⟨_, 0, rfl, (HO.out.1.keep HW.out).mats⟩)
          have x10 := (X1.out.keep HW.out).c0
          clear hj2 hlt
          go_wp2_with fail
          with_reducible refine (meaningOfO_any p1 (some ⟨(w.heap.size + 1 + 1 + 1), 0, none⟩) k1 c1 k1 V1 (thnD (bdN k2 V2 D2) D1) _ IV.out IM.out q1).mono ?_
          rintro e w6 ⟨E, rfl, hE, hb⟩
          have hb6 := alloc_below w6 (.cells #[.func (Fn.func 75) #[] #[.pointer (some ⟨E, 0, none⟩)]] 75)
          have X12 := hidden (One.new w6 (.func (Fn.func 75) #[] #[.pointer (some ⟨E, 0, none⟩)]) 75)
          obtain ⟨w7, hw7e⟩ : ∃ w7, w7 = w6.alloc (.cells #[.func (Fn.func 75) #[] #[.pointer (some ⟨E, 0, none⟩)]] 75) := ⟨_, rfl⟩
          rw [← hw7e] at hb6 X12
          have HW7 := hidden hw7e
          have hb7 := keepB hb hb6
          have hw7 := keepB HW.out hb7
          have ME := hidden (hE.keep hb6)
          have M7 := hidden (ownsMap_below HM.out hb7)
          have Y9 := hidden (X9.out.keep hb7)
          have Y3 := hidden (X2.out.keep hw7)
          have Y4 := hidden ((I2.out.keep hw7).terms)
          have B7 := hidden (keepB B.out hw7)
          have R7 := hidden (R.out.keep hw7)
          have HLN := hidden (thn_len (V1 := V1) HN.out (fun i hi => (I2.out.len i hi).2))
          have MB := hidden (show MeanO 85 #[.pointer (some ⟨w2.heap.size, 0, none⟩), .pointer (some ⟨(w.heap.size + 1), 0, none⟩), .pointer (some ⟨w6.heap.size, 0, none⟩)] (thnM k1 V1 D1 k2 V2 D2) w7 from
            ⟨enters_bh, fun v w1 hv hb => behind1_any w2.heap.size (w.heap.size + 1) w6.heap.size X E k2 p3 p4 k1 k2 c3 c4 V1 V2 D1 D2 _ v _ w1 hb hv Y9.out M7.out (map_is I2.out.inj) Y3.out Y4.out X12.out ME.out⟩)
          clear hb hb7 hw7 hE x10 IV IM hw7e hb6
          go_wp2_with fail
          rw [← HW7.out]
          with_reducible refine (bindingBy_walk _ _ (thnM k1 V1 D1 k2 V2 D2) _ MB.out HLN.out).mono ?_
          rintro e w8 ⟨va, ta, rfl, ⟨Bb, Xb, hlo, hs, hnil⟩, hb⟩
          have hR := R7.out.blk
          replace hlo : w.heap.size + 1 + 1 < Xb := Nat.lt_of_lt_of_le hR hlo
          replace R := hidden (R7.out.keep hb)
          replace B := hidden (keepB B7.out hb)
          have HS := hidden hs
          have HNL := hidden hnil
          clear hb MB hR hs hnil ME X12 M7 Y9 Y3 Y4 B7 R7 X1 X2 I1 I2 HM X9 HW HO
          by_cases h0 : cR (thnM k1 V1 D1 k2 V2 D2) = 0
          · obtain ⟨rfl, rfl⟩ := HNL.out h0
            have H0 := hidden h0
            clear h0
            obtain ⟨_, q0, q1', q2', f0, f1, f2⟩ := id R.out
            go_wp2
            exact bodyPost_ret (v := .agg #[.int .i64 0, .slice none 0 0, .slice none 0 0]) (by simp [results, Try.results51, go_sem, q0, q1', q2']) rfl ⟨Or.inl ⟨Or.inr H0.out, by rw [HC.out]⟩, ((B.out.setCell (by simp; omega) _).setCell (by simp; omega) _).setCell (by simp; omega) _⟩
          · have hpos : 0 < cR (thnM k1 V1 D1 k2 V2 D2) := by omega
            have hs := HS.out
            have BS := hidden hs
            have HL := hidden (And.intro hlo hpos)
            obtain ⟨g1, d1, g2, d2, rfl, rfl, -⟩ := hs.done hpos
            clear hs hlo h0 hpos HS HNL
            obtain ⟨_, q0, q1', q2', f0, f1, f2⟩ := id R.out
            generalize hq : (cnL (thnM k1 V1 D1 k2 V2 D2) 12).length = q at BS ⊢
            have HQ := hidden hq
            clear hq
            go_wp2
            have hlow := BS.out.low
            have hlo := HL.out.1
            have BF := ((BS.out.farY ⟨w.heap.size + 1 + 1, 0, none⟩ (.int .i64 0) (by show w.heap.size + 1 + 1 < _; omega) (by show Xb ≠ w.heap.size + 1 + 1; omega)).farY ⟨w.heap.size + 1 + 1, 1, none⟩ (.slice (some ⟨g1, 0, none⟩) q d1) (by show w.heap.size + 1 + 1 < _; omega) (by show Xb ≠ w.heap.size + 1 + 1; omega)).farY ⟨w.heap.size + 1 + 1, 2, none⟩ (.slice (some ⟨g2, 0, none⟩) q d2) (by show w.heap.size + 1 + 1 < _; omega) (by show Xb ≠ w.heap.size + 1 + 1; omega)
            obtain ⟨g3, d3, g4, d4, e1, e2, ho⟩ := BF.done HL.out.2
            rw [HQ.out] at e1 e2
            refine bodyPost_ret (v := .agg #[.int .i64 0, .slice (some ⟨g1, 0, none⟩) q d1, .slice (some ⟨g2, 0, none⟩) q d2]) (by simp [results, Try.results51, go_sem, q0, q1', q2']) rfl ⟨Or.inr ⟨HC.out, HL.out.2, Bb, g3, d3, g4, d4, ?_, by omega, ho⟩, ((B.out.setCell (by simp; omega) _).setCell (by simp; omega) _).setCell (by simp; omega) _⟩
            rw [show cR (thnM k1 V1 D1 k2 V2 D2) = q from HQ.out, e1, e2]

end Go.Proofs.Ytenlogljpgdbpaa

/- ThenBinding: plain facts, and as the program makes it. -/
namespace Go.Proofs.Ytenlogljpgdbpaa
open Go.RowKit Go.Maps

/-- The first binding's variables below j, with their turned terms. -/
def pM (V1 : Nat → Int) (D1 : LsL) (M2 : Nat → List Int) : Nat → Nat → List Int
  | 0 => fun _ => []
  | j + 1 => updM (pM V1 D1 M2 j) (V1 j).toNat (putL M2 (D1.L j) (D1.m j))

/-- .. and behind them the second one's below j. -/
def qM (k1 : Nat) (V1 : Nat → Int) (D1 : LsL) (k2 : Nat) (V2 : Nat → Int) (D2 : LsL) : Nat → Nat → List Int
  | 0 => pM V1 D1 (bdN k2 V2 D2) k1
  | j + 1 => if (bdI V1 (V2 j) k1).isSome = true then qM k1 V1 D1 k2 V2 D2 j else updM (qM k1 V1 D1 k2 V2 D2 j) (V2 j).toNat (upto (D2.L j) (D2.m j))

theorem bdI_fresh {V : Nat → Int} {j : Nat} (hinj : ∀ a b, a < j + 1 → b < j + 1 → V a = V b → a = b) : bdI V (V j) j = none :=
  bdI_none j (fun i hi e => by have := hinj i j (by omega) (by omega) e; omega)

theorem pM_at {V1 : Nat → Int} {D1 : LsL} {M2 : Nat → List Int} : ∀ j, (∀ i, i < j → 0 ≤ V1 i) → (∀ a b, a < j → b < j → V1 a = V1 b → a = b) → ∀ v : Nat, pM V1 D1 M2 j v = match bdI V1 (v : Int) j with | some i => putL M2 (D1.L i) (D1.m i) | none => []
  | 0, _, _, v => rfl
  | j + 1, h0, hinj, v => by
    have ih := pM_at (D1 := D1) (M2 := M2) j (fun i hi => h0 i (by omega)) (fun a b ha hb => hinj a b (by omega) (by omega)) v
    have hj := h0 j (by omega)
    simp only [pM, updM, bdI]
    by_cases e : v = (V1 j).toNat
    · have ev : V1 j = (v : Int) := by omega
      have hn : bdI V1 (v : Int) j = none := by rw [← ev]; exact bdI_fresh hinj
      rw [if_pos e, hn]
      simp only
      rw [if_pos ev]
    · have ev : ¬ V1 j = (v : Int) := by omega
      rw [if_neg e, ih]
      cases hb : bdI V1 (v : Int) j with
      | some i => rfl
      | none => simp only; rw [if_neg ev]

theorem qM_at {k1 k2 : Nat} {V1 V2 : Nat → Int} {D1 D2 : LsL} (h1 : ∀ i, i < k1 → 0 ≤ V1 i) (hinj1 : ∀ a b, a < k1 → b < k1 → V1 a = V1 b → a = b) : ∀ j, (∀ i, i < j → 0 ≤ V2 i) → (∀ a b, a < j → b < j → V2 a = V2 b → a = b) → ∀ v : Nat, qM k1 V1 D1 k2 V2 D2 j v = match bdI V1 (v : Int) k1 with | some i => putL (bdN k2 V2 D2) (D1.L i) (D1.m i) | none => bdM j V2 D2 (v : Int)
  | 0, _, _, v => by
    simp only [qM]
    rw [pM_at k1 h1 hinj1 v]
    cases bdI V1 (v : Int) k1 <;> rfl
  | j + 1, h0, hinj, v => by
    have ih := qM_at (k2 := k2) (D1 := D1) (D2 := D2) h1 hinj1 j (fun i hi => h0 i (by omega)) (fun a b ha hb => hinj a b (by omega) (by omega)) v
    have hj := h0 j (by omega)
    simp only [qM]
    by_cases hs : (bdI V1 (V2 j) k1).isSome = true
    · rw [if_pos hs, ih]
      cases hb : bdI V1 (v : Int) k1 with
      | some i => rfl
      | none =>
        have ev : ¬ V2 j = (v : Int) := fun e => by rw [e, hb] at hs; cases hs
        simp only [bdM, bdI]
        cases hc : bdI V2 (v : Int) j with
        | some i => rfl
        | none => simp only; rw [if_neg ev]
    · rw [if_neg hs]
      simp only [updM]
      by_cases e : v = (V2 j).toNat
      · have ev : V2 j = (v : Int) := by omega
        have hn1 : bdI V1 (v : Int) k1 = none := by
          rw [← ev]
          cases hb : bdI V1 (V2 j) k1 with
          | some i => rw [hb] at hs; exact absurd rfl hs
          | none => rfl
        have hn2 : bdI V2 (v : Int) j = none := by rw [← ev]; exact bdI_fresh hinj
        rw [if_pos e, hn1]
        simp only [bdM, bdI, hn2]
        rw [if_pos ev]
      · have ev : ¬ V2 j = (v : Int) := by omega
        rw [if_neg e, ih]
        cases hb : bdI V1 (v : Int) k1 with
        | some i => rfl
        | none =>
          simp only [bdM, bdI]
          cases hc : bdI V2 (v : Int) j with
          | some i => rfl
          | none => simp only; rw [if_neg ev]

theorem qM_end {k1 k2 : Nat} {V1 V2 : Nat → Int} {D1 D2 : LsL} (h1 : ∀ i, i < k1 → 0 ≤ V1 i) (hinj1 : ∀ a b, a < k1 → b < k1 → V1 a = V1 b → a = b) (h2 : ∀ i, i < k2 → 0 ≤ V2 i) (hinj2 : ∀ a b, a < k2 → b < k2 → V2 a = V2 b → a = b) : qM k1 V1 D1 k2 V2 D2 k2 = thnM k1 V1 D1 k2 V2 D2 := by
  funext v
  rw [qM_at h1 hinj1 k2 h2 hinj2 v]
  rfl

theorem rise_inc {n : Nat} {A : Nat → Int} {m : Nat} {V : Nat → Int} {D : LsL} (h : Bn n A m V D) : ∀ d a, a + d + 1 < m + 0 → V a < V (a + d + 1)
  | 0, a, hd => h.rise a (by omega)
  | d + 1, a, hd => by
    have := rise_inc h d a (by omega)
    have := h.rise (a + d + 1) (by omega)
    have e : a + (d + 1) + 1 = a + d + 1 + 1 := by omega
    rw [e]; omega

theorem rise_inj {n : Nat} {A : Nat → Int} {m : Nat} {V : Nat → Int} {D : LsL} (h : Bn n A m V D) (a b : Nat) (ha : a < m) (hb : b < m) (e : V a = V b) : a = b := by
  rcases Nat.lt_trichotomy a b with hl | hl | hl
  · have := rise_inc h (b - a - 1) a (by omega)
    rw [show a + (b - a - 1) + 1 = b by omega] at this
    omega
  · exact hl
  · have := rise_inc h (a - b - 1) b (by omega)
    rw [show b + (a - b - 1) + 1 = a by omega] at this
    omega

theorem Bn.isIn {n : Nat} {A : Nat → Int} {k : Nat} {V : Nat → Int} {D : LsL} {w : World} {b1 o1 b2 o2 : Nat} (hs : Sound n A) (h : Bn n A k V D) (h1 : Ints w b1 o1 k V) (h2 : Mats w b2 o2 k D) : BnIn w (some ⟨b1, o1, none⟩) (some ⟨b2, o2, none⟩) k V D :=
  ⟨Or.inr ⟨b1, o1, rfl, h1⟩, Or.inr ⟨b2, o2, rfl, h2⟩, h.most, h.rng, rise_inj h,
    fun i hi => by have T := lF_right hs (h.trm i hi); have := T.pos; have := T.nods.most; omega,
    fun i hi j hj => by
      have T := lF_right hs (h.trm i hi)
      rcases nodeB_cases (T.nods.node j hj) with ⟨x, e, _⟩ | hv <;> omega⟩

theorem setCell_grownT (w : World) (s o : Nat) (v : Value) : w.grownBy (w.setCell ⟨s, o, none⟩ v) (some s) :=
  ⟨rfl, rfl, rfl, by simp [World.setCell], fun k _ hk => Below.heap_setCell _ _ _ _ (fun e => hk (by simp [e]))⟩

theorem OwnBx.setLow {w : World} {lo g1 m d1 : Nat} {V : Nat → Int} {g2 t d2 : Nat} {D : LsL} (h : OwnBx w lo w.heap.size g1 m d1 V g2 t d2 D) (s o : Nat) (u : Value) (hs : s < lo) : OwnBx (w.setCell ⟨s, o, none⟩ u) lo (w.setCell ⟨s, o, none⟩ u).heap.size g1 m d1 V g2 t d2 D := by
  have := h.grown (setCell_grownT w s o u) (Or.inl hs)
  rwa [show (w.setCell ⟨s, o, none⟩ u).heap.size = w.heap.size by simp]

/-- ThenBinding's code. -/
noncomputable def thC (n : Nat) (N : Nat → ByteArray) (A : Nat → Int) (k1 : Nat) (V1 : Nat → Int) (t1 : Nat) (D1 : LsL) (k2 : Nat) (V2 : Nat → Int) (t2 : Nat) (D2 : LsL) : Int :=
  if bnF n N A k1 V1 t1 D1 = 0 then (if bnF n N A k2 V2 t2 D2 = 0 then bhC k1 (bdN k2 V2 D2) D1 else bnF n N A k2 V2 t2 D2) else bnF n N A k1 V1 t1 D1

section
variable {n : Nat} {N : Nat → ByteArray} {A : Nat → Int} {k1 : Nat} {V1 : Nat → Int} {t1 : Nat} {D1 : LsL} {k2 : Nat} {V2 : Nat → Int} {t2 : Nat} {D2 : LsL}
theorem thC_1 (h : bnF n N A k1 V1 t1 D1 ≠ 0) : thC n N A k1 V1 t1 D1 k2 V2 t2 D2 = bnF n N A k1 V1 t1 D1 := by rw [thC, if_neg h]
theorem thC_2 (h : bnF n N A k1 V1 t1 D1 = 0) (h2 : bnF n N A k2 V2 t2 D2 ≠ 0) : thC n N A k1 V1 t1 D1 k2 V2 t2 D2 = bnF n N A k2 V2 t2 D2 := by rw [thC, if_pos h, if_neg h2]
theorem thC_3 (h : bnF n N A k1 V1 t1 D1 = 0) (h2 : bnF n N A k2 V2 t2 D2 = 0) : thC n N A k1 V1 t1 D1 k2 V2 t2 D2 = bhC k1 (bdN k2 V2 D2) D1 := by rw [thC, if_pos h, if_pos h2]
end

set_option maxRecDepth 20000 in
set_option maxHeartbeats 6400000 in
theorem implThen_any (b off n c b1 o1 k1 c1 b2 o2 t1 c2 b3 o3 k2 c3 b4 o4 t2 c4 : Nat) (N : Nat → ByteArray) (A V1 V2 : Nat → Int) (D1 D2 : LsL) (w : World) (h : Syms w b off n N A) (h1 : Ints w b1 o1 k1 V1) (h2 : Mats w b2 o2 t1 D1) (h3 : Ints w b3 o3 k2 V2) (h4 : Mats w b4 o4 t2 D2) (hk : Kept n N A) (hm1 : k1 ≤ 1048576) (hk1 : KeptM t1 D1) (hm2 : k2 ≤ 1048576) (hk2 : KeptM t2 D2) :
    Calls Try.prog 23 #[.agg #[.slice (some ⟨b, off, none⟩) n c], .agg #[.slice (some ⟨b1, o1, none⟩) k1 c1, .slice (some ⟨b2, o2, none⟩) t1 c2], .agg #[.slice (some ⟨b3, o3, none⟩) k2 c3, .slice (some ⟨b4, o4, none⟩) t2 c4]] w fun e w' => BnAns w (thC n N A k1 V1 t1 D1 k2 V2 t2 D2) (thnM k1 V1 D1 k2 V2 D2) e w' ∧ Below w.heap.size w w' := by
  have bA := alloc_below w (.cells #[.slice (some ⟨b, off, none⟩) n c] 35)
  have bB := alloc_below (w.alloc (.cells #[.slice (some ⟨b, off, none⟩) n c] 35)) (.cells #[.slice (some ⟨b1, o1, none⟩) k1 c1, .slice (some ⟨b2, o2, none⟩) t1 c2] 29)
  have bC := alloc_below ((w.alloc (.cells #[.slice (some ⟨b, off, none⟩) n c] 35)).alloc (.cells #[.slice (some ⟨b1, o1, none⟩) k1 c1, .slice (some ⟨b2, o2, none⟩) t1 c2] 29)) (.cells #[.slice (some ⟨b3, o3, none⟩) k2 c3, .slice (some ⟨b4, o4, none⟩) t2 c4] 29)
  have bD := alloc_below (((w.alloc (.cells #[.slice (some ⟨b, off, none⟩) n c] 35)).alloc (.cells #[.slice (some ⟨b1, o1, none⟩) k1 c1, .slice (some ⟨b2, o2, none⟩) t1 c2] 29)).alloc (.cells #[.slice (some ⟨b3, o3, none⟩) k2 c3, .slice (some ⟨b4, o4, none⟩) t2 c4] 29)) (.cells #[.int .i64 0, .slice none 0 0, .slice none 0 0] 31)
  have x0 := (((One.new w (.slice (some ⟨b, off, none⟩) n c) 35).keep bB).keep bC).keep bD
  have x1 := ((Two.new (w.alloc (.cells #[.slice (some ⟨b, off, none⟩) n c] 35)) (.slice (some ⟨b1, o1, none⟩) k1 c1) (.slice (some ⟨b2, o2, none⟩) t1 c2) 29).keep bC).keep bD
  have x2 := (Two.new ((w.alloc (.cells #[.slice (some ⟨b, off, none⟩) n c] 35)).alloc (.cells #[.slice (some ⟨b1, o1, none⟩) k1 c1, .slice (some ⟨b2, o2, none⟩) t1 c2] 29)) (.slice (some ⟨b3, o3, none⟩) k2 c3) (.slice (some ⟨b4, o4, none⟩) t2 c4) 29).keep bD
  have r1 := Bn3.new (((w.alloc (.cells #[.slice (some ⟨b, off, none⟩) n c] 35)).alloc (.cells #[.slice (some ⟨b1, o1, none⟩) k1 c1, .slice (some ⟨b2, o2, none⟩) t1 c2] 29)).alloc (.cells #[.slice (some ⟨b3, o3, none⟩) k2 c3, .slice (some ⟨b4, o4, none⟩) t2 c4] 29)) (.int .i64 0) (.slice none 0 0) (.slice none 0 0) 31
  simp only [World.size_alloc] at x1 x2 r1
  have X0 := hidden x0
  have X1 := hidden x1
  have X2 := hidden x2
  have R := hidden r1
  have B := hidden (keepB (keepB (keepB bA bB) bC) bD)
  have Q := hidden (h.keep B.out)
  have I1 := hidden (h1.keep B.out)
  have I2 := hidden (h2.keep B.out)
  have I3 := hidden (h3.keep B.out)
  have I4 := hidden (h4.keep B.out)
  have HK := hidden hk
  have HK1 := hidden hk1
  have HK2 := hidden hk2
  clear bA bB bC bD x0 x1 x2 r1 h h1 h2 h3 h4 hk hk1 hk2
  have z0 := X0.out.c0
  have z1 := X1.out.c0
  have z2 := X1.out.c1
  go_enter Try.func23, Try.ntmps23
  go_wp2_with fail
  with_reducible refine (implBn_any _ _ _ _ _ _ _ _ _ _ _ _ N A V1 D1 _ Q.out I1.out I2.out HK.out hm1 HK1.out).mono ?_
  rintro e w1 ⟨rfl, hb⟩
  replace X0 := hidden (X0.out.keep hb)
  replace X1 := hidden (X1.out.keep hb)
  replace X2 := hidden (X2.out.keep hb)
  replace R := hidden (R.out.keep hb)
  replace B := hidden (keepB B.out hb)
  replace Q := hidden (Q.out.keep hb)
  replace I1 := hidden (I1.out.keep hb)
  replace I2 := hidden (I2.out.keep hb)
  replace I3 := hidden (I3.out.keep hb)
  replace I4 := hidden (I4.out.keep hb)
  clear hb z0 z1 z2
  by_cases hf : bnF n N A k1 V1 t1 D1 = 0
  · have HF := hidden hf
    rw [hf]
    clear hf
    have z0 := X0.out.c0
    have z1 := X2.out.c0
    have z2 := X2.out.c1
    go_wp2_with fail
    with_reducible refine (implBn_any _ _ _ _ _ _ _ _ _ _ _ _ N A V2 D2 _ Q.out I3.out I4.out HK.out hm2 HK2.out).mono ?_
    rintro e w2 ⟨rfl, hb⟩
    replace X1 := hidden (X1.out.keep hb)
    replace X2 := hidden (X2.out.keep hb)
    replace R := hidden (R.out.keep hb)
    replace B := hidden (keepB B.out hb)
    replace I1 := hidden (I1.out.keep hb)
    replace I2 := hidden (I2.out.keep hb)
    replace I3 := hidden (I3.out.keep hb)
    replace I4 := hidden (I4.out.keep hb)
    clear hb z0 z1 z2 X0 Q
    by_cases hf2 : bnF n N A k2 V2 t2 D2 = 0
    · have HC := hidden (thC_3 HF.out hf2)
      have SO := hidden (fault_sound (bn_sig HF.out))
      obtain ⟨rfl, bn1⟩ := bn_ok HF.out
      obtain ⟨rfl, bn2⟩ := bn_ok hf2
      have BI1 := hidden (bn1.isIn SO.out I1.out I2.out)
      have BI2 := hidden (bn2.isIn SO.out I3.out I4.out)
      rw [hf2]
      clear hf2 bn1 bn2 I1 I2 I3 I4
      have z1 := X1.out.c0
      have z2 := X1.out.c1
      have z3 := X2.out.c0
      have z4 := X2.out.c1
      go_wp2_with fail
      with_reducible refine (bindBehind_any _ _ _ _ _ _ _ _ _ _ V1 V2 D1 D2 _ BI1.out BI2.out).mono ?_
      rintro e w3 ⟨ha, hb⟩
      have hR := R.out.blk
      replace R := hidden (R.out.keep hb)
      replace B := hidden (keepB B.out hb)
      clear hb z1 z2 z3 z4 X1 X2 BI1 BI2
      obtain ⟨_, q0, q1, q2, f0, f1, f2⟩ := id R.out
      rcases ha with ⟨hcc, rfl⟩ | ⟨hc0, hpos, lo, g1, d1, g2, d2, rfl, hlo, ho⟩
      · have HCC := hidden hcc
        generalize hC : bhC k1 (bdN k2 V2 D2) D1 = C at *
        clear hcc hC
        go_wp2
        exact bodyPost_ret (v := .agg #[.int .i64 C, .slice none 0 0, .slice none 0 0]) (by simp [results, Try.results23, go_sem, q0, q1, q2]) rfl ⟨Or.inl ⟨by rw [HC.out]; exact HCC.out, by rw [HC.out]⟩, ((B.out.setCell (by simp; omega) _).setCell (by simp; omega) _).setCell (by simp; omega) _⟩
      · have HO := hidden ho
        have HC0 := hidden (HC.out.trans hc0)
        have HP := hidden hpos
        have hlo2 : w.heap.size + 1 + 1 + 1 < lo := Nat.lt_of_lt_of_le hR hlo
        generalize hq : cR (thnM k1 V1 D1 k2 V2 D2) = q at HO HP ⊢
        have HQ := hidden hq
        clear ho hc0 hpos hq
        go_wp2
        refine bodyPost_ret (v := .agg #[.int .i64 0, .slice (some ⟨g1, 0, none⟩) q d1, .slice (some ⟨g2, 0, none⟩) q d2]) (by simp [results, Try.results23, go_sem, q0, q1, q2]) rfl ⟨Or.inr ⟨HC0.out, by rw [HQ.out]; exact HP.out, lo, g1, d1, g2, d2, by rw [HQ.out], by omega, ?_⟩, ((B.out.setCell (by simp; omega) _).setCell (by simp; omega) _).setCell (by simp; omega) _⟩
        rw [HQ.out]
        exact ((HO.out.setLow _ _ _ hlo2).setLow _ _ _ hlo2).setLow _ _ _ hlo2
    · have HA := hidden (thC_2 HF.out hf2)
      have HN := hidden hf2
      have hz' : (bnF n N A k2 V2 t2 D2 != 0) = true := by simpa using hf2
      generalize bnF n N A k2 V2 t2 D2 = z at *
      clear hf2
      obtain ⟨_, q0, q1, q2, f0, f1, f2⟩ := id R.out
      go_wp2
      exact bodyPost_ret (v := .agg #[.int .i64 z, .slice none 0 0, .slice none 0 0]) (by simp [results, Try.results23, go_sem, q0, q1, q2]) rfl ⟨Or.inl ⟨by rw [HA.out]; exact Or.inl HN.out, by rw [HA.out]⟩, ((B.out.setCell (by simp; omega) _).setCell (by simp; omega) _).setCell (by simp; omega) _⟩
  · have HA := hidden (thC_1 (k2 := k2) (V2 := V2) (t2 := t2) (D2 := D2) hf)
    have HN := hidden hf
    have hz' : (bnF n N A k1 V1 t1 D1 != 0) = true := by simpa using hf
    generalize bnF n N A k1 V1 t1 D1 = z at *
    clear hf
    obtain ⟨_, q0, q1, q2, f0, f1, f2⟩ := id R.out
    go_wp2
    exact bodyPost_ret (v := .agg #[.int .i64 z, .slice none 0 0, .slice none 0 0]) (by simp [results, Try.results23, go_sem, q0, q1, q2]) rfl ⟨Or.inl ⟨by rw [HA.out]; exact Or.inl HN.out, by rw [HA.out]⟩, ((B.out.setCell (by simp; omega) _).setCell (by simp; omega) _).setCell (by simp; omega) _⟩

end Go.Proofs.Ytenlogljpgdbpaa

/- Contract: ThenBinding, as the model makes it. -/
namespace Go.Proofs.Ytenlogljpgdbpaa
open Go.RowKit Go.Maps

theorem bd_box {w : World} {X B Xb : Nat} {M : Nat → List Int} {va ta x y : Value} (ho : Own2 w X x y) (hs : BySt w B Xb M 12 va ta) (h0 : 0 < cR M) (hX : X < Xb) : Own2 ((w.setCell ⟨X, 0, none⟩ va).setCell ⟨X, 1, none⟩ ta) X va ta ∧ Bd ((w.setCell ⟨X, 0, none⟩ va).setCell ⟨X, 1, none⟩ ta) (X + 1) M va ta := by
  have hl := hs.low
  exact ⟨(ho.set0 va).set1 ta, Or.inr ⟨h0, B, Xb, by omega, (hs.farY ⟨X, 0, none⟩ va (by show X < B; omega) (by show Xb ≠ X; omega)).farY ⟨X, 1, none⟩ ta (by show X < B; omega) (by show Xb ≠ X; omega)⟩⟩

set_option maxRecDepth 20000 in
set_option maxHeartbeats 800000 in
theorem l1Has_any (b off k c : Nat) (V : Nat → Int) (x : Int) (w : World) (h : Ints w b off k V) (hk : k ≤ 12) :
    Calls Try.prog 48 #[.slice (some ⟨b, off, none⟩) k c, .int .i64 x] w fun e w' => e = .returned (.bool (bdI V x k).isSome) ∧ Below w.heap.size w w' := by
  go_enter Try.func48, Try.ntmps48
  go_wp2
  go_loopw [5] (fun i wr => ∃ j : Nat, j ≤ k ∧ i = .int .i64 j ∧ Hid (∀ i, i < j → V i ≠ x) ∧ wr = w) (fun i _ => k - (intOf i).toNat)
  case atStart => exact ⟨0, Nat.zero_le _, rfl, hidden (fun j hj => by omega), rfl⟩
  case round =>
    obtain ⟨j, hj, rfl, HE, rfl⟩ := hrel
    by_cases hlt : j < k
    · have c1 := h.cell j hlt
      by_cases hv : V j = x
      · have HR := hidden (show (bdI V x k).isSome = true from bdI_iff.2 ⟨j, hlt, hv⟩)
        rw [hv] at c1
        clear hv
        go_wp2
        go_ret
        exact ⟨by rw [HR.out]; rfl, Below.refl _ _⟩
      · have HV := hidden hv
        have hv' : (V j == x) = false := by simpa using hv
        clear hv
        go_wp2
        go_roundw
        case rel => exact ⟨j + 1, by omega, by go_num, hidden (fun i hi => by
          by_cases e : i = j
          · rw [e]; exact HV.out
          · exact HE.out i (by omega)), by trivial⟩
        case measure => simp [intOf]; omega
    · have HR := hidden (show (bdI V x k).isSome = false by rw [bdI_none k (fun i hi => HE.out i (by omega))]; rfl)
      go_wp2
      go_ret
      exact ⟨by rw [HR.out]; rfl, Below.refl _ _⟩

theorem pM_len {k2 : Nat} {V1 V2 : Nat → Int} {D1 D2 : LsL} {j : Nat} (h0 : ∀ i, i < j → 0 ≤ V1 i) (hinj : ∀ a b, a < j → b < j → V1 a = V1 b → a = b) (h : ∀ i, i < j → ¬ 24 < (putL (bdN k2 V2 D2) (D1.L i) (D1.m i)).length) (v : Nat) : ((pM V1 D1 (bdN k2 V2 D2) j) v).length ≤ 24 := by
  rw [pM_at j h0 hinj v]
  cases hb : bdI V1 (v : Int) j with
  | some i => have := h i (bdI_some j i hb).1; simp only; omega
  | none => simp

theorem qM_len {k1 k2 : Nat} {V1 V2 : Nat → Int} {D1 D2 : LsL} (h1 : ∀ i, i < k1 → 0 ≤ V1 i) (hinj1 : ∀ a b, a < k1 → b < k1 → V1 a = V1 b → a = b) {j : Nat} (h0 : ∀ i, i < j → 0 ≤ V2 i) (hinj : ∀ a b, a < j → b < j → V2 a = V2 b → a = b) (h : ∀ i, i < k1 → ¬ 24 < (putL (bdN k2 V2 D2) (D1.L i) (D1.m i)).length) (h2 : ∀ i, i < j → D2.m i ≤ 24) (v : Nat) : ((qM k1 V1 D1 k2 V2 D2 j) v).length ≤ 24 := by
  rw [qM_at h1 hinj1 j h0 hinj v]
  cases hb : bdI V1 (v : Int) k1 with
  | some i => have := h i (bdI_some k1 i hb).1; simp only; omega
  | none => exact bdM_len h2 (v : Int)

theorem far2 {w : World} {X : Nat} {u v x : Value} {a : Addr} (h : w.cell? a = some x) (hne : X ≠ a.block) : ((w.setCell ⟨X, 0, none⟩ u).setCell ⟨X, 1, none⟩ v).cell? a = some x := by
  rw [World.cell?_setCell_other _ _ _ _ (fun e => hne (by rw [← e])), World.cell?_setCell_other _ _ _ _ (fun e => hne (by rw [← e]))]; exact h

set_option maxRecDepth 20000 in
set_option maxHeartbeats 25600000 in
theorem specThen_any (b off n c b1 o1 k1 c1 b2 o2 t1 c2 b3 o3 k2 c3 b4 o4 t2 c4 : Nat) (N : Nat → ByteArray) (A V1 V2 : Nat → Int) (D1 D2 : LsL) (w : World) (h : Syms w b off n N A) (h1 : Ints w b1 o1 k1 V1) (h2 : Mats w b2 o2 t1 D1) (h3 : Ints w b3 o3 k2 V2) (h4 : Mats w b4 o4 t2 D2) (hk : Kept n N A) (hm1 : k1 ≤ 1048576) (hk1 : KeptM t1 D1) (hm2 : k2 ≤ 1048576) (hk2 : KeptM t2 D2) :
    Calls Try.prog 21 #[.agg #[.slice (some ⟨b, off, none⟩) n c], .agg #[.slice (some ⟨b1, o1, none⟩) k1 c1, .slice (some ⟨b2, o2, none⟩) t1 c2], .agg #[.slice (some ⟨b3, o3, none⟩) k2 c3, .slice (some ⟨b4, o4, none⟩) t2 c4]] w fun e w' => BnAns w (thC n N A k1 V1 t1 D1 k2 V2 t2 D2) (thnM k1 V1 D1 k2 V2 D2) e w' ∧ Below w.heap.size w w' := by
  have bA := alloc_below w (.cells #[.slice (some ⟨b, off, none⟩) n c] 35)
  have bB := alloc_below (w.alloc (.cells #[.slice (some ⟨b, off, none⟩) n c] 35)) (.cells #[.slice (some ⟨b1, o1, none⟩) k1 c1, .slice (some ⟨b2, o2, none⟩) t1 c2] 29)
  have bC := alloc_below ((w.alloc (.cells #[.slice (some ⟨b, off, none⟩) n c] 35)).alloc (.cells #[.slice (some ⟨b1, o1, none⟩) k1 c1, .slice (some ⟨b2, o2, none⟩) t1 c2] 29)) (.cells #[.slice (some ⟨b3, o3, none⟩) k2 c3, .slice (some ⟨b4, o4, none⟩) t2 c4] 29)
  have bD := alloc_below (((w.alloc (.cells #[.slice (some ⟨b, off, none⟩) n c] 35)).alloc (.cells #[.slice (some ⟨b1, o1, none⟩) k1 c1, .slice (some ⟨b2, o2, none⟩) t1 c2] 29)).alloc (.cells #[.slice (some ⟨b3, o3, none⟩) k2 c3, .slice (some ⟨b4, o4, none⟩) t2 c4] 29)) (.cells #[.int .i64 0, .slice none 0 0, .slice none 0 0] 31)
  have x0 := (((One.new w (.slice (some ⟨b, off, none⟩) n c) 35).keep bB).keep bC).keep bD
  have x1 := ((Two.new (w.alloc (.cells #[.slice (some ⟨b, off, none⟩) n c] 35)) (.slice (some ⟨b1, o1, none⟩) k1 c1) (.slice (some ⟨b2, o2, none⟩) t1 c2) 29).keep bC).keep bD
  have x2 := (Two.new ((w.alloc (.cells #[.slice (some ⟨b, off, none⟩) n c] 35)).alloc (.cells #[.slice (some ⟨b1, o1, none⟩) k1 c1, .slice (some ⟨b2, o2, none⟩) t1 c2] 29)) (.slice (some ⟨b3, o3, none⟩) k2 c3) (.slice (some ⟨b4, o4, none⟩) t2 c4) 29).keep bD
  have r1 := Bn3.new (((w.alloc (.cells #[.slice (some ⟨b, off, none⟩) n c] 35)).alloc (.cells #[.slice (some ⟨b1, o1, none⟩) k1 c1, .slice (some ⟨b2, o2, none⟩) t1 c2] 29)).alloc (.cells #[.slice (some ⟨b3, o3, none⟩) k2 c3, .slice (some ⟨b4, o4, none⟩) t2 c4] 29)) (.int .i64 0) (.slice none 0 0) (.slice none 0 0) 31
  simp only [World.size_alloc] at x1 x2 r1
  have X0 := hidden x0
  have X1 := hidden x1
  have X2 := hidden x2
  have R := hidden r1
  have B := hidden (keepB (keepB (keepB bA bB) bC) bD)
  have Q := hidden (h.keep B.out)
  have I1 := hidden (h1.keep B.out)
  have I2 := hidden (h2.keep B.out)
  have I3 := hidden (h3.keep B.out)
  have I4 := hidden (h4.keep B.out)
  have HK := hidden hk
  have HK1 := hidden hk1
  have HK2 := hidden hk2
  clear bA bB bC bD x0 x1 x2 r1 h h1 h2 h3 h4 hk hk1 hk2
  have z0 := X0.out.c0
  have z1 := X1.out.c0
  have z2 := X1.out.c1
  go_enter Try.func21, Try.ntmps21
  go_wp2_with fail
  with_reducible refine (specBn_any _ _ _ _ _ _ _ _ _ _ _ _ N A V1 D1 _ Q.out I1.out I2.out HK.out hm1 HK1.out).mono ?_
  rintro e w1 ⟨rfl, hb⟩
  replace X0 := hidden (X0.out.keep hb)
  replace X1 := hidden (X1.out.keep hb)
  replace X2 := hidden (X2.out.keep hb)
  replace R := hidden (R.out.keep hb)
  replace Q := hidden (Q.out.keep hb)
  replace I1 := hidden (I1.out.keep hb)
  replace I2 := hidden (I2.out.keep hb)
  replace I3 := hidden (I3.out.keep hb)
  replace I4 := hidden (I4.out.keep hb)
  replace B := hidden (keepB B.out hb)
  clear hb z0 z1 z2
  by_cases hf : bnF n N A k1 V1 t1 D1 = 0
  · have HF := hidden hf
    have HL := hidden (bn_l (m := k2) (V := V2) (t := t2) (D := D2) (bn_sig hf))
    rw [hf]
    clear hf
    go_wp2_with fail
    with_reducible refine (l6Fault_any _ _ _ _ _ _ _ _ _ _ _ _ _ _ N A V2 D2 _ X0.out X2.out Q.out I3.out I4.out (bn_sig HF.out) hm2 HK2.out).mono ?_
    rintro e w2 ⟨rfl, hb⟩
    replace X1 := hidden (X1.out.keep hb)
    replace X2 := hidden (X2.out.keep hb)
    replace R := hidden (R.out.keep hb)
    replace I1 := hidden (I1.out.keep hb)
    replace I2 := hidden (I2.out.keep hb)
    replace I3 := hidden (I3.out.keep hb)
    replace I4 := hidden (I4.out.keep hb)
    replace B := hidden (keepB B.out hb)
    clear hb X0 Q
    by_cases hf2 : bnL n A k2 V2 t2 D2 = 0
    · have HF2 := hidden (HL.out.trans hf2)
      have HC := hidden (thC_3 HF.out HF2.out)
      have SO := hidden (fault_sound (bn_sig HF.out))
      obtain ⟨rfl, bn1⟩ := bn_ok HF.out
      obtain ⟨rfl, bn2⟩ := bn_ok HF2.out
      have J1 := hidden (bn1.isIn SO.out I1.out I2.out)
      have J2 := hidden (bn2.isIn SO.out I3.out I4.out)
      have q1 := bn1.most
      have q2 := bn2.most
      have HP1 := hidden (fun i hi => (bn1.rng i hi).1)
      have HP2 := hidden (fun i hi => (bn2.rng i hi).1)
      rw [hf2]
      clear hf2 bn1 bn2
      have RBL := hidden R.out.blk
      have E9 := hidden (Own2.new w2 (.slice none 0 0) (.slice none 0 0) 29)
      have HB2 := hidden (alloc_below w2 (.cells #[.slice none 0 0, .slice none 0 0] 29))
      have x11 := (X1.out.keep HB2.out).c0
      go_wp2
      clear x11
      go_loopw [10] (fun i wr => ∃ j : Nat, j ≤ k1 ∧ i = .int .i64 (j : Nat) ∧ Hid (∃ va ta, Own2 wr w2.heap.size va ta ∧ Bd wr (w2.heap.size + 1) (pM V1 D1 (bdN k2 V2 D2) j) va ta) ∧ Hid (∀ i, i < j → ¬ 24 < (putL (bdN k2 V2 D2) (D1.L i) (D1.m i)).length) ∧ Hid (Below w2.heap.size w2 wr)) (fun i _ => k1 - (intOf i).toNat)
      case atStart => exact ⟨0, Nat.zero_le _, rfl, hidden ⟨_, _, E9.out, Or.inl ⟨by show cR (fun _ => []) = 0; simp [cR, cnL, flt, hasB], rfl, rfl⟩⟩, hidden (fun i hi => by omega), HB2⟩
      case round =>
        clear E9 HB2
        obtain ⟨j, hj, rfl, HS, HN, HB⟩ := hrel
        have Y1 := hidden (X1.out.keep HB.out)
        have Y2 := hidden (X2.out.keep HB.out)
        have x10 := Y1.out.c0
        by_cases hlt : j < k1
        · obtain ⟨va, ta, ho9, hbd⟩ := HS.out
          have O9 := hidden ho9
          have BD := hidden hbd
          clear HS ho9 hbd
          have x11 := Y1.out.c1
          obtain ⟨g, o, c, e1, i1, _⟩ := (I2.out.keep HB.out).row j hlt
          have IT := hidden i1
          have hlen := J1.out.len j hlt
          have HNO := hidden (J1.out.node j hlt)
          clear i1
          go_wp2_with fail
          with_reducible refine (l6Apply_any (w.heap.size + 1 + 1) b3 o3 k2 c3 b4 o4 c4 g o (D1.m j) c V2 D2 (D1.L j) _ Y2.out (I3.out.keep HB.out) (I4.out.keep HB.out) (by omega) IT.out hlen.2 HNO.out (fun i hi => (J2.out.len i hi).2)).mono ?_
          rintro e w3 ⟨g3, d3, rfl, hol, hb⟩
          replace O9 := hidden (O9.out.keep hb)
          replace BD := hidden (BD.out.keep hb)
          replace HB := hidden (keepB HB.out hb)
          replace Y1 := hidden (Y1.out.keep hb)
          have IL := hidden hol.ownI.ints
          have hpl := (putL_len (M := (bdN k2 V2 D2)) (fun v => bdM_len (fun i hi => (J2.out.len i hi).2) (v : Int)) (D1.L j) (D1.m j)).1
          clear hb hol x10 x11 e1 IT HNO Y2
          by_cases h24 : 24 < (putL (bdN k2 V2 D2) (D1.L j) (D1.m j)).length
          · have HA := hidden (HC.out.trans (bhC_many hlt h24))
            replace R := hidden (R.out.keep HB.out)
            replace B := hidden (keepB B.out HB.out)
            generalize (putL (bdN k2 V2 D2) (D1.L j) (D1.m j)).length = K at *
            have h24' : (24 : Int) < K := by omega
            clear HC O9 BD HB IL h24
            obtain ⟨_, q0, q1, q2, f0, f1, f2⟩ := id R.out
            go_wp2
            exact bodyPost_ret (v := .agg #[.int .i64 2, .slice none 0 0, .slice none 0 0]) (by simp [results, Try.results21, go_sem, q0, q1, q2]) rfl ⟨Or.inl ⟨by rw [HA.out]; exact Or.inl (by decide), by rw [HA.out]⟩, ((B.out.setCell (by simp; omega) _).setCell (by simp; omega) _).setCell (by simp; omega) _⟩
          · obtain ⟨v, hv⟩ : ∃ v : Nat, V1 j = (v : Int) := ⟨(V1 j).toNat, by have := J1.out.low j hlt; omega⟩
            have hv12 : v < 12 := by have := J1.out.low j hlt; omega
            have HPQ := hidden (show updM (pM V1 D1 (bdN k2 V2 D2) j) v (putL (bdN k2 V2 D2) (D1.L j) (D1.m j)) = (pM V1 D1 (bdN k2 V2 D2) (j + 1)) by
              have e : (V1 j).toNat = v := by omega
              simp only [pM]; rw [e])
            have HN1 := hidden (show ∀ i, i < j + 1 → ¬ 24 < (putL (bdN k2 V2 D2) (D1.L i) (D1.m i)).length from fun i hi => by
              by_cases e : i = j
              · rw [e]; exact h24
              · exact HN.out i (by omega))
            have HM0 := hidden (show (pM V1 D1 (bdN k2 V2 D2) j) v = [] by
              rw [pM_at j (fun i hi => HP1.out i (by omega)) (fun a b ha hb => J1.out.inj a b (by omega) (by omega)) v, ← hv, bdI_fresh (fun a b ha hb => J1.out.inj a b (by omega) (by omega))])
            have HTL := hidden (show putL (bdN k2 V2 D2) (D1.L j) (D1.m j) ≠ [] by intro e; rw [e] at hpl; simp at hpl; omega)
            have HLL := hidden (show ∀ x, (updM (pM V1 D1 (bdN k2 V2 D2) j) v (putL (bdN k2 V2 D2) (D1.L j) (D1.m j)) x).length ≤ 24 from by
              rw [HPQ.out]
              exact pM_len (fun i hi => HP1.out i (by omega)) (fun a b ha hb => J1.out.inj a b (by omega) (by omega)) HN1.out)
            obtain ⟨p1, cc1, p2, cc2, rfl, rfl, ha⟩ := BD.out.at
            have S := hidden (l6With_any w2.heap.size p1 cc1 p2 cc2 (pM V1 D1 (bdN k2 V2 D2) j) v g3 0 d3 (putL (bdN k2 V2 D2) (D1.L j) (D1.m j)) w3 O9.out.two ha IL.out hv12 HM0.out HTL.out HLL.out)
            have x10 := Y1.out.c0
            have c1v := (I1.out.keep HB.out).cell j hlt
            rw [hv] at c1v
            have HPOS := hidden (cnU_pos (M := (pM V1 D1 (bdN k2 V2 D2) j)) hv12 HTL.out)
            obtain ⟨K, hK⟩ : ∃ K, K = (putL (bdN k2 V2 D2) (D1.L j) (D1.m j)).length := ⟨_, rfl⟩
            rw [← hK] at S h24 ⊢
            have h24' : ¬ (24 : Int) < K := by omega
            clear ha hK hv h24 hpl IL BD HLL HTL HM0
            go_wp2_with fail
            with_reducible refine S.out.mono ?_
            rintro r1 w4 ⟨va2, ta2, Bq, Xb, rfl, hXb, hs, hb⟩
            have hblk := O9.out.two.blk
            replace O9 := hidden (O9.out.keep hb)
            replace HB := hidden (keepB HB.out hb)
            clear hb S x10 c1v
            obtain ⟨g5, d5, g6, d6, rfl, rfl, -⟩ := hs.done HPOS.out
            have NEW := hidden (bd_box O9.out hs HPOS.out (Nat.lt_of_lt_of_le hblk hXb))
            rw [HPQ.out] at NEW
            rw [HPQ.out]
            clear hs hblk hXb HPOS HPQ
            generalize hq : (cnL (pM V1 D1 (bdN k2 V2 D2) (j + 1)) 12).length = r at *
            have HB5 := hidden ((HB.out.setCell (p := ⟨w2.heap.size, 0, none⟩) (Nat.le_refl _) (.slice (some ⟨g5, 0, none⟩) r d5)).setCell (p := ⟨w2.heap.size, 1, none⟩) (Nat.le_refl _) (.slice (some ⟨g6, 0, none⟩) r d6))
            have q0 := O9.out.two.c0
            have q1' := O9.out.two.c1
            have f0 := O9.out.f0
            have f1 := O9.out.f1
            clear hq O9 HB
            go_wp2
            go_roundw
            case rel => exact ⟨j + 1, by omega, by go_num, hidden ⟨_, _, NEW.out.1, NEW.out.2⟩, HN1, HB5⟩
            case measure => simp [intOf]; omega
        · obtain rfl : k1 = j := by omega
          have HCC := hidden (HC.out.trans (bhC_ok HN.out))
          clear hj hlt Y2
          go_wp2
          clear x10
          go_loopw [12] (fun i wr => ∃ j : Nat, j ≤ k2 ∧ i = .int .i64 (j : Nat) ∧ Hid (∃ va ta, Own2 wr w2.heap.size va ta ∧ Bd wr (w2.heap.size + 1) (qM k1 V1 D1 k2 V2 D2 j) va ta) ∧ Hid (Below w2.heap.size w2 wr)) (fun i _ => k2 - (intOf i).toNat)
          case atStart => exact ⟨0, Nat.zero_le _, rfl, HS, HB⟩
          case round =>
            clear HS HB Y1
            rename World => wq
            obtain ⟨j, hj, rfl, HS, HB⟩ := hrel
            have Y1 := hidden (X1.out.keep HB.out)
            have Y2 := hidden (X2.out.keep HB.out)
            have x20 := Y2.out.c0
            by_cases hlt : j < k2
            · obtain ⟨va, ta, ho9, hbd⟩ := HS.out
              have O9 := hidden ho9
              have BD := hidden hbd
              clear HS ho9 hbd
              obtain ⟨hsb, hhs⟩ : ∃ hsb, hsb = (bdI V1 (V2 j) k1).isSome := ⟨_, rfl⟩
              have HHS := hidden hhs
              have K1 := hidden (show ∀ wc, Below wq.heap.size wq wc → wc.cell? ⟨w.heap.size + 1, 0, none⟩ = some (.slice (some ⟨b1, o1, none⟩) k1 c1) ∧ wc.cell? ⟨w.heap.size + 1 + 1, 0, none⟩ = some (.slice (some ⟨b3, o3, none⟩) k2 c3) ∧ wc.cell? ⟨b3, o3 + j, none⟩ = some (.int .i64 (V2 j)) from fun wc hc => ⟨(Y1.out.keep hc).c0, (Y2.out.keep hc).c0, (I3.out.keep (keepB HB.out hc)).cell j hlt⟩)
              have SH := hidden (show ∀ wc, Below wq.heap.size wq wc → Calls Try.prog 48 #[.slice (some ⟨b1, o1, none⟩) k1 c1, .int .i64 (V2 j)] wc fun e w' => e = .returned (.bool hsb) ∧ Below wq.heap.size wq w' ∧ w'.cell? ⟨w.heap.size + 1, 0, none⟩ = some (.slice (some ⟨b1, o1, none⟩) k1 c1) ∧ w'.cell? ⟨w.heap.size + 1 + 1, 0, none⟩ = some (.slice (some ⟨b3, o3, none⟩) k2 c3) ∧ w'.cell? ⟨b3, o3 + j, none⟩ = some (.int .i64 (V2 j)) from fun wc hc => by
                refine (l1Has_any b1 o1 k1 c1 V1 (V2 j) wc (I1.out.keep (keepB HB.out hc)) q1).mono ?_
                rintro e w' ⟨rfl, hb'⟩
                exact ⟨by rw [hhs], keepB hc hb', K1.out _ (keepB hc hb')⟩)
              obtain ⟨s1, s2, s3⟩ := K1.out wq (Below.refl _ _)
              clear hhs
              go_wp2_with fail
              go_cut [65] (fun t wc => t = .bool (!hsb) ∧ Below wq.heap.size wq wc)
              case first =>
                go_region_held3 (fun wz => wz.cell? ⟨w.heap.size + 1, 0, none⟩ = some (.slice (some ⟨b1, o1, none⟩) k1 c1) ∧ wz.cell? ⟨w.heap.size + 1 + 1, 0, none⟩ = some (.slice (some ⟨b3, o3, none⟩) k2 c3) ∧ wz.cell? ⟨b3, o3 + j, none⟩ = some (.int .i64 (V2 j))) (first | exact ⟨by assumption, by assumption, by assumption⟩ | go_keep) (first | (go_at_call 48; with_reducible refine (SH.out _ ?_).mono ?_; exact (Below.refl _ _).drew; rintro e v1 ⟨rfl, bb1, x11, x12, x13⟩) | fail)
                all_goals (go_wp2_with fail; go_meet)
                all_goals exact ⟨rfl, bb1⟩
              case rest =>
                rename World => wp
                obtain ⟨rfl, hb⟩ := hcut
                replace O9 := hidden (O9.out.keep hb)
                replace BD := hidden (BD.out.keep hb)
                replace HB := hidden (keepB HB.out hb)
                clear hb SH K1 s1 s2 s3 x20 Y1 Y2
                cases hsb with
                | true =>
                  have HQE := hidden (show (qM k1 V1 D1 k2 V2 D2 j) = (qM k1 V1 D1 k2 V2 D2 (j + 1)) by simp only [qM]; rw [if_pos HHS.out.symm])
                  have NEW := hidden (And.intro O9.out BD.out)
                  rw [HQE.out] at NEW
                  clear O9 BD
                  go_wp2
                  go_roundw
                  case rel => exact ⟨j + 1, by omega, by go_num, hidden ⟨_, _, NEW.out.1, NEW.out.2⟩, HB⟩
                  case measure => simp [intOf]; omega
                | false =>
                  obtain ⟨v, hv⟩ : ∃ v : Nat, V2 j = (v : Int) := ⟨(V2 j).toNat, by have := J2.out.low j hlt; omega⟩
                  have hv12 : v < 12 := by have := J2.out.low j hlt; omega
                  have HNO1 : ¬ (bdI V1 (V2 j) k1).isSome = true := by rw [← HHS.out]; simp
                  have HPQ := hidden (show updM (qM k1 V1 D1 k2 V2 D2 j) v (upto (D2.L j) (D2.m j)) = (qM k1 V1 D1 k2 V2 D2 (j + 1)) by
                    have e : (V2 j).toNat = v := by omega
                    simp only [qM]; rw [if_neg HNO1, e])
                  have hlen := J2.out.len j hlt
                  have HM0 := hidden (show (qM k1 V1 D1 k2 V2 D2 j) v = [] by
                    rw [qM_at HP1.out J1.out.inj j (fun i hi => HP2.out i (by omega)) (fun a b ha hb => J2.out.inj a b (by omega) (by omega)) v, ← hv]
                    have h1 : bdI V1 (V2 j) k1 = none := by
                      cases hb : bdI V1 (V2 j) k1 with
                      | some i => rw [hb] at HNO1; exact absurd rfl HNO1
                      | none => rfl
                    rw [h1]
                    exact bdM_none (bdI_fresh (fun a b ha hb => J2.out.inj a b (by omega) (by omega))))
                  have HTL := hidden (show upto (D2.L j) (D2.m j) ≠ [] by intro e; have := congrArg List.length e; rw [upto_length] at this; simp at this; omega)
                  have HLL := hidden (show ∀ x, (updM (qM k1 V1 D1 k2 V2 D2 j) v (upto (D2.L j) (D2.m j)) x).length ≤ 24 from by
                    rw [HPQ.out]
                    exact qM_len HP1.out J1.out.inj (fun i hi => HP2.out i (by omega)) (fun a b ha hb => J2.out.inj a b (by omega) (by omega)) HN.out (fun i hi => (J2.out.len i (by omega)).2))
                  have HPOS := hidden (cnU_pos (M := (qM k1 V1 D1 k2 V2 D2 j)) hv12 HTL.out)
                  obtain ⟨g, o, c, ec, i4, _⟩ := (I4.out.keep HB.out).row j hlt
                  have IT := hidden i4
                  have hb4 := (I4.out.blk (by omega))
                  have hb3 := (I3.out.blk (by omega))
                  have hS2 := X2.out.blk
                  obtain ⟨r, hr⟩ : ∃ r, r = (cnL (qM k1 V1 D1 k2 V2 D2 (j + 1)) 12).length := ⟨_, rfl⟩
                  have HR := hidden hr
                  have hblk := O9.out.two.blk
                  have K2 := hidden (show ∀ wc, Below wp.heap.size wp wc → wc.cell? ⟨w.heap.size + 1 + 1, 0, none⟩ = some (.slice (some ⟨b3, o3, none⟩) k2 c3) ∧ wc.cell? ⟨w.heap.size + 1 + 1, 1, none⟩ = some (.slice (some ⟨b4, o4, none⟩) k2 c4) ∧ wc.cell? ⟨b3, o3 + j, none⟩ = some (.int .i64 (v : Int)) ∧ wc.cell? ⟨b4, o4 + j, none⟩ = some (.slice (some ⟨g, o, none⟩) (D2.m j) c) from fun wc hc => ⟨(X2.out.keep (keepB HB.out hc)).c0, (X2.out.keep (keepB HB.out hc)).c1, by have := (I3.out.keep (keepB HB.out hc)).cell j hlt; rw [hv] at this; exact this, by rw [(bcell hc).1 _ _ (Nat.lt_of_lt_of_le hb4 HB.out.size)]; exact ec⟩)
                  have SW := hidden (show ∀ wc, Below wp.heap.size wp wc → Calls Try.prog 47 #[.pointer (some ⟨w2.heap.size, 0, none⟩), .int .i64 (v : Int), .slice (some ⟨g, o, none⟩) (D2.m j) c] wc fun e w' => ∃ g5 d5 g6 d6, e = .returned (.agg #[.slice (some ⟨g5, 0, none⟩) r d5, .slice (some ⟨g6, 0, none⟩) r d6]) ∧ Hid (Own2 w' w2.heap.size va ta) ∧ Hid (Own2 ((w'.setCell ⟨w2.heap.size, 0, none⟩ (.slice (some ⟨g5, 0, none⟩) r d5)).setCell ⟨w2.heap.size, 1, none⟩ (.slice (some ⟨g6, 0, none⟩) r d6)) w2.heap.size (.slice (some ⟨g5, 0, none⟩) r d5) (.slice (some ⟨g6, 0, none⟩) r d6) ∧ Bd ((w'.setCell ⟨w2.heap.size, 0, none⟩ (.slice (some ⟨g5, 0, none⟩) r d5)).setCell ⟨w2.heap.size, 1, none⟩ (.slice (some ⟨g6, 0, none⟩) r d6)) (w2.heap.size + 1) (qM k1 V1 D1 k2 V2 D2 (j + 1)) (.slice (some ⟨g5, 0, none⟩) r d5) (.slice (some ⟨g6, 0, none⟩) r d6)) ∧ Hid (Below w2.heap.size w2 ((w'.setCell ⟨w2.heap.size, 0, none⟩ (.slice (some ⟨g5, 0, none⟩) r d5)).setCell ⟨w2.heap.size, 1, none⟩ (.slice (some ⟨g6, 0, none⟩) r d6))) ∧ w'.cell? ⟨w.heap.size + 1 + 1, 0, none⟩ = some (.slice (some ⟨b3, o3, none⟩) k2 c3) ∧ w'.cell? ⟨w.heap.size + 1 + 1, 1, none⟩ = some (.slice (some ⟨b4, o4, none⟩) k2 c4) ∧ w'.cell? ⟨b3, o3 + j, none⟩ = some (.int .i64 (v : Int)) ∧ w'.cell? ⟨b4, o4 + j, none⟩ = some (.slice (some ⟨g, o, none⟩) (D2.m j) c) from fun wc hc => by
                    obtain ⟨p1, cc1, p2, cc2, e1, e2, ha⟩ := (BD.out.keep hc).at
                    have ho := O9.out.keep hc
                    have hq := l6With_any w2.heap.size p1 cc1 p2 cc2 (qM k1 V1 D1 k2 V2 D2 j) v g o c (upto (D2.L j) (D2.m j)) wc (by rw [← e1, ← e2]; exact ho.two) ha (by rw [upto_length]; exact (IT.out.keep hc).same (fun i hi => (upto_getD hi).symm)) hv12 HM0.out HTL.out HLL.out
                    rw [upto_length] at hq
                    refine hq.mono ?_
                    rintro r1 w' ⟨va2, ta2, Bq, Xb, rfl, hXb, hs, hb'⟩
                    obtain ⟨g5, d5, g6, d6, rfl, rfl, -⟩ := hs.done HPOS.out
                    have ho' := ho.keep hb'
                    have NEW := bd_box ho' hs HPOS.out (by have := hc.size; omega)
                    rw [HPQ.out, ← HR.out] at NEW
                    rw [HPQ.out, ← HR.out]
                    have hB := keepB HB.out (keepB hc hb')
                    exact ⟨g5, d5, g6, d6, rfl, hidden ho', hidden NEW, hidden ((hB.setCell (Nat.le_refl _) _).setCell (Nat.le_refl _) _), K2.out _ (keepB hc hb')⟩)
                  have hn1 : w2.heap.size ≠ w.heap.size + 1 + 1 := by omega
                  have hn3 : w2.heap.size ≠ b3 := by omega
                  have hn4 : w2.heap.size ≠ b4 := by omega
                  obtain ⟨s1, s2, s3, s4⟩ := K2.out wp (Below.refl _ _)
                  clear hr HR HPOS HLL HTL HM0 HPQ BD IT ec i4 hb4 hb3 hS2 hblk HNO1 hv O9
                  go_upto_region 19 with fail
                  go_region_held3 (fun wz => wz.cell? ⟨w.heap.size + 1 + 1, 0, none⟩ = some (.slice (some ⟨b3, o3, none⟩) k2 c3) ∧ wz.cell? ⟨w.heap.size + 1 + 1, 1, none⟩ = some (.slice (some ⟨b4, o4, none⟩) k2 c4) ∧ wz.cell? ⟨b3, o3 + j, none⟩ = some (.int .i64 (v : Int)) ∧ wz.cell? ⟨b4, o4 + j, none⟩ = some (.slice (some ⟨g, o, none⟩) (D2.m j) c)) (first | exact ⟨by assumption, by assumption, by assumption, by assumption⟩ | exact ⟨far2 (by assumption) hn1, far2 (by assumption) hn1, far2 (by assumption) hn3, far2 (by assumption) hn4⟩ | go_keep) (first | (go_at_call 47; with_reducible refine (SW.out _ ?_).mono ?_; exact (Below.refl _ _).drew; rintro e v1 ⟨g5, d5, g6, d6, rfl, HO5, HN5, HB5, x11, x12, x13, x14⟩; have z0 := HO5.out.two.c0; have z1 := HO5.out.two.c1; have z2 := HO5.out.f0; have z3 := HO5.out.f1) | fail)
                  all_goals go_wp2
                  all_goals go_roundw
                  all_goals first | exact ⟨j + 1, by omega, by go_num, hidden ⟨_, _, HN5.out.1, HN5.out.2⟩, HB5⟩ | (simp [intOf]; omega)
            · obtain rfl : k2 = j := by omega
              have HQE := hidden (qM_end (D1 := D1) (D2 := D2) HP1.out J1.out.inj HP2.out J2.out.inj)
              obtain ⟨va, ta, ho9, hbd⟩ := HS.out
              rw [HQE.out] at hbd
              replace R := hidden (R.out.keep HB.out)
              replace B := hidden (keepB B.out HB.out)
              have t0 := ho9.two.c0
              have t1 := ho9.two.c1
              have hRl := X2.out.blk
              clear HS HQE ho9 J1 J2 I1 I2 I3 I4 HP1 HP2 X1 X2 Y1 Y2 HB HC HN
              rcases hbd with ⟨h0, rfl, rfl⟩ | ⟨hpos, Bb, Xb, hlo, hs⟩
              · have H0 := hidden h0
                clear h0
                obtain ⟨_, q0, q1', q2', f0, f1, f2⟩ := id R.out
                go_wp2
                exact bodyPost_ret (v := .agg #[.int .i64 0, .slice none 0 0, .slice none 0 0]) (by simp [results, Try.results21, go_sem, q0, q1', q2']) rfl ⟨Or.inl ⟨Or.inr H0.out, by rw [HCC.out]⟩, ((B.out.setCell (by simp; omega) _).setCell (by simp; omega) _).setCell (by simp; omega) _⟩
              · have BS := hidden hs
                have HL2 := hidden (And.intro hlo hpos)
                obtain ⟨g1, d1, g2, d2, rfl, rfl, -⟩ := hs.done hpos
                clear hs hlo hpos
                obtain ⟨_, q0, q1', q2', f0, f1, f2⟩ := id R.out
                generalize hq : (cnL (thnM k1 V1 D1 k2 V2 D2) 12).length = q at *
                have HQ := hidden hq
                clear hq
                go_wp2
                have hlow := BS.out.low
                have hlo := HL2.out.1
                have hR3 := RBL.out
                have BF := ((BS.out.farY ⟨w.heap.size + 1 + 1 + 1, 0, none⟩ (.int .i64 0) (by show w.heap.size + 1 + 1 + 1 < _; omega) (by show Xb ≠ w.heap.size + 1 + 1 + 1; omega)).farY ⟨w.heap.size + 1 + 1 + 1, 1, none⟩ (.slice (some ⟨g1, 0, none⟩) q d1) (by show w.heap.size + 1 + 1 + 1 < _; omega) (by show Xb ≠ w.heap.size + 1 + 1 + 1; omega)).farY ⟨w.heap.size + 1 + 1 + 1, 2, none⟩ (.slice (some ⟨g2, 0, none⟩) q d2) (by show w.heap.size + 1 + 1 + 1 < _; omega) (by show Xb ≠ w.heap.size + 1 + 1 + 1; omega)
                obtain ⟨g3, d3, g4, d4, e1, e2, ho⟩ := BF.done HL2.out.2
                rw [HQ.out] at e1 e2
                refine bodyPost_ret (v := .agg #[.int .i64 0, .slice (some ⟨g1, 0, none⟩) q d1, .slice (some ⟨g2, 0, none⟩) q d2]) (by simp [results, Try.results21, go_sem, q0, q1', q2']) rfl ⟨Or.inr ⟨HCC.out, HL2.out.2, Bb, g3, d3, g4, d4, ?_, by omega, ho⟩, ((B.out.setCell (by simp; omega) _).setCell (by simp; omega) _).setCell (by simp; omega) _⟩
                rw [show cR (thnM k1 V1 D1 k2 V2 D2) = q from HQ.out, e1, e2]
    · have HA := hidden (thC_2 HF.out (show bnF n N A k2 V2 t2 D2 ≠ 0 by rw [HL.out]; exact hf2))
      rw [HL.out] at HA
      have HN := hidden hf2
      have hz' : (bnL n A k2 V2 t2 D2 != 0) = true := by simpa using hf2
      generalize bnL n A k2 V2 t2 D2 = z at *
      clear hf2
      obtain ⟨_, q0, q1, q2, f0, f1, f2⟩ := id R.out
      go_wp2
      exact bodyPost_ret (v := .agg #[.int .i64 z, .slice none 0 0, .slice none 0 0]) (by simp [results, Try.results21, go_sem, q0, q1, q2]) rfl ⟨Or.inl ⟨by rw [HA.out]; exact Or.inl HN.out, by rw [HA.out]⟩, ((B.out.setCell (by simp; omega) _).setCell (by simp; omega) _).setCell (by simp; omega) _⟩
  · have HA := hidden (thC_1 (k2 := k2) (V2 := V2) (t2 := t2) (D2 := D2) hf)
    have HN := hidden hf
    have hz' : (bnF n N A k1 V1 t1 D1 != 0) = true := by simpa using hf
    generalize bnF n N A k1 V1 t1 D1 = z at *
    clear hf
    obtain ⟨_, q0, q1, q2, f0, f1, f2⟩ := id R.out
    go_wp2
    exact bodyPost_ret (v := .agg #[.int .i64 z, .slice none 0 0, .slice none 0 0]) (by simp [results, Try.results21, go_sem, q0, q1, q2]) rfl ⟨Or.inl ⟨by rw [HA.out]; exact Or.inl HN.out, by rw [HA.out]⟩, ((B.out.setCell (by simp; omega) _).setCell (by simp; omega) _).setCell (by simp; omega) _⟩

end Go.Proofs.Ytenlogljpgdbpaa

/- Law FnExactThenBinding: what its walks want. -/
namespace Go.Proofs.Ytenlogljpgdbpaa
open Go.RowKit

theorem sumD_le {M : Nat → List Int} (h : ∀ v, (M v).length ≤ 24) : ∀ k, sumM (cnD M 12) k ≤ 24 * k
  | 0 => by simp [sumM]
  | k + 1 => by
    have := sumD_le h k
    have h2 := h ((cnL M 12).getD k 0).toNat
    simp only [sumM, cnD] at this ⊢
    omega

theorem keptD {M : Nat → List Int} (h : ∀ v, (M v).length ≤ 24) : KeptM (cR M) (cnD M 12) :=
  ⟨by have := cR_le M; omega, fun i hi => by have := h ((cnL M 12).getD i 0).toNat; simp only [cnD]; omega⟩

theorem Bn3.set0 {w : World} {b : Nat} {x y z : Value} (h : Bn3 w b x y z) (u : Value) : Bn3 (w.setCell ⟨b, 0, none⟩ u) b u y z :=
  ⟨by simpa using h.blk, World.cell?_setCell_same _ _ _ h.c0, by rw [World.cell?_setCell_other _ _ _ _ (by simp)]; exact h.c1, by rw [World.cell?_setCell_other _ _ _ _ (by simp)]; exact h.c2, by rw [World.frozen?_setCell]; exact h.f0, by rw [World.frozen?_setCell]; exact h.f1, by rw [World.frozen?_setCell]; exact h.f2⟩
theorem Bn3.set1 {w : World} {b : Nat} {x y z : Value} (h : Bn3 w b x y z) (u : Value) : Bn3 (w.setCell ⟨b, 1, none⟩ u) b x u z :=
  ⟨by simpa using h.blk, by rw [World.cell?_setCell_other _ _ _ _ (by simp)]; exact h.c0, World.cell?_setCell_same _ _ _ h.c1, by rw [World.cell?_setCell_other _ _ _ _ (by simp)]; exact h.c2, by rw [World.frozen?_setCell]; exact h.f0, by rw [World.frozen?_setCell]; exact h.f1, by rw [World.frozen?_setCell]; exact h.f2⟩
theorem Bn3.set2 {w : World} {b : Nat} {x y z : Value} (h : Bn3 w b x y z) (u : Value) : Bn3 (w.setCell ⟨b, 2, none⟩ u) b x y u :=
  ⟨by simpa using h.blk, by rw [World.cell?_setCell_other _ _ _ _ (by simp)]; exact h.c0, by rw [World.cell?_setCell_other _ _ _ _ (by simp)]; exact h.c1, World.cell?_setCell_same _ _ _ h.c2, by rw [World.frozen?_setCell]; exact h.f0, by rw [World.frozen?_setCell]; exact h.f1, by rw [World.frozen?_setCell]; exact h.f2⟩
theorem Bn3.two {w : World} {b : Nat} {x y z : Value} (h : Bn3 w b x y z) : Three w b x y z := ⟨h.blk, h.c0, h.c1, h.c2⟩

theorem thC_len {n : Nat} {N : Nat → ByteArray} {A : Nat → Int} {k1 : Nat} {V1 : Nat → Int} {t1 : Nat} {D1 : LsL} {k2 : Nat} {V2 : Nat → Int} {t2 : Nat} {D2 : LsL} (h : thC n N A k1 V1 t1 D1 k2 V2 t2 D2 = 0) : ∀ v, (thnM k1 V1 D1 k2 V2 D2 v).length ≤ 24 := by
  by_cases hf : bnF n N A k1 V1 t1 D1 = 0
  · by_cases hf2 : bnF n N A k2 V2 t2 D2 = 0
    · rw [thC_3 hf hf2] at h
      have SO := fault_sound (bn_sig hf)
      obtain ⟨rfl, bn2⟩ := bn_ok hf2
      have hm : ∀ i, i < k1 → ¬ 24 < (putL (bdN k2 V2 D2) (D1.L i) (D1.m i)).length := fun i hi hh => by rw [bhC_many hi hh] at h; cases h
      exact thn_len hm (fun i hi => (lF_right SO (bn2.trm i hi)).nods.most)
    · rw [thC_2 hf hf2] at h; exact absurd h hf2
  · rw [thC_1 hf] at h; exact absurd h hf


end Go.Proofs.Ytenlogljpgdbpaa
