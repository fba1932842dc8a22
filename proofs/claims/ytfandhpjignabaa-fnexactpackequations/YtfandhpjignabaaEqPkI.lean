/- Contracts: equations as bytes: PackEquations, as the program makes it. -/
import Derived.Test.YtfandhpjignabaaEqPk
import Derived.Deep.RegionHeld3
import Derived.Deep.AppendLies
namespace Go.Proofs.Ytfandhpjignabaa
open Go.RowKit

theorem ownsRow_upon' {w w' : World} {B e n : Nat} {v : Value} {xs : List Value} (h : w.ownsRow B e 1 v n xs) (hb : Below w.heap.size w w') : w'.ownsRow B e 1 v n xs := by
  refine ⟨h.1, h.2.imp id ?_⟩
  rintro ⟨g', cap, cur, h1, h2, h3, h4⟩
  exact ⟨g', cap, cur, h1, h2, by rw [hb.block g' (Array.getElem?_eq_some_iff.1 h3).1]; exact h3, h4⟩

/-- What is known of the pieces in a row. -/
def PEl (w : World) (g q : Nat) (X : Nat → List Int) (xs : List Value) : Prop :=
  ∀ i, i < q → ∃ G e, xs[i]? = some (.slice (some ⟨G, 0, none⟩) (X i).length e) ∧ G ≠ g ∧ OwnR w 0 G (X i).length e ((X i).map (Value.int .u8)) ∧ 0 < (X i).length

theorem PEl.keep {w w' : World} {g q : Nat} {X : Nat → List Int} {xs : List Value} (h : PEl w g q X xs) (hb : Below w.heap.size w w') : PEl w' g q X xs := fun i hi => by
  obtain ⟨G, e, a1, a2, a3, a4⟩ := h i hi
  exact ⟨G, e, a1, a2, OwnR.keep a3 hb, a4⟩

theorem own_row0 {w : World} {B g : Nat} {n d : Nat} {xs : List Value} (h : OwnR w B g n d xs) : OwnR w 0 g n d xs := OwnR.base h (Nat.zero_le _)

theorem PEl.pieces {w : World} {B g q d : Nat} {X : Nat → List Int} {xs : List Value} (h : PEl w g q X xs) (ho : w.ownsRow B 25 1 (.slice (some ⟨g, 0, none⟩) q d) q xs) : ∃ G E, Pieces w g 0 q G E X := by
  have hG : ∀ i, ∃ G e, i < q → (xs[i]? = some (.slice (some ⟨G, 0, none⟩) (X i).length e) ∧ G ≠ g ∧ OwnR w 0 G (X i).length e ((X i).map (Value.int .u8)) ∧ 0 < (X i).length) := fun i => by
    by_cases hi : i < q
    · obtain ⟨G, e, hx⟩ := h i hi; exact ⟨G, e, fun _ => hx⟩
    · exact ⟨0, 0, fun x => absurd x hi⟩
  refine ⟨fun i => (hG i).choose, fun i => (hG i).choose_spec.choose, fun _ => (ho.lt g rfl).2, fun i hi => ?_, fun i hi => ?_, fun i hi j hj => ?_, fun i hi => ?_⟩
  · rw [Nat.zero_add, ho.cellAt _ (by omega)]; exact ((hG i).choose_spec.choose_spec hi).1
  · exact OwnR.lt ((hG i).choose_spec.choose_spec hi).2.2.1
  · have := ((hG i).choose_spec.choose_spec hi).2.2.1
    rw [World.ownsRow.cellAt this j (by omega), List.getElem?_map, List.getElem?_eq_getElem hj]
    simp [List.getD_eq_getElem?_getD, List.getElem?_eq_getElem hj]
  · exact ((hG i).choose_spec.choose_spec hi).2.2.2

theorem PEl.grow {w wa w' : World} {g q g' : Nat} {X : Nat → List Int} {xs : List Value} {a1 e1 a2 e2 m1 m2 : Nat} {l1 l2 : List Int} (h : PEl w g q X xs) (hl : xs.length = q) (hw : Below w.heap.size w wa) (hg : wa.grownBy w' (some g)) (hat : g = g' ∨ g' = wa.heap.size)
    (x1 : X q = l1) (x2 : X (q + 1) = l2) (hm1 : m1 = l1.length) (hm2 : m2 = l2.length) (o1 : OwnR wa 0 a1 m1 e1 (l1.map (Value.int .u8))) (o2 : OwnR wa 0 a2 m2 e2 (l2.map (Value.int .u8))) (n1 : a1 ≠ g) (n2 : a2 ≠ g) (p1 : 0 < l1.length) (p2 : 0 < l2.length) :
    PEl w' g' (q + 2) X (xs ++ [.slice (some ⟨a1, 0, none⟩) m1 e1, .slice (some ⟨a2, 0, none⟩) m2 e2]) := by
  subst hm1 hm2
  have far : ∀ G, G ≠ g → G < wa.heap.size → G ≠ g' := fun G h1 h2 => by rcases hat with e | e <;> omega
  intro i hi
  by_cases h1 : i < q
  · obtain ⟨G, e, b1, b2, b3, b4⟩ := h i h1
    have b5 := OwnR.keep b3 hw
    exact ⟨G, e, by rw [List.getElem?_append_left (by omega)]; exact b1, far G b2 (OwnR.lt b5), OwnR.grown b5 hg b2, b4⟩
  · by_cases h2 : i = q
    · subst h2
      exact ⟨a1, e1, by rw [List.getElem?_append_right (by omega), hl, x1]; simp, far a1 n1 (OwnR.lt o1), by rw [x1]; exact OwnR.grown o1 hg n1, by rw [x1]; exact p1⟩
    · have h3 : i = q + 1 := by omega
      subst h3
      exact ⟨a2, e2, by rw [List.getElem?_append_right (by omega), hl, x2, show q + 1 - q = 1 by omega]; simp, far a2 n2 (OwnR.lt o2), by rw [x2]; exact OwnR.grown o2 hg n2, by rw [x2]; exact p2⟩

set_option maxRecDepth 20000 in
set_option maxHeartbeats 6400000 in
theorem implPkE_any (b off n c b' off' m c' : Nat) (N : Nat → ByteArray) (A : Nat → Int) (D : EqL) (w : World) (h : Syms w b off n N A) (h' : Eqs w b' off' m D) (hk : Kept n N A) (hk' : KeptE m D) :
    Calls Try.prog 27 #[.agg #[.slice (some ⟨b, off, none⟩) n c], .slice (some ⟨b', off', none⟩) m c'] w fun e w' => BytAns w (eqsF n N A m D) (pkAll m D) e w' ∧ Below w.heap.size w w' := by
  have X := hidden ((One.new w (.slice (some ⟨b, off, none⟩) n c) 33).keep (alloc_below _ (.cells #[.int .i64 0, .slice none 0 0] 51)))
  have R := hidden (Res.new (w.alloc (.cells #[.slice (some ⟨b, off, none⟩) n c] 33)) (.int .i64 0) (.slice none 0 0) 51)
  have B := hidden (keepB (alloc_below w (.cells #[.slice (some ⟨b, off, none⟩) n c] 33)) (alloc_below _ (.cells #[.int .i64 0, .slice none 0 0] 51)))
  have Q := hidden (h.keep B.out)
  have I := hidden (h'.keep B.out)
  have HK := hidden hk
  have HK' := hidden hk'
  rw [World.size_alloc] at R
  clear h h' hk hk'
  generalize hL : pkAll m D = L
  have HL := hidden hL
  clear hL
  have x0 := X.out.c0
  go_enter Try.func27, Try.ntmps27
  go_wp2_with fail
  with_reducible refine (implEqs_any _ _ _ _ _ _ _ _ N A D _ Q.out I.out HK.out HK'.out).mono ?_
  rintro e w1 ⟨rfl, hb⟩
  replace R := hidden (R.out.keep hb)
  replace B := hidden (keepB B.out hb)
  replace I := hidden (I.out.keep hb)
  clear hb Q X x0
  by_cases hf : eqsF n N A m D = 0
  · have HF := hidden hf
    have HP := hidden (eqs_pk hf)
    have hm12 := HP.out.few
    rw [hf]
    clear hf
    have a1 : IntKind.u8.wrap (m : Int) = m := by rw [IntKind.wrap_u8']; omega
    have HO := hidden (show ((w1.alloc (.cells #[.int .u8 (m : Int)] 5)).alloc (.cells #[.slice (some ⟨w1.heap.size, 0, none⟩) 1 1] 25)).ownsRow w1.heap.size 25 1 (.slice (some ⟨w1.heap.size + 1, 0, none⟩) 1 1) 1 [.slice (some ⟨w1.heap.size, 0, none⟩) 1 1] from
      ⟨rfl, Or.inr ⟨w1.heap.size + 1, 1, #[.slice (some ⟨w1.heap.size, 0, none⟩) 1 1], rfl, by omega, by have := heap_alloc_new (w1.alloc (.cells #[.int .u8 (m : Int)] 5)) (.cells #[.slice (some ⟨w1.heap.size, 0, none⟩) 1 1] 25); rw [World.size_alloc] at this; exact this, Nat.le_refl _, by unfold maxLen; omega, rfl, rfl⟩⟩)
    have HE0 := hidden (show PEl ((w1.alloc (.cells #[.int .u8 (m : Int)] 5)).alloc (.cells #[.slice (some ⟨w1.heap.size, 0, none⟩) 1 1] 25)) (w1.heap.size + 1) 1 (pcs m (fl2 D)) [.slice (some ⟨w1.heap.size, 0, none⟩) 1 1] from fun i hi => by
      obtain rfl : i = 0 := by omega
      exact ⟨w1.heap.size, 1, rfl, by omega, own_row0 (OwnR.keep (one_own (m : Int) rfl) (alloc_below _ _)), by simp [pcs]⟩)
    go_wp2
    go_loopw [6, 23] (fun o i wr => ∃ k g d q, k ≤ m ∧ i = .int .i64 (k : Nat) ∧ o = .slice (some ⟨g, 0, none⟩) q d ∧ q = 1 + k * 2 ∧ Hid (∃ xs, wr.ownsRow w1.heap.size 25 1 (.slice (some ⟨g, 0, none⟩) q d) q xs ∧ PEl wr g q (pcs m (fl2 D)) xs) ∧ Hid (Below w1.heap.size w1 wr)) (fun _ i _ => m - (intOf i).toNat)
    case atStart => exact ⟨0, _, _, 1, Nat.zero_le _, rfl, rfl, rfl, hidden ⟨_, HO.out, HE0.out⟩, hidden (keepB (alloc_below _ _) (alloc_below _ _))⟩
    case round =>
      clear HO HE0 a1
      obtain ⟨k, g, d, q, hk, rfl, rfl, hq, HS, HB⟩ := hrel
      have HQ := hidden hq
      have hq25 : q ≤ 25 := by omega
      clear hq
      by_cases hlt : k < m
      · obtain ⟨g1, o1, c1, g2, o2, c2, e1, e2, i1, i2⟩ := I.out.row k hlt
        obtain ⟨xs, hox, hex⟩ := HS.out
        have hblk := I.out.blk (by omega)
        have hbx := alloc_below wr (.cells #[.slice (some ⟨g1, o1, none⟩) (D.m1 k) c1, .slice (some ⟨g2, o2, none⟩) (D.m2 k) c2] 79)
        have BX := hidden (Two.new wr (.slice (some ⟨g1, o1, none⟩) (D.m1 k) c1) (.slice (some ⟨g2, o2, none⟩) (D.m2 k) c2) 79)
        have y1 := ((bcell HB.out).1 b' (off' + k * 2) hblk).trans e1
        have y2 := ((bcell HB.out).1 b' (off' + k * 2 + 1) hblk).trans e2
        clear e1 e2
        go_wp2_with fail
        obtain ⟨wb, hwb⟩ : ∃ wb, wb = wr.alloc (.cells #[.slice (some ⟨g1, o1, none⟩) (D.m1 k) c1, .slice (some ⟨g2, o2, none⟩) (D.m2 k) c2] 79) := ⟨_, rfl⟩
        rw [← hwb] at hbx BX ⊢
        clear hwb y1 y2
        have BBW := hidden (keepB HB.out hbx)
        have HOX := hidden (ownsRow_upon' hox hbx)
        have HXL := hidden hox.1
        have HEX := hidden (hex.keep hbx)
        have GL := hidden (World.ownsRow.lt hox g rfl).2
        have SZ := hidden hbx.size
        have J1 := hidden (i1.keep BBW.out)
        have J2 := hidden (i2.keep BBW.out)
        have P1 := hidden (HP.out.m1 k hlt)
        have P2 := hidden (HP.out.m2 k hlt)
        have L1 := hidden (HP.out.L1 k hlt)
        have L2 := hidden (HP.out.L2 k hlt)
        have hp1 := P1.out
        have hp2 := P2.out
        clear i1 i2 hox hex hbx HS
        have CK := hidden (show ∀ w', Below wb.heap.size wb w' → (w'.cell? ⟨wr.heap.size, 0, none⟩ = some (.slice (some ⟨g1, o1, none⟩) (D.m1 k) c1) ∧ w'.cell? ⟨wr.heap.size, 1, none⟩ = some (.slice (some ⟨g2, o2, none⟩) (D.m2 k) c2)) from fun w' hb => ⟨(BX.out.keep hb).c0, (BX.out.keep hb).c1⟩)
        have S1 := hidden (show ∀ wc, Below wb.heap.size wb wc → Calls Try.prog 57 #[.slice (some ⟨g1, o1, none⟩) (D.m1 k) c1] wc fun e w' => ∃ g d, e = .returned (.slice (some ⟨g, 0, none⟩) (D.m1 k) d) ∧ wb.heap.size ≤ g ∧ OwnR w' wc.heap.size g (D.m1 k) d (packV (D.L1 k) (D.m1 k)) ∧ Below wb.heap.size wb w' ∧ Below wc.heap.size wc w' from fun wc hc => by
          refine (packNodes_any _ _ _ _ (D.L1 k) _ (J1.out.keep hc) P1.out.2 L1.out).mono ?_
          rintro e w' ⟨g, d, rfl, hg, ho, hb⟩
          exact ⟨g, d, rfl, Nat.le_trans hc.size hg, ho, keepB hc hb, hb⟩)
        have S2 := hidden (show ∀ wc, Below wb.heap.size wb wc → Calls Try.prog 57 #[.slice (some ⟨g2, o2, none⟩) (D.m2 k) c2] wc fun e w' => ∃ g d, e = .returned (.slice (some ⟨g, 0, none⟩) (D.m2 k) d) ∧ wb.heap.size ≤ g ∧ OwnR w' wc.heap.size g (D.m2 k) d (packV (D.L2 k) (D.m2 k)) ∧ Below wb.heap.size wb w' ∧ Below wc.heap.size wc w' from fun wc hc => by
          refine (packNodes_any _ _ _ _ (D.L2 k) _ (J2.out.keep hc) P2.out.2 L2.out).mono ?_
          rintro e w' ⟨g, d, rfl, hg, ho, hb⟩
          exact ⟨g, d, rfl, Nat.le_trans hc.size hg, ho, keepB hc hb, hb⟩)
        have HPX := hidden (show ∀ a1 e1 a2 e2 (v1 v2 v6 : World) g6 d6, wb.heap.size ≤ a1 → OwnR v1 wb.drew.heap.size a1 (D.m1 k) e1 (packV (D.L1 k) (D.m1 k)) → Below wb.heap.size wb v1 → Below wb.drew.heap.size wb.drew v1 → wb.heap.size ≤ a2 → OwnR v2 v1.heap.size a2 (D.m2 k) e2 (packV (D.L2 k) (D.m2 k)) → Below wb.heap.size wb v2 → Below v1.heap.size v1 v2 →
            v6.ownsRow w1.heap.size 25 1 (.slice (some ⟨g6, 0, none⟩) (q + 2) d6) (q + 2) (xs ++ [.slice (some ⟨a1, 0, none⟩) (D.m1 k) e1, .slice (some ⟨a2, 0, none⟩) (D.m2 k) e2]) → (v2.alloc (.cells #[.slice (some ⟨a1, 0, none⟩) (D.m1 k) e1, .slice (some ⟨a2, 0, none⟩) (D.m2 k) e2] 25)).grownBy v6 (some g) → (g = g6 ∨ g6 = v2.heap.size + 1) →
            Hid (∃ xs, v6.ownsRow w1.heap.size 25 1 (.slice (some ⟨g6, 0, none⟩) (q + 2) d6) (q + 2) xs ∧ PEl v6 g6 (q + 2) (pcs m (fl2 D)) xs) ∧ (Below w1.heap.size w1 v6 ∧ (v6.cell? ⟨wr.heap.size, 0, none⟩ = some (.slice (some ⟨g1, o1, none⟩) (D.m1 k) c1) ∧ v6.cell? ⟨wr.heap.size, 1, none⟩ = some (.slice (some ⟨g2, o2, none⟩) (D.m2 k) c2))) from
            fun a1 e1 a2 e2 v1 v2 v6 g6 d6 ha1 oa1 ba1 _ ha2 oa2 ba2 hb2 hown hgrow hat => by
          have gl := GL.out
          have hba := alloc_below v2 (.cells #[.slice (some ⟨a1, 0, none⟩) (D.m1 k) e1, .slice (some ⟨a2, 0, none⟩) (D.m2 k) e2] 25)
          have gb : w1.heap.size ≤ g := (World.ownsRow.lt HOX.out g rfl).1
          have bb := (keepB (keepB BBW.out ba2) hba).grown hgrow (keepB (keepB BBW.out ba2) hba).size (by intro x hx; cases hx; exact gb)
          have sz := SZ.out
          refine ⟨hidden ⟨_, hown, HEX.out.grow (by have := HXL.out; omega) (keepB ba2 hba) hgrow (by simpa using hat) (by rw [HQ.out]; exact pcs_left m D k) (by rw [HQ.out]; exact pcs_right m D k) (packT_len _ _).symm (packT_len _ _).symm (own_row0 (OwnR.keep (OwnR.keep oa1 hb2) hba)) (own_row0 (OwnR.keep oa2 hba)) (by omega) (by omega) (by rw [packT_len]; exact P1.out.1) (by rw [packT_len]; exact P2.out.1)⟩, bb, ?_⟩
          have ck := CK.out _ (keepB ba2 hba)
          have blk := Nat.lt_of_lt_of_le BX.out.blk (keepB ba2 hba).size
          exact ⟨(World.grownBy.cell_far hgrow ⟨wr.heap.size, 0, none⟩ blk (by simp; omega)).trans ck.1, (World.grownBy.cell_far hgrow ⟨wr.heap.size, 1, none⟩ blk (by simp; omega)).trans ck.2⟩)
        have x0 := BX.out.c0
        have x1 := BX.out.c1
        refine wp_region_held_drew (S := fun wz => wz.cell? ⟨wr.heap.size, 0, none⟩ = some (.slice (some ⟨g1, o1, none⟩) (D.m1 k) c1) ∧ wz.cell? ⟨wr.heap.size, 1, none⟩ = some (.slice (some ⟨g2, o2, none⟩) (D.m2 k) c2)) (by kernel_rfl) ⟨x0, x1⟩ (fun hHeld => ?_)
        refine wpAnyH_take (i := 0) (oi := { dst := some 27, op := Op.move (Operand.tmp 6), type := 88, pos := "l05_pack.go:168", after := #[], guard := none }) (v := ?_) rfl (by kernel_rfl) (by kernel_rfl) (by kernel_rfl) (fun _ _ _ h => h) (Or.inl ⟨by rfl, ?_⟩) (by assumption) ?_
        rotate_left
        · (intro wv hSw; (try dsimp only at hSw); go_simp; try with_reducible rfl)
        try simp only [Act.put, List.setIfInBounds_toArray, List.set_cons_zero, List.set_cons_succ]
        refine wpAnyH_take (i := 1) (oi := { dst := some 28, op := Op.fieldAddr 79 (Operand.tmp 8) 0, type := 0, pos := "l05_pack.go:168", after := #[], guard := none }) (v := ?_) rfl (by kernel_rfl) (by kernel_rfl) (by kernel_rfl) (fun _ _ _ h => h) (Or.inl ⟨by rfl, ?_⟩) (by assumption) ?_
        rotate_left
        · (intro wv hSw; (try dsimp only at hSw); go_simp; try with_reducible rfl)
        try simp only [Act.put, List.setIfInBounds_toArray, List.set_cons_zero, List.set_cons_succ]
        refine wpAnyH_take (i := 2) (oi := { dst := some 29, op := Op.load 27 (Operand.tmp 28), type := 27, pos := "l05_pack.go:168", after := #[{ on := 1, ground := Ground.data }], guard := none }) (v := ?_) rfl (by kernel_rfl) (by kernel_rfl) (by kernel_rfl) (fun _ _ _ h => h) (Or.inl ⟨by rfl, ?_⟩) (by assumption) ?_
        rotate_left
        · (intro wv hSw; (try dsimp only at hSw); go_simp; try with_reducible rfl)
        try simp only [Act.put, List.setIfInBounds_toArray, List.set_cons_zero, List.set_cons_succ]
        refine wpAnyH_take (i := 4) (oi := { dst := some 31, op := Op.fieldAddr 79 (Operand.tmp 8) 1, type := 0, pos := "l05_pack.go:168", after := #[], guard := none }) (v := ?_) rfl (by kernel_rfl) (by kernel_rfl) (by kernel_rfl) (fun _ _ _ h => h) (Or.inl ⟨by rfl, ?_⟩) (by assumption) ?_
        rotate_left
        · (intro wv hSw; (try dsimp only at hSw); go_simp; try with_reducible rfl)
        try simp only [Act.put, List.setIfInBounds_toArray, List.set_cons_zero, List.set_cons_succ]
        refine wpAnyH_take (i := 5) (oi := { dst := some 32, op := Op.load 27 (Operand.tmp 31), type := 27, pos := "l05_pack.go:168", after := #[{ on := 4, ground := Ground.data }], guard := none }) (v := ?_) rfl (by kernel_rfl) (by kernel_rfl) (by kernel_rfl) (fun _ _ _ h => h) (Or.inl ⟨by rfl, ?_⟩) (by assumption) ?_
        rotate_left
        · (intro wv hSw; (try dsimp only at hSw); go_simp; try with_reducible rfl)
        try simp only [Act.put, List.setIfInBounds_toArray, List.set_cons_zero, List.set_cons_succ]
        refine wpAnyH_ready (rs := [3]) (by kernel_rfl) (by simp) ?_
        refine AllReadyH.cons (o := { dst := some 30, op := Op.call { callee := Callee.value (Operand.func 57), args := #[Operand.tmp 29], argTypes := #[27] }, type := 25, pos := "l05_pack.go:168", after := #[{ on := 2, ground := Ground.data }], guard := none }) rfl (fun K hK => ?_) AllReadyH.nil
        go_simp
        go_at_call 57; with_reducible refine (S1.out _ (Below.refl _ _).drew).mono ?_; rintro e v1 ⟨a1, e1, rfl, ha1, oa1, ba1, hb1⟩
        try go_wp2_with fail
        refine hK.out _ _ ?_ (fun hHeld => ?_)
        · exact CK.out _ ba1
        clear hK K
        try simp only [Act.put, List.setIfInBounds_toArray, List.set_cons_zero, List.set_cons_succ]
        refine wpAnyH_ready (rs := [6]) (by kernel_rfl) (by simp) ?_
        refine AllReadyH.cons (o := { dst := some 33, op := Op.call { callee := Callee.value (Operand.func 57), args := #[Operand.tmp 32], argTypes := #[27] }, type := 25, pos := "l05_pack.go:168", after := #[{ on := 5, ground := Ground.data }, { on := 3, ground := Ground.chain }], guard := none }) rfl (fun K hK => ?_) AllReadyH.nil
        go_simp
        go_at_call 57; with_reducible refine (S2.out _ ba1).mono ?_; rintro e v2 ⟨a2, e2, rfl, ha2, oa2, ba2, hb2⟩
        try go_wp2_with fail
        refine hK.out _ _ ?_ (fun hHeld => ?_)
        · exact CK.out _ ba2
        clear hK K
        try simp only [Act.put, List.setIfInBounds_toArray, List.set_cons_zero, List.set_cons_succ]
        refine wpAnyH_ready (rs := [7]) (by kernel_rfl) (by simp) ?_
        refine AllReadyH.cons (o := { dst := some 34, op := Op.buildSlice 88 2 #[(0, Operand.tmp 30), (1, Operand.tmp 33)], type := 88, pos := "l05_pack.go:168", after := #[{ on := 3, ground := Ground.data }, { on := 6, ground := Ground.data }], guard := none }) rfl (fun K hK => ?_) AllReadyH.nil
        go_simp
        refine hK.out _ _ ?_ (fun hHeld => ?_)
        · exact CK.out _ (keepB ba2 (alloc_below _ _))
        clear hK K
        try simp only [Act.put, List.setIfInBounds_toArray, List.set_cons_zero, List.set_cons_succ]
        refine wpAnyH_ready (rs := [8]) (by kernel_rfl) (by simp) ?_
        refine AllReadyH.cons (o := { dst := some 35, op := Op.call { callee := Callee.builtin Builtin.append, args := #[Operand.tmp 27, Operand.tmp 34], argTypes := #[88, 88] }, type := 88, pos := "l05_pack.go:168", after := #[{ on := 0, ground := Ground.data }, { on := 7, ground := Ground.data }, { on := 6, ground := Ground.chain }], guard := none }) rfl (fun K hK => ?_) AllReadyH.nil
        refine step_append_lies _ rfl _ _ 88 rfl w1.heap.size 25 _ (.slice none 0 0) 1 24 Try.underlying88 rfl rfl rfl rfl rfl (by decide) (.slice (some ⟨g, 0, none⟩) q d) q xs rfl ((ownsRow_upon' HOX.out ba2).alloc _) ⟨v2.heap.size, 0, none⟩ 2 2 [.slice (some ⟨a1, 0, none⟩) (D.m1 k) e1, .slice (some ⟨a2, 0, none⟩) (D.m2 k) e2] rfl rfl (World.news_of_block (cs := #[.slice (some ⟨a1, 0, none⟩) (D.m1 k) e1, .slice (some ⟨a2, 0, none⟩) (D.m2 k) e2]) (t := 25) (fr := (0, 0)) (heap_alloc_new v2 _)) (by simp [Value.oneCell']) (by omega) (by unfold maxLen; omega) (by omega) (by have := BBW.out.size; have := ba2.size; simp; omega) (v2.heap.size + 1) (by simp) ?_
        intro g6 d6 v6 hown hgrow hwh hlt6
        have hgr := HPX.out a1 e1 a2 e2 v1 v2 v6 g6 d6 ha1 oa1 ba1 hb1 ha2 oa2 ba2 hb2 hown hgrow (by simpa [Value.ownBlock] using hwh)
        refine hK.out _ _ ?_ (fun hHeld => ?_)
        · exact hgr.2.2
        clear hK K
        try simp only [Act.put, List.setIfInBounds_toArray, List.set_cons_zero, List.set_cons_succ]
        refine wpAnyH_take (i := 9) (oi := { dst := some 6, op := Op.assign (Operand.tmp 35), type := 88, pos := "l05_pack.go:168", after := #[{ on := 8, ground := Ground.data }, { on := 8, ground := Ground.chain }, { on := 0, ground := Ground.phase }, { on := 1, ground := Ground.phase }, { on := 2, ground := Ground.phase }, { on := 3, ground := Ground.phase }, { on := 4, ground := Ground.phase }, { on := 5, ground := Ground.phase }, { on := 6, ground := Ground.phase }, { on := 7, ground := Ground.phase }, { on := 8, ground := Ground.phase }], guard := none }) (v := ?_) rfl (by kernel_rfl) (by kernel_rfl) (by kernel_rfl) (fun _ _ _ h => h) (Or.inl ⟨by rfl, ?_⟩) (by assumption) ?_
        rotate_left
        · (intro wv hSw; (try dsimp only at hSw); go_simp; try with_reducible rfl)
        try simp only [Act.put, List.setIfInBounds_toArray, List.set_cons_zero, List.set_cons_succ]
        refine wpAnyH_done (by kernel_rfl) ?_ _
        have HG1 := hgr.1
        have HG2 := hidden hgr.2.1
        clear hgr hown hgrow hwh hlt6 oa1 oa2 ba1 ba2 hb1 hb2 ha1 ha2 hHeld x0 x1
        go_wp2
        go_roundw
        case rel => exact ⟨k + 1, g6, d6, q + 2, by omega, by go_num, rfl, by have := HQ.out; omega, HG1, HG2⟩
        case measure => simp [intOf]; omega
      · obtain rfl : m = k := by omega
        obtain ⟨xs, hox, hex⟩ := HS.out
        obtain ⟨G, E, hpc⟩ := hex.pieces hox
        have HLQ := hidden (show joinTo (pcs m (fl2 D)) q = L by rw [HQ.out]; exact HL.out)
        have HLN := hidden (show L.length ≤ 1048576 by
          have := (pk_len HP.out m (Nat.le_refl _)).1
          rw [← HQ.out, HLQ.out] at this
          omega)
        have SJ := hidden (joinBytes_any g 0 q d G E (pcs m (fl2 D)) wr hpc (by omega) (by rw [HLQ.out]; exact HLN.out))
        rw [HLQ.out] at SJ
        clear hpc hox hex HS
        go_wp2_with fail
        with_reducible refine SJ.out.mono ?_
        rintro r w3 ⟨g3, rfl, hgg, ho, hb⟩
        have O := hidden ho
        have R2 := hidden (R.out.keep HB.out)
        have RB := hidden (Nat.lt_of_lt_of_le R2.out.blk hgg)
        have R3 := hidden (R2.out.keep hb)
        have B3 := hidden (keepB B.out (keepB HB.out hb))
        clear hb ho hgg SJ R R2
        obtain ⟨K, hK⟩ : ∃ K, K = L.length := ⟨_, rfl⟩
        have HKK := hidden hK
        rw [← hK] at O ⊢
        clear hK
        obtain ⟨_, q0, q1, f0, f1⟩ := id R3.out
        go_wp2
        have rb := RB.out
        exact bodyPost_ret (v := .agg #[.int .i64 0, .slice (some ⟨g3, 0, none⟩) K K]) (by simp [results, Try.results27, go_sem, q0, q1]) rfl ⟨Or.inr ⟨HF.out, g3, K, by rw [HKK.out], by omega, by
          rw [← HKK.out]; exact ((O.out.other _ _ (by show g3 ≠ w.heap.size + 1; omega)).other _ _ (by show g3 ≠ w.heap.size + 1; omega)).base (by omega)⟩, (B3.out.setCell (by simp) _).setCell (by simp) _⟩
  · have HN := hidden hf
    have hf' : (eqsF n N A m D != 0) = true := by simpa using hf
    generalize hz : eqsF n N A m D = z at hf' HN ⊢
    have HZ := hidden hz
    clear hz
    clear hf
    obtain ⟨_, q0, q1, f0, f1⟩ := id R.out
    go_wp2
    exact bodyPost_ret (v := .agg #[.int .i64 z, .slice none 0 0]) (by simp [results, Try.results27, go_sem, q0, q1]) rfl ⟨Or.inl ⟨by rw [HZ.out]; exact HN.out, by rw [HZ.out]⟩, (B.out.setCell (by simp) _).setCell (by simp) _⟩

end Go.Proofs.Ytfandhpjignabaa
