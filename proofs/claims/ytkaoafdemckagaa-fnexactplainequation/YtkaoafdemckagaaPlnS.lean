/- Contracts: PlainEquation, as the model answers it. -/
import Derived.Test.YtkaoafdemckagaaPlnK
import Derived.Deep.AppendLies
namespace Go.Proofs.Ytkaoafdemckagaa
open Go.RowKit

theorem ownL_open2 {w1 : World} {B : Nat} {v' : Value} {l : List Int} {k : Nat} {xs : List Value} (h : w1.ownsRow B 2 1 v' k xs) (hk : k = l.length) (hx : xs = l.map (fun x => Value.int .i64 x)) (hnil : ¬ v' = .slice none 0 0) : ∃ g d, v' = .slice (some ⟨g, 0, none⟩) l.length d ∧ OwnL w1 B g d l := by
  subst hk hx
  rcases h.2 with ⟨hv, _⟩ | ⟨g, d, cur, hv, hg, _⟩
  · exact absurd hv hnil
  · subst hv; exact ⟨g, d, rfl, hg, h⟩

set_option maxRecDepth 20000 in
set_option maxHeartbeats 6400000 in
theorem l4Plain_any (E n b1 o1 m1 c1 b2 o2 m2 c2 : Nat) (A L1 L2 : Nat → Int) (w : World) (he : Two w E (.slice (some ⟨b1, o1, none⟩) m1 c1) (.slice (some ⟨b2, o2, none⟩) m2 c2)) (h1 : Ints w b1 o1 m1 L1) (h2 : Ints w b2 o2 m2 L2) (t1 : Trm n A m1 L1) (t2 : Trm n A m2 L2) :
    Calls Try.prog 51 #[.pointer (some ⟨E, 0, none⟩)] w fun e w' => ((6 < (eqV m1 L1 m2 L2).length ∧ e = .returned (.tuple #[.agg #[.slice none 0 0, .slice none 0 0], .bool false])) ∨
      (¬ 6 < (eqV m1 L1 m2 L2).length ∧ ∃ g1 d1 g2 d2, e = .returned (.tuple #[.agg #[.slice (some ⟨g1, 0, none⟩) m1 d1, .slice (some ⟨g2, 0, none⟩) m2 d2], .bool true]) ∧ w.heap.size ≤ g1 ∧ g1 < g2 ∧ OwnI w' w.heap.size g1 m1 d1 (fun i => rn (eqV m1 L1 m2 L2) (L1 i)) m1 ∧ OwnI w' w.heap.size g2 m2 d2 (fun i => rn (eqV m1 L1 m2 L2) (L2 i)) m2)) ∧ Below w.heap.size w w' := by
  have X := hidden (he.keep (alloc_below w (.cells #[.slice none 0 0, .slice none 0 0] 43)))
  have I1 := hidden (h1.keep (alloc_below w (.cells #[.slice none 0 0, .slice none 0 0] 43)))
  have I2 := hidden (h2.keep (alloc_below w (.cells #[.slice none 0 0, .slice none 0 0] 43)))
  have R := hidden (Own2.new w (.slice none 0 0) (.slice none 0 0) 43)
  have T1 := hidden t1
  have T2 := hidden t2
  have hm1 := t1.nods.most
  have hm2 := t2.nods.most
  have hp1 := t1.pos
  have hp2 := t2.pos
  have CK := hidden (show ∀ w', Below (w.heap.size + 1) (w.alloc (.cells #[.slice none 0 0, .slice none 0 0] 43)) w' → (w'.cell? ⟨E, 0, none⟩ = some (.slice (some ⟨b1, o1, none⟩) m1 c1) ∧ w'.cell? ⟨E, 1, none⟩ = some (.slice (some ⟨b2, o2, none⟩) m2 c2)) from fun w' hb => ⟨(X.out.keep (by simpa using hb)).c0, (X.out.keep (by simpa using hb)).c1⟩)
  have S1 := hidden (show ∀ wc, Below (w.heap.size + 1) (w.alloc (.cells #[.slice none 0 0, .slice none 0 0] 43)) wc → Calls Try.prog 78 #[.slice (some ⟨b1, o1, none⟩) m1 c1] wc fun e w' => ∃ g d, e = .returned (.slice (some ⟨g, 0, none⟩) m1 d) ∧ w.heap.size + 1 ≤ g ∧ Hid (w'.ownsRow w.heap.size 2 1 (.slice (some ⟨g, 0, none⟩) m1 d) m1 (valsI L1 m1)) ∧ Hid (Ints w' b2 o2 m2 L2) ∧ Below (w.heap.size + 1) (w.alloc (.cells #[.slice none 0 0, .slice none 0 0] 43)) w' ∧ (w'.cell? ⟨E, 0, none⟩ = some (.slice (some ⟨b1, o1, none⟩) m1 c1) ∧ w'.cell? ⟨E, 1, none⟩ = some (.slice (some ⟨b2, o2, none⟩) m2 c2)) from fun wc hc => by
    have hc' : Below (w.alloc (.cells #[.slice none 0 0, .slice none 0 0] 43)).heap.size (w.alloc (.cells #[.slice none 0 0, .slice none 0 0] 43)) wc := by simpa using hc
    refine (l1Ints_any _ _ _ _ L1 _ (I1.out.keep hc') (by omega)).mono ?_
    rintro e w' ⟨g, d, rfl, hg, ho, hb⟩
    have hsz := hc.size
    simp at hsz
    have hb2 := keepB hc' hb
    exact ⟨g, d, rfl, by omega, hidden (ho.base (by omega : w.heap.size ≤ g)).vals, hidden (I2.out.keep hb2), by simpa using hb2, CK.out _ (by simpa using hb2)⟩)
  have x0 := X.out.c0
  have x1 := X.out.c1
  clear he h1 h2 t1 t2
  go_enter Try.func51, Try.ntmps51
  go_wp2_with fail
  go_cut [4] (fun t wc => ∃ g d, t = .slice (some ⟨g, 0, none⟩) (m1 + m2) d ∧ w.heap.size + 1 ≤ g ∧ Hid (wc.ownsRow w.heap.size 2 1 (.slice (some ⟨g, 0, none⟩) (m1 + m2) d) (m1 + m2) (valsI (both m1 L1 L2) (m1 + m2)) ∧ Below (w.heap.size + 1) (w.alloc (.cells #[.slice none 0 0, .slice none 0 0] 43)) wc))
  case first =>
    refine wp_region_held_drew (S := fun wz => wz.cell? ⟨E, 0, none⟩ = some (.slice (some ⟨b1, o1, none⟩) m1 c1) ∧ wz.cell? ⟨E, 1, none⟩ = some (.slice (some ⟨b2, o2, none⟩) m2 c2)) (by kernel_rfl) ⟨x0, x1⟩ (fun hHeld => ?_)
    refine wpAnyH_take (i := 0) (oi := { dst := some 9, op := Op.move (Operand.tmp 0), type := 72, pos := "l04_text.go:162", after := #[], guard := none }) (v := ?_) rfl (by kernel_rfl) (by kernel_rfl) (by kernel_rfl) (fun _ _ _ h => h) (Or.inl ⟨by rfl, ?_⟩) (by assumption) ?_
    rotate_left
    · (intro wv hSw; (try dsimp only at hSw); go_simp; try with_reducible rfl)
    try simp only [Act.put, List.setIfInBounds_toArray, List.set_cons_zero, List.set_cons_succ]
    refine wpAnyH_take (i := 1) (oi := { dst := some 10, op := Op.nilCheck (Operand.tmp 9), type := 0, pos := "l04_text.go:162", after := #[{ on := 0, ground := Ground.data }], guard := none }) (v := ?_) rfl (by kernel_rfl) (by kernel_rfl) (by kernel_rfl) (fun _ _ _ h => h) (Or.inl ⟨by rfl, ?_⟩) (by assumption) ?_
    rotate_left
    · (intro wv hSw; (try dsimp only at hSw); go_simp; try with_reducible rfl)
    try simp only [Act.put, List.setIfInBounds_toArray, List.set_cons_zero, List.set_cons_succ]
    refine wpAnyH_take (i := 2) (oi := { dst := some 11, op := Op.fieldAddr 43 (Operand.tmp 10) 0, type := 0, pos := "l04_text.go:162", after := #[{ on := 1, ground := Ground.data }], guard := none }) (v := ?_) rfl (by kernel_rfl) (by kernel_rfl) (by kernel_rfl) (fun _ _ _ h => h) (Or.inl ⟨by rfl, ?_⟩) (by assumption) ?_
    rotate_left
    · (intro wv hSw; (try dsimp only at hSw); go_simp; try with_reducible rfl)
    try simp only [Act.put, List.setIfInBounds_toArray, List.set_cons_zero, List.set_cons_succ]
    refine wpAnyH_take (i := 3) (oi := { dst := some 12, op := Op.load 25 (Operand.tmp 11), type := 25, pos := "l04_text.go:162", after := #[{ on := 2, ground := Ground.data }], guard := none }) (v := ?_) rfl (by kernel_rfl) (by kernel_rfl) (by kernel_rfl) (fun _ _ _ h => h) (Or.inl ⟨by rfl, ?_⟩) (by assumption) ?_
    rotate_left
    · (intro wv hSw; (try dsimp only at hSw); go_simp; try with_reducible rfl)
    try simp only [Act.put, List.setIfInBounds_toArray, List.set_cons_zero, List.set_cons_succ]
    refine wpAnyH_take (i := 5) (oi := { dst := some 14, op := Op.move (Operand.tmp 0), type := 72, pos := "l04_text.go:162", after := #[], guard := none }) (v := ?_) rfl (by kernel_rfl) (by kernel_rfl) (by kernel_rfl) (fun _ _ _ h => h) (Or.inl ⟨by rfl, ?_⟩) (by assumption) ?_
    rotate_left
    · (intro wv hSw; (try dsimp only at hSw); go_simp; try with_reducible rfl)
    try simp only [Act.put, List.setIfInBounds_toArray, List.set_cons_zero, List.set_cons_succ]
    refine wpAnyH_take (i := 6) (oi := { dst := some 15, op := Op.nilCheck (Operand.tmp 14), type := 0, pos := "l04_text.go:162", after := #[{ on := 5, ground := Ground.data }], guard := none }) (v := ?_) rfl (by kernel_rfl) (by kernel_rfl) (by kernel_rfl) (fun _ _ _ h => h) (Or.inl ⟨by rfl, ?_⟩) (by assumption) ?_
    rotate_left
    · (intro wv hSw; (try dsimp only at hSw); go_simp; try with_reducible rfl)
    try simp only [Act.put, List.setIfInBounds_toArray, List.set_cons_zero, List.set_cons_succ]
    refine wpAnyH_take (i := 7) (oi := { dst := some 16, op := Op.fieldAddr 43 (Operand.tmp 15) 1, type := 0, pos := "l04_text.go:162", after := #[{ on := 6, ground := Ground.data }], guard := none }) (v := ?_) rfl (by kernel_rfl) (by kernel_rfl) (by kernel_rfl) (fun _ _ _ h => h) (Or.inl ⟨by rfl, ?_⟩) (by assumption) ?_
    rotate_left
    · (intro wv hSw; (try dsimp only at hSw); go_simp; try with_reducible rfl)
    try simp only [Act.put, List.setIfInBounds_toArray, List.set_cons_zero, List.set_cons_succ]
    refine wpAnyH_take (i := 8) (oi := { dst := some 17, op := Op.load 25 (Operand.tmp 16), type := 25, pos := "l04_text.go:162", after := #[{ on := 7, ground := Ground.data }], guard := none }) (v := ?_) rfl (by kernel_rfl) (by kernel_rfl) (by kernel_rfl) (fun _ _ _ h => h) (Or.inl ⟨by rfl, ?_⟩) (by assumption) ?_
    rotate_left
    · (intro wv hSw; (try dsimp only at hSw); go_simp; try with_reducible rfl)
    try simp only [Act.put, List.setIfInBounds_toArray, List.set_cons_zero, List.set_cons_succ]
    refine wpAnyH_ready (rs := [4]) (by kernel_rfl) (by simp) ?_
    refine AllReadyH.cons (o := { dst := some 13, op := Op.call { callee := Callee.value (Operand.func 78), args := #[Operand.tmp 12], argTypes := #[25] }, type := 25, pos := "l04_text.go:162", after := #[{ on := 3, ground := Ground.data }], guard := none }) rfl (fun K hK => ?_) AllReadyH.nil
    go_simp
    go_at_call 78; with_reducible refine (S1.out _ ?_).mono ?_; exact (Below.refl _ _).drew; rintro e v5 ⟨g5, d5, rfl, hg5, o5, i5, b5, y5⟩
    try go_wp2_with fail
    refine hK.out _ _ ?_ (fun hHeld => ?_)
    · exact y5
    clear hK K
    try simp only [Act.put, List.setIfInBounds_toArray, List.set_cons_zero, List.set_cons_succ]
    refine wpAnyH_ready (rs := [9]) (by kernel_rfl) (by simp) ?_
    refine AllReadyH.cons (o := { dst := some 18, op := Op.call { callee := Callee.builtin Builtin.append, args := #[Operand.tmp 13, Operand.tmp 17], argTypes := #[25, 25] }, type := 25, pos := "l04_text.go:162", after := #[{ on := 4, ground := Ground.data }, { on := 8, ground := Ground.data }, { on := 4, ground := Ground.chain }], guard := none }) rfl (fun K hK => ?_) AllReadyH.nil
    refine step_append_lies _ rfl _ _ 25 rfl w.heap.size 2 _ (.int .i64 0) 1 8 Try.underlying25 rfl rfl rfl rfl rfl (by decide) (.slice (some ⟨g5, 0, none⟩) m1 d5) m1 (valsI L1 m1) rfl o5.out ⟨b2, o2, none⟩ m2 c2 (valsI L2 m2) rfl (by simp [valsI]) i5.out.src0 (intNews _ _) hp2 (by unfold maxLen; omega) (by omega) (Nat.le_trans (by simp) b5.size) _ rfl ?_
    intro g6 d6 v6 hown hgrow hwh hlt6
    have hge : w.heap.size + 1 ≤ g6 := by
      rcases hwh with e | e
      · have e' : g5 = g6 := by simpa [Value.ownBlock] using e
        omega
      · have := b5.size; simp at this; omega
    have hjj : ∀ j, (Value.slice (some ⟨g5, 0, none⟩) m1 d5).ownBlock = some j → w.heap.size + 1 ≤ j := fun j hj => by
      have e' : g5 = j := by simpa [Value.ownBlock] using hj
      omega
    have b6 : Below (w.heap.size + 1) (w.alloc (.cells #[.slice none 0 0, .slice none 0 0] 43)) v6 := b5.grown hgrow (by have := b5.size; simp at this ⊢; omega) hjj
    refine hK.out _ _ ?_ (fun hHeld => ?_)
    · exact CK.out _ b6
    clear hK K
    try simp only [Act.put, List.setIfInBounds_toArray, List.set_cons_zero, List.set_cons_succ]
    refine wpAnyH_take (i := 10) (oi := { dst := some 4, op := Op.assign (Operand.tmp 18), type := 25, pos := "l04_text.go:162", after := #[{ on := 9, ground := Ground.data }, { on := 9, ground := Ground.chain }, { on := 0, ground := Ground.phase }, { on := 1, ground := Ground.phase }, { on := 2, ground := Ground.phase }, { on := 3, ground := Ground.phase }, { on := 4, ground := Ground.phase }, { on := 5, ground := Ground.phase }, { on := 6, ground := Ground.phase }, { on := 7, ground := Ground.phase }, { on := 8, ground := Ground.phase }, { on := 9, ground := Ground.phase }], guard := none }) (v := ?_) rfl (by kernel_rfl) (by kernel_rfl) (by kernel_rfl) (fun _ _ _ h => h) (Or.inl ⟨by rfl, ?_⟩) (by assumption) ?_
    rotate_left
    · (intro wv hSw; (try dsimp only at hSw); go_simp; try with_reducible rfl)
    try simp only [Act.put, List.setIfInBounds_toArray, List.set_cons_zero, List.set_cons_succ]
    refine wpAnyH_done (by kernel_rfl) ?_ _
    go_wp2_with fail
    go_meet
    rw [both_vals] at hown
    exact ⟨g6, d6, rfl, hge, hidden ⟨hown, b6⟩⟩
  case rest =>
    rename World => w1
    obtain ⟨g, d, rfl, hge, HOB⟩ := hcut
    have HO := hidden (row_own HOB.out.1)
    have HB := hidden HOB.out.2
    have hgl := HO.out.lt
    have HN := hidden (both_node T1.out.nods T2.out.nods)
    clear HOB x0 x1 S1
    obtain ⟨L, hL⟩ : ∃ L, both m1 L1 L2 = L := ⟨_, rfl⟩
    obtain ⟨M, hM⟩ : ∃ M, m1 + m2 = M := ⟨_, rfl⟩
    have HEV := hidden (show eqV m1 L1 m2 L2 = pv L M by rw [← hL, ← hM]; rfl)
    have hM48 : M ≤ 48 := by omega
    rw [hL, hM] at HO HN
    have EL := hidden hL
    have EM := hidden hM
    rw [hM]
    clear hL hM
    have HL0 := hidden (show OwnL (w1.alloc (.cells #[] 2)) w1.heap.size w1.heap.size 0 ([] : List Int) from ⟨Nat.le_refl _, World.ownsRow_made w1 #[] 0 (Nat.le_refl _) (Nat.zero_le _) rfl⟩)
    have HO0 := hidden (HO.out.keep (alloc_below w1 (.cells #[] 2)))
    have HB0 := hidden (show Below (w.heap.size + 1) (w.alloc (.cells #[.slice none 0 0, .slice none 0 0] 43)) (w1.alloc (.cells #[] 2)) from HB.out.alloc (by have := HB.out.size; simp at this; omega) _)
    go_wp2
    go_loopw [5, 6] (fun v i wr => ∃ k g' d', k ≤ M ∧ i = .int .i64 k ∧ v = .slice (some ⟨g', 0, none⟩) (pv L k).length d' ∧ Hid (OwnL wr w1.heap.size g' d' (pv L k)) ∧ Hid (OwnI wr w.heap.size g M d (fun i => if i < k then rn (pv L M) (L i) else L i) M) ∧ Hid (Below (w.heap.size + 1) (w.alloc (.cells #[.slice none 0 0, .slice none 0 0] 43)) wr)) (fun _ i _ => M - (intOf i).toNat)
    case atStart => exact ⟨0, w1.heap.size, 0, Nat.zero_le _, rfl, rfl, HL0, hidden (HO0.out.congr (fun i _ => by simp)), HB0⟩
    case round =>
      clear HL0 HO0 HB0 HO HB
      obtain ⟨k, g', d', hk, rfl, rfl, HV, HO, HB⟩ := hrel
      have hpl := pv_length L k
      have hgb := HV.out.base
      by_cases hlt : k < M
      · have c1 := HO.out.ints.cell k hlt
        simp only [Nat.lt_irrefl, if_false, Nat.zero_add] at c1
        by_cases h0 : 0 ≤ L k
        · have HE := hidden (pv_pos h0)
          have HR := hidden (show rn (pv L M) (L k) = L k from rn_pos h0)
          go_wp2
          go_roundw
          case rel => exact ⟨k + 1, g', d', by omega, by go_num, by rw [HE.out], hidden (by rw [HE.out]; exact HV.out), hidden (HO.out.congr (fun i _ => by
            by_cases e1 : i < k
            · rw [if_pos e1, if_pos (by omega)]
            · by_cases e2 : i = k
              · rw [if_neg e1, if_pos (by omega), e2, HR.out]
              · rw [if_neg e1, if_neg (by omega)])), HB⟩
          case measure => simp [intOf]; omega
        · have hneg : L k < 0 := by omega
          have h0' : decide (0 ≤ L k) = false := by simpa using h0
          have hfit : -12 ≤ L k := by
            rcases nodeB_cases (HN.out k hlt) with ⟨j, e, _⟩ | hv <;> omega
          by_cases hmem : L k ∈ pv L k
          · have HE := hidden (pv_old hmem)
            have HR := hidden (show rn (pv L M) (L k) = -1 - (ixL (pv L k) (L k) : Int) by rw [rn_var hneg, idx_more hlt hneg, pv_old hmem])
            have HRK := hidden (rk_list hmem)
            have hil := ixL_lt hmem
            clear hmem h0
            go_wp2_with fail
            with_reducible refine (l2Rank_any _ _ _ _ _ (L k) _ HV.out.ownI.ints (by omega)).mono ?_
            rintro e w2 ⟨rfl, hb⟩
            rw [HRK.out]
            replace HV := hidden (HV.out.keep hb)
            replace HO := hidden (HO.out.keep hb)
            have HBs := hidden HB.out.size
            replace HB := hidden (HB.out.trans (hb.mono (by have := HBs.out; simp at this; omega)))
            clear hb HRK
            generalize ixL (pv L k) (L k) = q at *
            have c2 := HO.out.ints.cell k hlt
            obtain ⟨⟨u0, p0⟩, f0, o2, g2⟩ := HO.out.set hlt (-1 - (q : Int))
            have O2 := hidden o2
            have V2 := hidden (show OwnL (w2.setCell ⟨g, k, none⟩ (.int .i64 (-1 - (q : Int)))) w1.heap.size g' d' (pv L k) from ⟨HV.out.base, HV.out.own.kept g2 (.inr (by simp [Value.ownBlock]; omega))⟩)
            have B2 := hidden (HB.out.grown g2 (by have := HB.out.size; simp at this; omega) (fun j hj => by cases hj; exact hge))
            clear o2 g2 HO HV HB c1 c2
            go_wp2
            go_roundw
            case rel => exact ⟨k + 1, g', d', by omega, by go_num, by rw [HE.out], hidden (by rw [HE.out]; exact V2.out), hidden (O2.out.congr (fun i _ => by
              by_cases e2 : i = k
              · rw [if_pos e2, if_pos (by omega), e2, HR.out]
              · rw [if_neg e2]
                by_cases e1 : i < k
                · rw [if_pos e1, if_pos (by omega)]
                · rw [if_neg e1, if_neg (by omega)])), B2⟩
            case measure => simp [intOf]; omega
          · have HE := hidden (pv_new hneg hmem)
            have HR := hidden (show rn (pv L M) (L k) = -1 - ((pv L k).length : Int) by rw [rn_var hneg, idx_more hlt hneg, idx_new hneg hmem])
            have HRK := hidden (rk_list_none hmem)
            clear hmem h0
            go_wp2_with fail
            with_reducible refine (l2Rank_any _ _ _ _ _ (L k) _ HV.out.ownI.ints (by omega)).mono ?_
            rintro e w2 ⟨rfl, hb⟩
            rw [HRK.out]
            replace HV := hidden (HV.out.keep hb)
            replace HO := hidden (HO.out.keep hb)
            have HBs := hidden HB.out.size
            replace HB := hidden (HB.out.trans (hb.mono (by have := HBs.out; simp at this; omega)))
            clear hb HRK
            have c2 := HO.out.ints.cell k hlt
            simp only [Nat.lt_irrefl, if_false, Nat.zero_add] at c2
            have O1 := hidden HV.out.own
            have W1 := hidden (show w1.heap.size ≤ w2.heap.size from Nat.le_trans HV.out.base (Nat.le_of_lt HV.out.lt))
            have HBz := hidden (show w.heap.size + 1 ≤ w2.heap.size by have := HB.out.size; simpa using this)
            clear HV c1
            generalize hx : L k = x at *
            have HX := hidden hx
            generalize hl : pv L k = l at *
            have HLL := hidden hl
            clear hx hl
            go_wp2_with (first | (at_builtin; refine wpList_append_own _ rfl _ _ 25 rfl w1.heap.size 2 _ (.int .i64 0) 1 8 Try.underlying25 rfl rfl rfl rfl rfl (by decide) _ _ _ rfl (O1.out.alloc _) ⟨w2.heap.size, 0, none⟩ 1 1 [.int .i64 x] rfl rfl (one_srcI _ _ _) (oneValI _) (by unfold maxLen; omega) (by omega) (by have := W1.out; simp; omega) ?_) | go_in)
            intro v' w4 hown hgrow hnil
            obtain ⟨g2, d2, rfl, V2⟩ := ownL_open2 (l := l ++ [x]) hown (by simp) (by simp) (by simpa using hnil)
            have hjk : ∀ j, (Value.slice (some ⟨g', 0, none⟩) l.length d').ownBlock = some j → w.heap.size + 1 ≤ j := fun j hj => by
              have e' : g' = j := by simpa [Value.ownBlock] using hj
              omega
            have O2 := hidden ((HO.out.keep (alloc_below w2 (.cells #[.int .i64 x] 2))).grown hgrow (by show g ≠ g'; omega))
            have B2 := hidden ((HB.out.alloc HBz.out (.cells #[.int .i64 x] 2)).grown hgrow (by have := HBz.out; simp; omega) hjk)
            have V3 := hidden V2
            have hg2 := V2.base
            clear hown hgrow hnil O1 V2 HO HB c2
            obtain ⟨⟨u0, p0⟩, f0, o2, g3⟩ := O2.out.set hlt (-1 - (l.length : Int))
            have O4 := hidden o2
            have V4 := hidden (show OwnL (w4.setCell ⟨g, k, none⟩ (.int .i64 (-1 - (l.length : Int)))) w1.heap.size g2 d2 (l ++ [x]) from ⟨V3.out.base, V3.out.own.kept g3 (.inr (by simp [Value.ownBlock]; omega))⟩)
            have B4 := hidden (B2.out.grown g3 (by have := B2.out.size; simp at this; omega) (fun j hj => by cases hj; exact hge))
            clear o2 g3 O2 V3 B2
            go_wp2
            go_roundw
            case rel => exact ⟨k + 1, g2, d2, by omega, by go_num, by rw [HE.out], hidden (by rw [HE.out]; exact V4.out), hidden (O4.out.congr (fun i _ => by
              by_cases e2 : i = k
              · rw [if_pos e2, if_pos (by omega), e2, HX.out, HR.out]
              · rw [if_neg e2]
                by_cases e1 : i < k
                · rw [if_pos e1, if_pos (by omega)]
                · rw [if_neg e1, if_neg (by omega)])), B4⟩
            case measure => simp [intOf]; omega
      · obtain rfl : k = M := by omega
        have HOM := hidden (HO.out.congr (M := fun i => rn (pv L k) (L i)) (fun i hi => by rw [if_pos hi]))
        have RR := hidden (R.out.keep (by simpa using HB.out))
        have XX := hidden (X.out.keep (by simpa using HB.out))
        have BW := hidden (show Below w.heap.size w wr from (alloc_below w _).trans (HB.out.mono (by omega)))
        obtain ⟨⟨_, q0, q1⟩, f0, f1⟩ := id RR.out
        by_cases h6 : 6 < (pv L k).length
        · have h6' : (6 : Int) < (pv L k).length := by omega
          have HR6 := hidden (show 6 < (eqV m1 L1 m2 L2).length by rw [HEV.out]; exact h6)
          clear h6
          generalize (pv L k).length = V at *
          go_wp2
          exact bodyPost_ret (v := .tuple #[.agg #[.slice none 0 0, .slice none 0 0], .bool false]) (by simp [results, Try.results51, go_sem, q0, q1]) rfl ⟨.inl ⟨HR6.out, rfl⟩, (BW.out.setCell (by simp) _).setCell (by simp) _⟩
        · have h6' : ¬ (6 : Int) < (pv L k).length := by omega
          have HR6 := hidden (show ¬ 6 < (eqV m1 L1 m2 L2).length by rw [HEV.out]; exact h6)
          clear h6
          generalize (pv L k).length = V at *
          have x0 := XX.out.c0
          have hem := EM.out
          subst hem
          have hkd : m1 + m2 ≤ d := by
            obtain ⟨xs, ho, _⟩ := HOM.out
            rcases ho.2 with ⟨e, _⟩ | ⟨g9, cap, cur, e, _, _, h3, _⟩
            · cases e
            · simp at e; rw [e.2]; exact h3
          have hgs := HOM.out.lt
          have EV := hidden (show pv L (m1 + m2) = eqV m1 L1 m2 L2 from HEV.out.symm)
          have U1 := hidden (show ∀ i, i < m1 → L i = L1 i from fun i hi => by rw [← EL.out]; unfold both; rw [if_pos hi])
          have U2 := hidden (show ∀ i, i < m2 → L (m1 + i) = L2 i from fun i hi => by rw [← EL.out]; unfold both; rw [if_neg (by omega)]; congr 1; omega)
          have S1 := hidden (show ∀ wc, Below wr.heap.size wr wc → Calls Try.prog 78 #[.slice (some ⟨g, 0, none⟩) m1 d] wc fun e w' => ∃ g1 d1, e = .returned (.slice (some ⟨g1, 0, none⟩) m1 d1) ∧ wr.heap.size ≤ g1 ∧ Hid (OwnI w' wr.heap.size g1 m1 d1 (fun i => rn (eqV m1 L1 m2 L2) (L1 i)) m1) ∧ Below wr.heap.size wr w' from fun wc hc => by
            have hp := (HOM.out.ints.keep hc).part (q := 0) (k := m1) (by omega)
            refine (l1Ints_any g 0 m1 d _ _ hp (by omega)).mono ?_
            rintro e w' ⟨g1, d1, rfl, hg, ho, hb⟩
            exact ⟨g1, d1, rfl, Nat.le_trans hc.size hg, hidden ((ho.base (Nat.le_trans hc.size hg)).congr (fun i hi => by rw [EV.out, Nat.zero_add, U1.out i hi])), keepB hc hb⟩)
          have S2 := hidden (show ∀ wc g1 d1, Below wr.heap.size wr wc → Hid (OwnI wc wr.heap.size g1 m1 d1 (fun i => rn (eqV m1 L1 m2 L2) (L1 i)) m1) → Calls Try.prog 78 #[.slice (some ⟨g, m1, none⟩) m2 (d - m1)] wc fun e w' => ∃ g2 d2, e = .returned (.slice (some ⟨g2, 0, none⟩) m2 d2) ∧ Hid (g1 < g2 ∧ OwnI w' wr.heap.size g1 m1 d1 (fun i => rn (eqV m1 L1 m2 L2) (L1 i)) m1 ∧ OwnI w' wr.heap.size g2 m2 d2 (fun i => rn (eqV m1 L1 m2 L2) (L2 i)) m2) ∧ Below wr.heap.size wr w' ∧ Own2 w' w.heap.size (.slice none 0 0) (.slice none 0 0) from fun wc g1 d1 hc ho1 => by
            have hp := (HOM.out.ints.keep hc).part (q := m1) (k := m2) (by omega)
            rw [Nat.zero_add] at hp
            refine (l1Ints_any g m1 m2 (d - m1) _ _ hp (by omega)).mono ?_
            rintro e w' ⟨g2, d2, rfl, hg, ho, hb⟩
            exact ⟨g2, d2, rfl, hidden ⟨Nat.lt_of_lt_of_le ho1.out.lt hg, ho1.out.keep hb, (ho.base (Nat.le_trans hc.size hg)).congr (fun i hi => by rw [EV.out, U2.out i hi])⟩, keepB hc hb, RR.out.keep (keepB hc hb)⟩)
          have i1 : (0 : Int) ≤ m1 := by omega
          have i2 : (m1 : Int) ≤ ((m1 + m2 : Nat) : Int) := by omega
          have i3 : ((m1 + m2 : Nat) : Int) ≤ d := by omega
          have i4 : (m1 : Int) ≤ d := by omega
          have HWS := hidden (Nat.lt_of_lt_of_le RR.out.two.blk (Nat.le_refl _))
          go_wp2_with fail
          go_region_with (first
            | (go_at_call 78; with_reducible refine (S1.out _ ?_).mono ?_; exact (Below.refl _ _).drew; rintro e v5 ⟨g5', d5', rfl, hg5, o5', b5'⟩)
            | (go_at_call 78; with_reducible refine (S2.out _ _ _ b5' o5').mono ?_; rintro e v6 ⟨g6', d6', rfl, o6', b6', ⟨⟨_, z0, z1⟩, z2, z3⟩⟩))
          all_goals go_wp2
          all_goals (
            obtain ⟨l5, o5, o6⟩ := o6'.out
            have r2 := BW.out.size
            have r3 := HWS.out
            refine bodyPost_ret (v := .tuple #[.agg #[.slice (some ⟨g5', 0, none⟩) m1 d5', .slice (some ⟨g6', 0, none⟩) m2 d6'], .bool true]) (by simp [results, Try.results51, go_sem, z0, z1]) rfl ⟨.inr ⟨HR6.out, g5', d5', g6', d6', rfl, by omega, l5, ?_, ?_⟩, ?_⟩
            · exact ((o5.other _ _ (by show g5' ≠ w.heap.size; omega)).other _ _ (by show g5' ≠ w.heap.size; omega)).base (by omega)
            · exact ((o6.other _ _ (by show g6' ≠ w.heap.size; omega)).other _ _ (by show g6' ≠ w.heap.size; omega)).base (by omega)
            · exact ((keepB BW.out b6').setCell (by simp) _).setCell (by simp) _)

end Go.Proofs.Ytkaoafdemckagaa
