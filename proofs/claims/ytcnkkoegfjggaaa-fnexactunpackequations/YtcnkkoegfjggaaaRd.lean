/- Contracts: terms out of bytes: the node of a byte, the model's l5Read. -/
import Derived.Test.YtcnkkoegfjggaaaPkT
import Derived.Test.YtcnkkoegfjggaaaLaw5Kit
namespace Go.Proofs.Ytcnkkoegfjggaaa
open Go.RowKit

/-- The node of a byte, and whether there is one. -/
def nodV (x : Int) : Int := if x < 32 then x - 1 else 31 - x
def okN (x : Int) (n : Nat) : Bool := if x < 32 then inB (x - 1) n else varB (31 - x)

theorem okN_node {x : Int} {n : Nat} (h : okN x n = true) : nodeB (nodV x) n = true := by
  unfold okN at h
  unfold nodV nodeB
  by_cases hx : x < 32
  · rw [if_pos hx] at h ⊢; rw [h]; rfl
  · rw [if_neg hx] at h ⊢; rw [h]; simp

/-- Bytes in memory. -/
structure Byts (w : World) (p : Option Addr) (m : Nat) (l : Nat → Int) : Prop where
  row : m = 0 ∨ ∃ b off, p = some ⟨b, off, none⟩ ∧ b < w.heap.size ∧ ∀ i, i < m → w.cell? ⟨b, off + i, none⟩ = some (.int .u8 (l i))
  byt : ∀ i, i < m → 0 ≤ l i ∧ l i ≤ 255

theorem Byts.keep {w w' : World} {p : Option Addr} {m : Nat} {l : Nat → Int} (h : Byts w p m l) (hb : Below w.heap.size w w') : Byts w' p m l :=
  ⟨h.row.imp id fun ⟨b, off, hp, h1, h2⟩ => ⟨b, off, hp, Nat.lt_of_lt_of_le h1 hb.size, fun i hi => by rw [hb.cell (p := ⟨b, off + i, none⟩) h1]; exact h2 i hi⟩, h.byt⟩

theorem Byt.Row.byts {w : World} {b off n : Nat} {l : List Int} (h : Byt.Row w b off n l) : Byts w (some ⟨b, off, none⟩) n (fun i => l.getD i 0) :=
  ⟨Or.inr ⟨b, off, rfl, h.blk, h.cell⟩, fun i _ => h.byt i⟩

set_option maxRecDepth 20000 in
set_option maxHeartbeats 800000 in
theorem l5Node_any (B : Nat) (p : Option Addr) (n c : Nat) (x : Int) (w : World) (h : One w B (.slice p n c)) (hn : n ≤ 1048576) (hx : 0 ≤ x ∧ x ≤ 255) :
    Calls Try.prog 69 #[.pointer (some ⟨B, 0, none⟩), .int .u8 x] w fun e w' => e = .returned (.tuple #[.int .i64 (nodV x), .bool (okN x n)]) ∧ Below w.heap.size w w' := by
  by_cases h1 : x < 32
  · have HV := hidden (show nodV x = x - 1 by rw [nodV, if_pos h1])
    have HO := hidden (show okN x n = inB (x - 1) n by rw [okN, if_pos h1])
    go_enter Try.func69, Try.ntmps69
    go_wp2_with fail
    with_reducible refine (l2Symbol_any _ _ _ _ _ _ h hn).mono ?_
    rintro e w1 ⟨rfl, hb⟩
    go_wp2
    go_ret2
    exact ⟨by rw [HV.out, HO.out]; rfl, hb⟩
  · have HV := hidden (show nodV x = 31 - x by rw [nodV, if_neg h1])
    have HO := hidden (show okN x n = nodeB (31 - x) n by
      rw [okN, if_neg h1, nodeB]
      have : inB (31 - x) n = false := by simp [inB]; omega
      rw [this, Bool.false_or])
    go_enter Try.func69, Try.ntmps69
    go_wp2_with fail
    with_reducible refine (l3Node_any _ _ _ _ _ _ h hn).mono ?_
    rintro e w1 ⟨rfl, hb⟩
    go_wp2
    go_ret2
    exact ⟨by rw [HV.out, HO.out]; rfl, hb⟩

set_option maxRecDepth 20000 in
set_option maxHeartbeats 800000 in
theorem nodeOf_any (p : Option Addr) (n c : Nat) (x : Int) (w : World) (hx : 0 ≤ x ∧ x ≤ 255) :
    Calls Try.prog 87 #[.agg #[.slice p n c], .int .u8 x] w fun e w' => e = .returned (.tuple #[.int .i64 (nodV x), .bool (okN x n)]) ∧ Below w.heap.size w w' := by
  have D := hidden (One.new w (.slice p n c) 32)
  have B := hidden (alloc_below w (.cells #[.slice p n c] 32))
  by_cases h1 : x < 32
  · have HV := hidden (show nodV x = x - 1 by rw [nodV, if_pos h1])
    have HO := hidden (show okN x n = inB (x - 1) n by rw [okN, if_pos h1])
    have h2 : ¬ 32 ≤ x := by omega
    go_enter Try.func87, Try.ntmps87
    go_wp2_with fail
    with_reducible refine (isSymbol_any _ _ _ _ _).mono ?_
    rintro e w1 ⟨rfl, hb⟩
    replace B := hidden (keepB B.out hb)
    clear hb
    go_wp2
    go_ret2
    exact ⟨by rw [HV.out, HO.out]; rfl, B.out⟩
  · have HV := hidden (show nodV x = -1 - (x - 32) by rw [nodV, if_neg h1]; omega)
    have HO := hidden (show okN x n = varB (-1 - (x - 32)) by rw [okN, if_neg h1]; congr 1; omega)
    have h2 : 32 ≤ x := by omega
    go_enter Try.func87, Try.ntmps87
    go_wp2_with fail
    with_reducible refine (variableOfB_any _ _ (by omega)).mono ?_
    rintro e w1 ⟨rfl, hb⟩
    replace B := hidden (keepB B.out hb)
    clear hb
    go_wp2_with fail
    with_reducible refine (isVariable_any _ _).mono ?_
    rintro e w2 ⟨rfl, hb⟩
    replace B := hidden (keepB B.out hb)
    clear hb
    go_wp2
    go_ret2
    exact ⟨by rw [HV.out, HO.out]; rfl, B.out⟩

/-- The nodes of bytes. -/
def nodT (l : Nat → Int) (i : Nat) : Int := nodV (l i)

/-- The first k bytes are those of one term. -/
structure RdP (n : Nat) (A : Nat → Int) (m : Nat) (l : Nat → Int) (k : Nat) : Prop where
  pos : 0 < k
  le : k ≤ m
  most : k ≤ 24
  ok : ∀ i, i < k → okN (l i) n = true
  whole : skip (aOf A (nodT l)) k 0 1 = some k

open Classical in
/-- How many bytes the term has that they begin with; 0: there is none. -/
noncomputable def rdK (n : Nat) (A : Nat → Int) (m : Nat) (l : Nat → Int) : Nat := if h : ∃ k, RdP n A m l k then h.choose else 0

theorem whole_awt {a : Nat → Nat} {k : Nat} (h : skip a k 0 1 = some k) : (∀ i, i < k → 0 < awt a 0 i) ∧ awt a 0 k = 0 := by
  have hm := manyN_some h
  refine ⟨fun i hi => awt_pos (m := k) (Nat.zero_le _) i (Or.inl (by omega)), ?_⟩
  have := awt_end (m := k) (Nat.zero_le _) h
  rwa [hm] at this

theorem rd_one {n : Nat} {A : Nat → Int} {m : Nat} {l : Nat → Int} {k j : Nat} (h : RdP n A m l k) (h' : RdP n A m l j) : k = j := by
  have a1 := whole_awt h.whole
  have a2 := whole_awt h'.whole
  rcases Nat.lt_trichotomy k j with hlt | e | hlt
  · have := a2.1 k hlt; omega
  · exact e
  · have := a1.1 j hlt; omega

theorem rd_at {n : Nat} {A : Nat → Int} {m : Nat} {l : Nat → Int} {k : Nat} (h : RdP n A m l k) : rdK n A m l = k := by
  have hx : ∃ k, RdP n A m l k := ⟨k, h⟩
  rw [rdK, dif_pos hx]
  exact rd_one hx.choose_spec h

theorem rd_none {n : Nat} {A : Nat → Int} {m : Nat} {l : Nat → Int} (h : ∀ k, ¬ RdP n A m l k) : rdK n A m l = 0 := by
  rw [rdK, dif_neg (fun ⟨k, hk⟩ => h k hk)]

theorem rd_spec {n : Nat} {A : Nat → Int} {m : Nat} {l : Nat → Int} (h : rdK n A m l ≠ 0) : RdP n A m l (rdK n A m l) := by
  by_cases hx : ∃ k, RdP n A m l k
  · obtain ⟨k, hk⟩ := hx; rw [rd_at hk]; exact hk
  · rw [rd_none (fun k hk => hx ⟨k, hk⟩)] at h; exact absurd rfl h

theorem rd_le {n : Nat} {A : Nat → Int} {m : Nat} {l : Nat → Int} : rdK n A m l ≤ m ∧ rdK n A m l ≤ 24 := by
  by_cases h : rdK n A m l = 0
  · rw [h]; omega
  · have := rd_spec h; exact ⟨this.le, this.most⟩

/-- What reading answers: nothing, or a list of its own. -/
def ReadAns (w : World) (K : Nat) (T : Nat → Int) (e : Ending) (w' : World) : Prop :=
  (K = 0 ∧ e = .returned (.slice none 0 0)) ∨ (0 < K ∧ ∃ g d, e = .returned (.slice (some ⟨g, 0, none⟩) K d) ∧ w.heap.size ≤ g ∧ OwnI w' w.heap.size g K d T K)

theorem int_src (W : World) (v : Value) (t : TypeId) : ∀ (j : Nat) (u : Value), [v][j]? = some u → (W.alloc (.cells #[v] t)).cell? ((⟨W.heap.size, 0, none⟩ : Addr).add j) = some u := one_src W v t

theorem own_ints {w w1 : World} {B : Nat} {v' : Value} {xs : List Value} {k : Nat} {L : Nat → Int} (h : w1.ownsRow B 2 1 v' k xs) (hx : ∀ i, i < k → xs[i]? = some (.int .i64 (L i))) (hnil : ¬ v' = .slice none 0 0) (hb : Below B w w1) : ∃ g d, v' = .slice (some ⟨g, 0, none⟩) k d ∧ B ≤ g ∧ OwnI w1 B g k d L k ∧ Below B w w1 := by
  rcases h.2 with ⟨hv, _⟩ | ⟨g, d, cur, hv, hg, _⟩
  · exact absurd hv hnil
  · subst hv; exact ⟨g, d, rfl, hg, ⟨xs, h, hx⟩, hb⟩

theorem push_at {xs : List Value} {k : Nat} {L : Nat → Int} (hl : xs.length = k * 1) (hx : ∀ i, i < k → xs[i]? = some (.int .i64 (L i))) {y : Int} (hy : y = L k) : ∀ i, i < k + 1 → (xs ++ [Value.int .i64 y])[i]? = some (.int .i64 (L i)) := by
  intro i hi
  by_cases e : i = k
  · subst e; rw [List.getElem?_append_right (by omega), hl, hy]; simp
  · rw [List.getElem?_append_left (by omega)]; exact hx i (by omega)

set_option maxRecDepth 20000 in
set_option maxHeartbeats 1600000 in
theorem l5Read_row (B b off n c b' off' m c' : Nat) (N : Nat → ByteArray) (A l : Nat → Int) (w : World) (hd : One w B (.slice (some ⟨b, off, none⟩) n c)) (h : Syms w b off n N A) (hs : Sound n A) (hm : m ≤ 1048576)
    (hb' : b' < w.heap.size) (hc : ∀ i, i < m → w.cell? ⟨b', off' + i, none⟩ = some (.int .u8 (l i))) (hl : ∀ i, i < m → 0 ≤ l i ∧ l i ≤ 255) :
    Calls Try.prog 46 #[.pointer (some ⟨B, 0, none⟩), .slice (some ⟨b', off', none⟩) m c'] w fun e w' => ReadAns w (rdK n A m l) (nodT l) e w' ∧ Below w.heap.size w w' := by
  have D := hidden hd
  have H := hidden h
  have HS := hidden hs
  have HC := hidden hc
  have HL := hidden hl
  have HO := hidden (World.ownsRow_made (base := w.heap.size) (e := 2) (size := 1) w #[] 0 (Nat.le_refl _) (Nat.zero_le _) rfl)
  clear hd h hs hc hl
  go_enter Try.func46, Try.ntmps46
  go_wp2
  go_loopw [5, 6] (fun o i wr => ∃ k g d, k ≤ m ∧ k ≤ 24 ∧ i = .int .i64 (k : Nat) ∧ o = .slice (some ⟨g, 0, none⟩) k d ∧ Hid (w.heap.size ≤ g ∧ OwnI wr w.heap.size g k d (nodT l) k ∧ Below w.heap.size w wr) ∧ Hid ((∀ i, i < k → okN (l i) n = true) ∧ ∀ j, 0 < j → j ≤ k → skip (aOf A (nodT l)) j 0 1 ≠ some j)) (fun _ i _ => m - (intOf i).toNat)
  case atStart => exact ⟨0, _, _, Nat.zero_le _, Nat.zero_le _, rfl, rfl, hidden ⟨Nat.le_refl _, ⟨_, HO.out, fun i hi => by omega⟩, alloc_below _ _⟩, hidden ⟨fun i hi => by omega, fun j h0 hj => by omega⟩⟩
  case round =>
    obtain ⟨k, g, d, hk, hk24, rfl, rfl, HI, HR⟩ := hrel
    by_cases hlt : k < m
    · by_cases h24 : k < 24
      · have c1 : wr.cell? ⟨b', off' + k, none⟩ = some (.int .u8 (l k)) := by rw [HI.out.2.2.cell (p := ⟨b', off' + k, none⟩) hb']; exact HC.out k hlt
        have hx := HL.out k hlt
        have HT := hidden (show nodV (l k) = nodT l k from rfl)
        have HE := hidden (rfl : l k = l k)
        generalize hy : l k = x at c1 hx HT HE
        have HY := hidden hy
        clear hy HE
        go_wp2_with fail
        with_reducible refine (l5Node_any _ _ _ _ _ _ (D.out.keep HI.out.2.2) (by have := HS.out.most; omega) hx).mono ?_
        rintro e w1 ⟨rfl, hb⟩
        have G1 := HI.out.1
        have O1 := hidden (HI.out.2.1.keep hb)
        have B1 := hidden (keepB HI.out.2.2 hb)
        have W1 := hidden B1.out.size
        clear hb c1 HI
        generalize ho : okN x n = ib
        cases ib
        · have HK := hidden (show rdK n A m l = 0 from rd_none (fun j hj => by
            by_cases hjk : j ≤ k
            · exact HR.out.2 j hj.pos hjk hj.whole
            · have := hj.ok k (by omega); rw [HY.out, ho] at this; cases this))
          clear ho
          go_wp2
          go_ret
          exact ⟨Or.inl ⟨HK.out, rfl⟩, B1.out⟩
        · have HOK := hidden (show ∀ i, i < k + 1 → okN (l i) n = true from fun i hi => by
            by_cases e : i = k
            · rw [e, HY.out]; exact ho
            · exact HR.out.1 i (by omega))
          clear ho
          generalize nodV x = y at HT ⊢
          obtain ⟨xs, hxo, hxa⟩ := O1.out
          have XO := hidden hxo
          have XA := hidden hxa
          clear O1 hxo hxa
          go_wp2_with (first | (at_builtin; refine wpList_append_own _ rfl _ _ 25 rfl w.heap.size 2 _ (.int .i64 0) 1 8 Try.underlying25 rfl rfl rfl rfl rfl (by decide) _ _ _ rfl (World.ownsRow.alloc XO.out _) ⟨w1.heap.size, 0, none⟩ 1 1 [.int .i64 y] rfl rfl (int_src _ _ _) (oneVal _ rfl) (by unfold maxLen; omega) (by omega) (by have := W1.out; simp; omega) ?_) | go_in)
          intro v' w2 hown hgrow hnil
          obtain ⟨g2, d2, rfl, G2, O2, B2⟩ := own_ints hown (push_at XO.out.1 XA.out HT.out) (by simpa using hnil) ((B1.out.alloc W1.out _).grown hgrow (by have := W1.out; simp; omega) (by intro q hq; simp [Value.ownBlock] at hq; omega))
          have HO2 := hidden O2
          have HB2 := hidden B2
          have HN := hidden (Nods.mk (n := n) (A := A) (m := k + 1) (T := nodT l) HS.out.most HS.out.arity (by omega) (fun i hi => okN_node (HOK.out i hi)))
          clear hown hgrow hnil B1 G1 W1 O2 B2 HT XO XA
          go_wp2_with fail
          with_reducible refine (l3Fault_all _ _ _ _ _ _ _ _ _ N A (nodT l) _ (D.out.keep HB2.out) (H.out.keep HB2.out) HO2.out.ints HS.out (by omega)).mono ?_
          rintro e w3 ⟨rfl, hb⟩
          replace HO2 := hidden (HO2.out.keep hb)
          replace HB2 := hidden (keepB HB2.out hb)
          clear hb
          by_cases hw : skip (aOf A (nodT l)) (k + 1) 0 1 = some (k + 1)
          · have HL0 := hidden (lF_ok (n := n) (A := A) (m := k + 1) (T := nodT l) (by omega) HN.out.node hw)
            have HK := hidden (rd_at (RdP.mk (n := n) (A := A) (m := m) (l := l) (k := k + 1) (by omega) (by omega) (by omega) HOK.out hw))
            rw [HL0.out]
            clear hw
            go_wp2
            go_ret
            exact ⟨Or.inr ⟨by rw [HK.out]; omega, g2, d2, by rw [HK.out]; rfl, G2, by rw [HK.out]; exact HO2.out⟩, HB2.out⟩
          · have HL0 := hidden (lF_form (n := n) (A := A) (m := k + 1) (T := nodT l) (by omega) HN.out.node hw)
            rw [HL0.out]
            have HW := hidden hw
            clear hw
            go_wp2
            exact ⟨⟨k + 1, g2, d2, by omega, by omega, by go_num, rfl, hidden ⟨G2, HO2.out, HB2.out⟩, hidden ⟨HOK.out, fun j h0 hj => by
              by_cases e : j = k + 1
              · rw [e]; exact HW.out
              · exact HR.out.2 j h0 (by omega)⟩⟩, by simp [intOf]; omega⟩
      · have HK := hidden (show rdK n A m l = 0 from rd_none (fun j hj => HR.out.2 j hj.pos (by have := hj.most; omega) hj.whole))
        obtain rfl : k = 24 := by omega
        go_wp2
        go_ret
        exact ⟨Or.inl ⟨HK.out, rfl⟩, HI.out.2.2⟩
    · have HK := hidden (show rdK n A m l = 0 from rd_none (fun j hj => HR.out.2 j hj.pos (by have := hj.le; omega) hj.whole))
      obtain rfl : m = k := by omega
      go_wp2
      go_ret
      exact ⟨Or.inl ⟨HK.out, rfl⟩, HI.out.2.2⟩

set_option maxRecDepth 20000 in
set_option maxHeartbeats 400000 in
theorem l5Read_zero (B n : Nat) (p' : Option Addr) (c' : Nat) (A l : Nat → Int) (w : World) :
    Calls Try.prog 46 #[.pointer (some ⟨B, 0, none⟩), .slice p' 0 c'] w fun e w' => ReadAns w (rdK n A 0 l) (nodT l) e w' ∧ Below w.heap.size w w' := by
  have HK := hidden (show rdK n A 0 l = 0 by have := (rd_le (n := n) (A := A) (m := 0) (l := l)).1; omega)
  go_enter Try.func46, Try.ntmps46
  go_wp2
  refine wp_loop_rounds 1 ?_
  rw [rounds_succ]
  go_wp2
  go_ret
  exact ⟨Or.inl ⟨HK.out, rfl⟩, alloc_below _ _⟩

theorem l5Read_any (B b off n c : Nat) (p' : Option Addr) (m c' : Nat) (N : Nat → ByteArray) (A l : Nat → Int) (w : World) (hd : One w B (.slice (some ⟨b, off, none⟩) n c)) (h : Syms w b off n N A) (hs : Sound n A) (hm : m ≤ 1048576) (hl : Byts w p' m l) :
    Calls Try.prog 46 #[.pointer (some ⟨B, 0, none⟩), .slice p' m c'] w fun e w' => ReadAns w (rdK n A m l) (nodT l) e w' ∧ Below w.heap.size w w' := by
  rcases hl.row with rfl | ⟨b', off', rfl, h1, h2⟩
  · exact l5Read_zero B n p' c' A l w
  · exact l5Read_row B b off n c b' off' m c' N A l w hd h hs hm h1 h2 hl.byt

end Go.Proofs.Ytcnkkoegfjggaaa
