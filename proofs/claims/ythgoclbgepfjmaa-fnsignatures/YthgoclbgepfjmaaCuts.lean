/- Contracts: all symbols are cut off bytes, as the program does it. -/
import Derived.Test.YthgoclbgepfjmaaCut
namespace Go.Proofs.Ythgoclbgepfjmaa
open Go.RowKit

/-- Where the k-th symbol begins, how many letters its name has, its name and its arity, in bytes. -/
def pos (l : List Int) : Nat → Nat
  | 0 => 1
  | k + 1 => pos l k + ((l.getD (pos l k) 0).toNat + 2)
def kk (l : List Int) (k : Nat) : Nat := (l.getD (pos l k) 0).toNat
def nmOf (l : List Int) (k : Nat) : ByteArray := strOfNums (cutOf (l.drop (pos l k)) 1 (kk l k))
def arOf (l : List Int) (k : Nat) : Int := (l.drop (pos l k)).getD (1 + kk l k) 0
/-- The first k symbols end inside of the bytes. -/
def fit (l : List Int) (k : Nat) : Prop := ∀ i, i < k → pos l i + (kk l i + 2) ≤ l.length

theorem pos_succ (l : List Int) (k : Nat) : pos l (k + 1) = pos l k + (kk l k + 2) := rfl

theorem drop_getD (l : List Int) (p i : Nat) : (l.drop p).getD i 0 = l.getD (p + i) 0 := by
  simp [List.getD_eq_getElem?_getD, List.getElem?_drop]

def noSig : Value := .tuple #[.agg #[.slice none 0 0], .bool false]

set_option maxRecDepth 20000 in
set_option maxHeartbeats 800000 in
theorem cutSymbols_none (p : Option Addr) (c : Nat) (w : World) :
    Calls Try.prog 49 #[.slice p 0 c] w fun e w' => e = .returned noSig ∧ Below w.heap.size w w' := by
  go_enter Try.func49, Try.ntmps49
  go_wp2
  exact bodyPost_ret (v := noSig) (by simp [results, Try.results49, go_sem, noSig]) rfl ⟨rfl, alloc_below _ _⟩

theorem rowOff {w : World} {b off n : Nat} {l : List Int} (h : Byt.Row w b off n l) (p : Nat) (hp : p ≤ n) (o : Nat) (ho : n - p = 0 ∨ o = off + p) : Byt.Row w b o (n - p) (l.drop p) := by
  refine ⟨by rw [List.length_drop, h.len], by have := h.most; omega, fun i => by rw [drop_getD]; exact h.byt _, h.blk, fun i hi => ?_⟩
  rcases ho with ho | rfl
  · omega
  · rw [drop_getD, Nat.add_assoc]; exact h.cell (p + i) (by omega)

theorem own_keep {w w' : World} {B e size n : Nat} {v : Value} {xs : List Value} (h : w.ownsRow B e size v n xs) (hb : Below w.heap.size w w') : w'.ownsRow B e size v n xs := by
  refine ⟨h.1, h.2.imp id ?_⟩
  rintro ⟨g, cap, cur, h1, h2, h3, h4⟩
  exact ⟨g, cap, cur, h1, h2, by rw [hb.block g (Array.getElem?_eq_some_iff.1 h3).1]; exact h3, h4⟩

/-- A row of symbols that grows: nothing yet, or cells of its own. -/
def SymRow (w : World) (B : Nat) (v : Value) (k : Nat) (N : Nat → ByteArray) (A : Nat → Int) : Prop :=
  ∃ xs, w.ownsRow B 41 2 v k xs ∧ ∀ i, i < k → xs[i * 2]? = some (.string (N i)) ∧ xs[i * 2 + 1]? = some (.int .i64 (A i))

/-- What is known while symbols are cut. -/
structure CutInv (w wr : World) (l : List Int) (k : Nat) (v : Value) : Prop where
  bel : Below w.heap.size w wr
  sz : w.heap.size + 2 ≤ wr.heap.size
  r0 : wr.cell? ⟨w.heap.size, 0, none⟩ = some (.slice none 0 0)
  rf : wr.frozen? ⟨w.heap.size, 0, none⟩ = false
  s0 : wr.cell? ⟨w.heap.size + 1, 0, none⟩ = some v
  sf : wr.frozen? ⟨w.heap.size + 1, 0, none⟩ = false
  row : SymRow wr (w.heap.size + 2) v k (nmOf l) (arOf l)

theorem CutInv.keep {w wr w' : World} {l : List Int} {k : Nat} {v : Value} (h : CutInv w wr l k v) (hb : Below wr.heap.size wr w') : CutInv w w' l k v := by
  have hs := h.sz
  obtain ⟨xs, ho, hx⟩ := h.row
  exact ⟨keepB h.bel hb, Nat.le_trans h.sz hb.size, by rw [hb.cell (p := ⟨w.heap.size, 0, none⟩) (by show w.heap.size < _; omega)]; exact h.r0, by rw [hb.frozen (p := ⟨w.heap.size, 0, none⟩) (by show w.heap.size < _; omega)]; exact h.rf,
    by rw [hb.cell (p := ⟨w.heap.size + 1, 0, none⟩) (by show w.heap.size + 1 < _; omega)]; exact h.s0, by rw [hb.frozen (p := ⟨w.heap.size + 1, 0, none⟩) (by show w.heap.size + 1 < _; omega)]; exact h.sf, xs, own_keep ho hb, hx⟩

theorem CutInv.new (w : World) (l : List Int) : CutInv w ((w.alloc (.cells #[.slice none 0 0] 26)).alloc (.cells #[.slice none 0 0] 26)).drew l 0 (.slice none 0 0) := by
  refine ⟨(keepB (alloc_below w _) (alloc_below _ _)).drew, by show _ ≤ ((w.alloc _).alloc _).heap.size; simp, ?_, ?_, ?_, ?_, [], ⟨rfl, Or.inl ⟨rfl, rfl⟩⟩, fun i hi => by omega⟩
  · show ((w.alloc _).alloc _).cell? _ = _; simp [go_sem]
  · show ((w.alloc _).alloc _).frozen? _ = _; simp [go_sem]
  · show ((w.alloc _).alloc _).cell? _ = _; simp [go_sem]
  · show ((w.alloc _).alloc _).frozen? _ = _; simp [go_sem]

theorem own_block {w : World} {B e size n : Nat} {v : Value} {xs : List Value} (h : w.ownsRow B e size v n xs) : ∀ r, v.ownBlock = some r → B ≤ r := by
  intro r hr
  rcases h.2 with ⟨rfl, _⟩ | ⟨g, cap, cur, rfl, h2, _⟩
  · simp [Value.ownBlock] at hr
  · simp [Value.ownBlock] at hr; omega

theorem own_other {w : World} {B e size n : Nat} {v : Value} {xs : List Value} (h : w.ownsRow B e size v n xs) (a : Addr) (u : Value) (ha : a.block < B) : (w.setCell a u).ownsRow B e size v n xs := by
  refine ⟨h.1, h.2.imp id ?_⟩
  rintro ⟨g, cap, cur, h1, h2, h3, h4⟩
  exact ⟨g, cap, cur, h1, h2, by rw [Below.heap_setCell _ _ _ _ (by omega)]; exact h3, h4⟩

theorem CutInv.next {w wa w2 : World} {l : List Int} {k : Nat} {v v' : Value} {xs : List Value} {nm : ByteArray} {ar : Int} (h : CutInv w wa l k v) (ho : wa.ownsRow (w.heap.size + 2) 41 2 v k xs) (hx : ∀ i, i < k → xs[i * 2]? = some (.string (nmOf l i)) ∧ xs[i * 2 + 1]? = some (.int .i64 (arOf l i)))
    (hg : wa.grownBy w2 v.ownBlock) (hown : w2.ownsRow (w.heap.size + 2) 41 2 v' (k + 1) (xs ++ [.string nm, .int .i64 ar])) (hn : nmOf l k = nm) (ha : arOf l k = ar) :
    w2.cell? ⟨w.heap.size + 1, 0, none⟩ = some v ∧ w2.frozen? ⟨w.heap.size + 1, 0, none⟩ = false ∧ CutInv w (w2.setCell ⟨w.heap.size + 1, 0, none⟩ v') l (k + 1) v' := by
  have hs := h.sz
  have hblk := own_block ho
  have k0 := hg.block w.heap.size (by omega) (fun e => by have := hblk _ e.symm; omega)
  have k1 := hg.block (w.heap.size + 1) (by omega) (fun e => by have := hblk _ e.symm; omega)
  have a0 : w2.cell? ⟨w.heap.size, 0, none⟩ = some (.slice none 0 0) := (World.cell?_of_block (w := wa) (show w2.heap[(⟨w.heap.size, 0, none⟩ : Addr).block]? = wa.heap[(⟨w.heap.size, 0, none⟩ : Addr).block]? from k0)).trans h.r0
  have a1 : w2.frozen? ⟨w.heap.size, 0, none⟩ = false := (World.frozen?_of_block (w := wa) (show w2.heap[(⟨w.heap.size, 0, none⟩ : Addr).block]? = wa.heap[(⟨w.heap.size, 0, none⟩ : Addr).block]? from k0)).trans h.rf
  have b0 : w2.cell? ⟨w.heap.size + 1, 0, none⟩ = some v := (World.cell?_of_block (w := wa) (show w2.heap[(⟨w.heap.size + 1, 0, none⟩ : Addr).block]? = wa.heap[(⟨w.heap.size + 1, 0, none⟩ : Addr).block]? from k1)).trans h.s0
  have b1 : w2.frozen? ⟨w.heap.size + 1, 0, none⟩ = false := (World.frozen?_of_block (w := wa) (show w2.heap[(⟨w.heap.size + 1, 0, none⟩ : Addr).block]? = wa.heap[(⟨w.heap.size + 1, 0, none⟩ : Addr).block]? from k1)).trans h.sf
  have hl : xs.length = k * 2 := ho.1
  refine ⟨b0, b1, (h.bel.grown hg h.bel.size (fun r hr => by have := hblk r hr; omega)).setCell (by simp) _, by have := hg.size; simp; omega, ?_, by simpa using a1, World.cell?_setCell_same _ _ _ b0, by simpa using b1, _, own_other hown _ _ (by simp), fun i hi => ?_⟩
  · rw [World.cell?_setCell_other _ _ _ _ (by intro e; injection e with e1; omega)]; exact a0
  · by_cases e : i = k
    · subst e
      constructor
      · rw [List.getElem?_append_right (by omega), hl, Nat.sub_self, hn]; rfl
      · rw [List.getElem?_append_right (by omega), hl, show i * 2 + 1 - i * 2 = 1 by omega, ha]; rfl
    · rw [List.getElem?_append_left (by omega), List.getElem?_append_left (by omega)]
      exact hx i (by omega)

theorem two_src (W : World) (u v : Value) (t : TypeId) (g : Nat) (hg : g = W.heap.size) : ∀ (j : Nat) (x : Value), [u, v][j]? = some x → (W.alloc (.cells #[u, v] t)).cell? ((⟨g, 0, none⟩ : Addr).add j) = some x := by
  subst hg
  intro j x hj
  match j, hj with
  | 0, hj => simp at hj; subst hj; simp [Addr.add, go_sem]
  | 1, hj => simp at hj; subst hj; simp [Addr.add, go_sem]

set_option maxRecDepth 20000 in
set_option maxHeartbeats 3200000 in
theorem cutSymbols_any (b n c : Nat) (l : List Int) (w : World) (h : Byt.Row w b 0 n l) (hc : n ≤ c) (hx : n ≤ 1048576 ∧ c ≤ 9223372036854775807) (hn : 0 < n) (hc1 : ¬ c = 1) (q : Nat) (hq : l.getD 0 0 = q) :
    Calls Try.prog 49 #[.slice (some ⟨b, 0, none⟩) n c] w fun e w' => ((fit l q ∧ ∃ v, e = .returned (.tuple #[.agg #[v], .bool true]) ∧ SymRow w' w.heap.size v q (nmOf l) (arOf l)) ∨ (¬ fit l q ∧ e = .returned noSig)) ∧ Below w.heap.size w w' := by
  have c0 := fun ob => rowCell h hn ob
  rw [hq] at c0
  simp only [Nat.add_zero] at c0
  have hq' : q ≤ 255 := by have := h.byt 0; omega
  have h0 : ((n : Int) == 0) = false := by rw [beq_eq_false_iff_ne]; omega
  clear hq
  have c0d : ∀ ob, (w.alloc ob).drew.cell? ⟨b, 0, none⟩ = some (.int .u8 (q : Int)) := c0
  have HRow := hidden h
  have HL := hidden h.len
  clear h
  go_enter Try.func49, Try.ntmps49
  go_wp2
  go_big_region
  clear c0 c0d
  go_wp2
  go_loopw [5, 21] (fun r i wr => ∃ (k o : Nat), k ≤ q ∧ i = .int .u8 (k : Nat) ∧ r = .slice (some ⟨b, o, none⟩) (n - pos l k) (c - pos l k) ∧ pos l k ≤ n ∧ Hid ((n - pos l k = 0 ∨ o = 0 + pos l k) ∧ fit l k ∧ ∃ v, CutInv w wr l k v)) (fun _ i _ => q - (intOf i).toNat)
  case atStart => exact ⟨0, 1, Nat.zero_le _, rfl, rfl, by show 1 ≤ n; omega, hidden ⟨Or.inr rfl, fun i hi => by omega, _, CutInv.new w l⟩⟩
  case round =>
    obtain ⟨k, o, hk, rfl, rfl, hp, HI⟩ := hrel
    by_cases hlt : k < q
    · obtain ⟨ho, hfit, v, hinv⟩ := HI.out
      have hrow := rowOff (HRow.out.later hinv.bel HRow.out.blk) (pos l k) hp o ho
      have hkk : (l.drop (pos l k)).getD 0 0 = (kk l k : Nat) := by
        rw [drop_getD, Nat.add_zero, kk]; have := HRow.out.byt (pos l k); omega
      have HV := hidden hinv
      by_cases hok : pos l k + (kk l k + 2) ≤ n
      · have C := hidden (cutSymbol_ok b o (n - pos l k) (c - pos l k) _ wr hrow (by omega) (by omega) (kk l k) hkk (by omega))
        have HF2 := hidden (show fit l (k + 1) from fun i hi => by
          by_cases e : i = k
          · rw [e, HL.out]; exact hok
          · exact hfit i (by omega))
        have HOK := hidden hok
        have HO0 := hidden ho
        clear hrow hkk hinv ho hfit HI
        go_wp2_with fail
        refine C.out.mono ?_
        rintro e w1 ⟨⟨o', rfl, ho'⟩, hb⟩
        generalize hnm : strOfNums (cutOf (List.drop (pos l k) l) 1 (kk l k)) = nm
        generalize har : (List.drop (pos l k) l).getD (1 + kk l k) 0 = ar
        have HNM := hidden (show nmOf l k = nm from hnm)
        have HAR := hidden (show arOf l k = ar from har)
        have V1 := hidden ((HV.out.keep hb).keep (alloc_below w1 (.cells #[.string nm, .int .i64 ar] 41)))
        obtain ⟨xs, ho, hxs⟩ := V1.out.row
        have HO := hidden ho
        have HXS := hidden hxs
        have s0 := V1.out.s0
        have SZ := hidden V1.out.sz
        have HO' := hidden ho'
        clear hb HV C hnm har ho hxs ho'
        go_wp2_with (first | (at_builtin; refine wpList_append_own _ rfl _ _ 24 rfl (w.heap.size + 2) 41 _ (.agg #[.string ByteArray.empty, .int .i64 0]) 2 24 Try.underlying24 rfl rfl rfl rfl rfl (by decide) _ k xs rfl (HO.out.alloc _) _ 1 1 [.string nm, .int .i64 ar] rfl rfl (two_src _ _ _ _ _ (by simp)) (by intro u hu; simp at hu; rcases hu with rfl | rfl <;> rfl) (by unfold maxLen; omega) (by omega) (by have := SZ.out; simp at this ⊢; omega) ?_) | go_in)
        intro v' w2 hown hgrow hnil
        obtain ⟨b0, b1, hnext⟩ := CutInv.next (V1.out.keep (alloc_below _ _)) (HO.out.alloc _) HXS.out hgrow hown HNM.out HAR.out
        have HNX := hidden hnext
        obtain ⟨g2, d2, rfl⟩ : ∃ g2 d2, v' = .slice (some ⟨g2, 0, none⟩) (k + 1) d2 := by
          rcases hown.2 with ⟨hv, _⟩ | ⟨g2, d2, cur, hv, _⟩
          · exact absurd hv hnil
          · exact ⟨g2, d2, hv⟩
        clear hown hgrow hnil hnext s0 HO HXS SZ V1
        go_wp2
        refine ⟨⟨k + 1, o', by omega, by go_num, ?_, ?_, hidden ⟨?_, HF2.out, _, HNX.out⟩⟩, by simp [intOf]; omega⟩
        · rw [pos_succ, Nat.sub_sub, Nat.sub_sub]
        · rw [pos_succ]; exact HOK.out
        · rw [pos_succ, ← Nat.sub_sub]
          by_cases hz : n - pos l k - (kk l k + 2) = 0
          · exact Or.inl hz
          · right
            rcases HO'.out with h1 | h1
            · exact absurd h1 hz
            · rcases HO0.out with h2 | h2
              · exact absurd (by omega) hz
              · rw [h1, h2]; omega
      · have C := hidden (show Calls Try.prog 84 #[.slice (some ⟨b, o, none⟩) (n - pos l k) (c - pos l k)] wr fun e w' => e = .returned noSym ∧ Below wr.heap.size wr w' by
          by_cases hz : n - pos l k = 0
          · rw [hz]; exact cutSymbol_none _ _ _
          · exact cutSymbol_short b o _ _ _ wr hrow (by omega) (by omega) (kk l k) hkk (by omega))
        have HNF := hidden (show ¬ fit l q from fun hf => hok (by have := hf k hlt; rw [HL.out] at this; exact this))
        clear hrow hkk hinv ho hfit HI hok
        go_wp2_with fail
        refine C.out.mono ?_
        rintro e w1 ⟨rfl, hb⟩
        have V1 := hidden ((HV.out.keep hb).keep (alloc_below _ (.cells #[.string ByteArray.empty, .int .i64 0] 41)))
        have r0 := V1.out.r0
        have rf := V1.out.rf
        unfold noSym
        clear hb C HV
        go_wp2
        exact bodyPost_ret (v := noSig) (by simp [results, Try.results49, go_sem, noSig, r0]) rfl ⟨Or.inr ⟨HNF.out, rfl⟩, V1.out.bel.setCell (by simp) _⟩
    · obtain rfl : k = q := by omega
      obtain ⟨_, hfit, v, hinv⟩ := HI.out
      have HV := hidden hinv
      have HFT := hidden hfit
      obtain ⟨xs, ho, hxs⟩ := hinv.row
      have HO := hidden ho
      have HXS := hidden hxs
      have s0 := hinv.s0
      have r0 := hinv.r0
      have rf := hinv.rf
      obtain ⟨pv, mv, dv, rfl⟩ : ∃ p m d, v = .slice p m d := by
        rcases ho.2 with ⟨hv, _⟩ | ⟨g2, d2, cur, hv, _⟩ <;> exact ⟨_, _, _, hv⟩
      clear hinv hfit HI ho hxs
      go_wp2
      refine bodyPost_ret (v := .tuple #[.agg #[.slice pv mv dv], .bool true]) (by simp [results, Try.results49, go_sem, r0]) rfl ⟨Or.inl ⟨HFT.out, _, rfl, xs, ?_, HXS.out⟩, HV.out.bel.setCell (by simp) _⟩
      have h1 := own_other HO.out ⟨w.heap.size, 0, none⟩ (.slice pv mv dv) (by show w.heap.size < _; omega)
      exact ⟨h1.1, h1.2.imp id fun ⟨g, cap, cur, a1, a2, a3⟩ => ⟨g, cap, cur, a1, by omega, a3⟩⟩

end Go.Proofs.Ythgoclbgepfjmaa
