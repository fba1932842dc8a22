/- The fault of a precedence: what the document asks, and that the model's OrderFault tells it. -/
import Derived.Test.YthgoclbgepfjmaaInts
namespace Go.Proofs.Ythgoclbgepfjmaa
open Go.RowKit

def dupI (m : Nat) (L : Nat → Int) : Prop := ∃ i, i < m ∧ ∃ j, j < i ∧ L i = L j
def outI (m n : Nat) (L : Nat → Int) : Prop := ∃ i, i < m ∧ inB (L i) n = false

open Classical in
/-- The fault of a precedence of a right signature. -/
noncomputable def ordF (n m : Nat) (L : Nat → Int) : Int := if m = n then (if outI m n L then 3 else if dupI m L then 6 else 0) else 2

theorem ord_many {n m : Nat} {L : Nat → Int} (h : m ≠ n) : ordF n m L = 2 := by rw [ordF, if_neg h]
theorem ord_out {n : Nat} {L : Nat → Int} (h : outI n n L) : ordF n n L = 3 := by rw [ordF, if_pos rfl, if_pos h]
theorem ord_dup {n : Nat} {L : Nat → Int} (h : ¬ outI n n L) (hd : dupI n L) : ordF n n L = 6 := by rw [ordF, if_pos rfl, if_neg h, if_pos hd]
theorem ord_ok {n : Nat} {L : Nat → Int} (h : ¬ outI n n L) (hd : ¬ dupI n L) : ordF n n L = 0 := by rw [ordF, if_pos rfl, if_neg h, if_neg hd]

set_option maxRecDepth 20000 in
set_option maxHeartbeats 400000 in
theorem l2Order_many (B : Nat) (p p' : Option Addr) (n c m c' : Nat) (L : Nat → Int) (w : World) (hd : One w B (.slice p n c)) (h : m ≠ n) :
    Calls Try.prog 64 #[.pointer (some ⟨B, 0, none⟩), .slice p' m c'] w fun e w' => e = .returned (.int .i64 (ordF n m L)) ∧ Below w.heap.size w w' := by
  have HR := hidden (ord_many (L := L) h)
  have d0 := hd.c0
  have h' : ((m : Int) != (n : Int)) = true := by simp; omega
  go_enter Try.func64, Try.ntmps64
  go_wp2
  go_ret
  exact ⟨by rw [HR.out]; rfl, Below.refl _ _⟩

set_option maxRecDepth 20000 in
set_option maxHeartbeats 1600000 in
theorem l2Order_any (B : Nat) (p : Option Addr) (n c b off c' : Nat) (L : Nat → Int) (w : World) (hd : One w B (.slice p n c)) (h : Ints w b off n L) (hn : n ≤ 1048576) :
    Calls Try.prog 64 #[.pointer (some ⟨B, 0, none⟩), .slice (some ⟨b, off, none⟩) n c'] w fun e w' => e = .returned (.int .i64 (ordF n n L)) ∧ Below w.heap.size w w' := by
  have d0 := hd.c0
  go_enter Try.func64, Try.ntmps64
  go_wp2
  go_loopw [5] (fun i wr => ∃ k : Nat, k ≤ n ∧ i = .int .i64 k ∧ Hid (∀ i, i < k → inB (L i) n = true) ∧ Hid (Below w.heap.size w wr)) (fun i _ => n - (intOf i).toNat)
  case atStart => exact ⟨0, Nat.zero_le _, rfl, hidden (fun i hi => by omega), hidden (Below.refl _ _)⟩
  case round =>
    obtain ⟨k, hk, rfl, HF, HB⟩ := hrel
    by_cases hlt : k < n
    · have hs := h.keep HB.out
      have c1 := hs.cell k hlt
      clear hs
      go_wp2_with fail
      refine (l2Symbol_any _ _ _ _ _ _ (hd.keep HB.out) hn).mono ?_
      rintro e w1 ⟨rfl, hb⟩
      have B1 := hidden (keepB HB.out hb)
      clear hb c1 HB
      generalize hx : inB (L k) n = ib
      cases ib
      · have HR := hidden (ord_out (n := n) (L := L) ⟨k, hlt, hx⟩)
        go_wp2
        go_ret
        exact ⟨by rw [HR.out]; rfl, B1.out⟩
      · have HX := hidden hx
        go_wp2
        go_roundw
        case rel => exact ⟨k + 1, by omega, by go_num, hidden (fun j hj => by
          by_cases e : j = k
          · rw [e]; exact HX.out
          · exact HF.out j (by omega)), B1⟩
        case measure => simp [intOf]; omega
    · obtain rfl : n = k := by omega
      clear hlt hk
      have HO := hidden (show ¬ outI n n L from fun ⟨i, hi, e⟩ => by rw [HF.out i hi] at e; cases e)
      clear HF
      go_wp2
      go_loopw [6] (fun i w2 => ∃ k : Nat, k ≤ n ∧ i = .int .i64 k ∧ Hid (¬ dupI k L) ∧ Hid (Below w.heap.size w w2)) (fun i _ => n - (intOf i).toNat)
      case atStart => exact ⟨0, Nat.zero_le _, rfl, hidden (fun ⟨i, hi, _⟩ => by omega), HB⟩
      case round =>
        rename World => w2
        obtain ⟨k, hk, rfl, HD, HI2⟩ := hrel
        by_cases hlt : k < n
        · go_wp2
          go_loopw [7] (fun j w3 => ∃ m : Nat, m ≤ k ∧ j = .int .i64 m ∧ Hid (∀ j, j < m → L k ≠ L j) ∧ Hid (Below w.heap.size w w3)) (fun j _ => k - (intOf j).toNat)
          case atStart => exact ⟨0, Nat.zero_le _, rfl, hidden (fun j hj => by omega), HI2⟩
          case round =>
            rename World => w3
            obtain ⟨m, hm, rfl, HE, HI3⟩ := hrel
            by_cases hml : m < k
            · have hs := h.keep HI3.out
              have c1 := hs.cell k hlt
              have c2 := hs.cell m (by omega)
              clear hs
              by_cases he : L k = L m
              · have HR := hidden (ord_dup HO.out ⟨k, hlt, m, hml, he⟩)
                rw [← he] at c2
                clear he
                go_wp2
                go_quiet (fail)
                go_wp2
                go_ret
                exact ⟨by rw [HR.out]; rfl, below_drewN HI3.out _⟩
              · have HR := hidden he
                have he' : (L k == L m) = false := by simpa using he
                clear he
                go_wp2
                go_quiet (fail)
                go_wp2
                go_roundw
                case rel => exact ⟨m + 1, by omega, by go_num, hidden (fun j hj => by
                  by_cases e : j = m
                  · rw [e]; exact HR.out
                  · exact HE.out j (by omega)), hidden (below_drewN HI3.out _)⟩
                case measure => simp [intOf]; omega
            · obtain rfl : m = k := by omega
              go_wp2
              go_roundw
              case rel => exact ⟨m + 1, by omega, by go_num, hidden (fun ⟨i, hi, j, hj, e⟩ => by
                by_cases ei : i = m
                · subst ei; exact HE.out j hj e
                · exact HD.out ⟨i, by omega, j, hj, e⟩), HI3⟩
              case measure => simp [intOf]; omega
        · obtain rfl : n = k := by omega
          have HR := hidden (ord_ok HO.out HD.out)
          go_wp2
          go_ret
          exact ⟨by rw [HR.out]; rfl, HI2.out⟩

theorem l2Order_all (B : Nat) (p : Option Addr) (n c b off m c' : Nat) (L : Nat → Int) (w : World) (hd : One w B (.slice p n c)) (h : Ints w b off m L) (hn : n ≤ 1048576) :
    Calls Try.prog 64 #[.pointer (some ⟨B, 0, none⟩), .slice (some ⟨b, off, none⟩) m c'] w fun e w' => e = .returned (.int .i64 (ordF n m L)) ∧ Below w.heap.size w w' := by
  by_cases e : m = n
  · subst e; exact l2Order_any B p m c b off c' L w hd h hn
  · exact l2Order_many B p _ n c m c' L w hd e

/-- The fault of a precedence. -/
noncomputable def orderF (n : Nat) (N : Nat → ByteArray) (A : Nat → Int) (m : Nat) (L : Nat → Int) : Int := if faultF n N A = 0 then ordF n m L else faultF n N A

theorem order_fault {n : Nat} {N : Nat → ByteArray} {A : Nat → Int} {m : Nat} {L : Nat → Int} (h : faultF n N A ≠ 0) : orderF n N A m L = faultF n N A := by rw [orderF, if_neg h]
theorem order_right {n : Nat} {N : Nat → ByteArray} {A : Nat → Int} {m : Nat} {L : Nat → Int} (h : faultF n N A = 0) : orderF n N A m L = ordF n m L := by rw [orderF, if_pos h]

set_option maxRecDepth 20000 in
set_option maxHeartbeats 800000 in
theorem specOrder_any (b off n c b' off' m c' : Nat) (N : Nat → ByteArray) (A L : Nat → Int) (w : World) (h : Syms w b off n N A) (h' : Ints w b' off' m L) (hk : Kept n N A) :
    Calls Try.prog 24 #[.agg #[.slice (some ⟨b, off, none⟩) n c], .slice (some ⟨b', off', none⟩) m c'] w fun e w' => e = .returned (.int .i64 (orderF n N A m L)) ∧ Below w.heap.size w w' := by
  have D := hidden (One.new w (.slice (some ⟨b, off, none⟩) n c) 26)
  have B := hidden (alloc_below w (.cells #[.slice (some ⟨b, off, none⟩) n c] 26))
  have Q := hidden (h.keep B.out)
  have I := hidden (h'.keep B.out)
  have HK := hidden hk
  clear h h' hk
  go_enter Try.func24, Try.ntmps24
  go_wp2_with fail
  refine (specFault_all _ _ _ _ N A _ Q.out HK.out).mono ?_
  rintro e w1 ⟨rfl, hb⟩
  replace D := hidden (D.out.keep hb)
  replace I := hidden (I.out.keep hb)
  replace B := hidden (keepB B.out hb)
  clear hb Q
  by_cases hf : faultF n N A = 0
  · have HR := hidden (order_right (m := m) (L := L) hf)
    rw [hf]
    clear hf
    go_wp2_with fail
    refine (l2Order_all _ _ _ _ _ _ _ _ L _ D.out I.out HK.out.most).mono ?_
    rintro e w2 ⟨rfl, hb⟩
    replace B := hidden (keepB B.out hb)
    clear hb
    go_wp2_with fail
    go_ret
    exact ⟨by rw [HR.out]; rfl, B.out⟩
  · have HR := hidden (order_fault (m := m) (L := L) hf)
    have hf' : (faultF n N A != 0) = true := by simpa using hf
    generalize faultF n N A = z at *
    clear hf
    go_wp2
    go_ret
    exact ⟨by rw [HR.out]; rfl, B.out⟩

open Classical in
noncomputable def markB (k : Nat) (L : Nat → Int) (j : Nat) : Bool := decide (∃ i, i < k ∧ L i = (j : Int))
theorem markB_true {k : Nat} {L : Nat → Int} {j : Nat} (h : ∃ i, i < k ∧ L i = (j : Int)) : markB k L j = true := by simpa [markB] using h
theorem markB_false {k : Nat} {L : Nat → Int} {j : Nat} (h : ¬ ∃ i, i < k ∧ L i = (j : Int)) : markB k L j = false := by simpa [markB] using h

/-- Six cells: which numbers were named by the first k. -/
def Marks (w : World) (G k : Nat) (L : Nat → Int) : Prop := ∀ j, j < 6 → w.cell? ⟨G, j, none⟩ = some (.bool (markB k L j)) ∧ w.frozen? ⟨G, j, none⟩ = false

theorem Marks.new (w : World) (L : Nat → Int) : Marks (w.alloc (.cells #[.bool false, .bool false, .bool false, .bool false, .bool false, .bool false] 88)) w.heap.size 0 L := by
  intro j hj
  rw [markB_false (fun ⟨i, hi, _⟩ => by omega)]
  match j, hj with
  | 0, _ => simp [go_sem]
  | 1, _ => simp [go_sem]
  | 2, _ => simp [go_sem]
  | 3, _ => simp [go_sem]
  | 4, _ => simp [go_sem]
  | 5, _ => simp [go_sem]

theorem Marks.step {w : World} {G k : Nat} {L : Nat → Int} (h : Marks w G k L) {j0 : Nat} (hj : j0 < 6) (e : L k = j0) : Marks (w.setCell ⟨G, j0, none⟩ (.bool true)) G (k + 1) L := by
  intro j hj'
  obtain ⟨c, f⟩ := h j hj'
  by_cases ej : j = j0
  · subst ej
    refine ⟨?_, ?_⟩
    · rw [World.cell?_setCell_same _ _ _ c, markB_true ⟨k, by omega, e⟩]
    · rw [World.frozen?_setCell]; exact f
  · refine ⟨?_, ?_⟩
    · rw [World.cell?_setCell_other _ _ _ _ (by intro h'; injection h' with _ h'' _; exact ej h''.symm), c]
      congr 2
      simp only [markB, decide_eq_decide]
      constructor
      · rintro ⟨i, hi, h⟩; exact ⟨i, by omega, h⟩
      · rintro ⟨i, hi, h1⟩
        refine ⟨i, ?_, h1⟩
        by_cases ei : i = k
        · subst ei; exact absurd (Int.ofNat.inj (h1.symm.trans e)) ej
        · omega
    · rw [World.frozen?_setCell]; exact f

set_option maxRecDepth 20000 in
set_option maxHeartbeats 1600000 in
theorem implOrder_any (b off n c b' off' m c' : Nat) (N : Nat → ByteArray) (A L : Nat → Int) (w : World) (h : Syms w b off n N A) (h' : Ints w b' off' m L) (hk : Kept n N A) (hm : m ≤ 1048576) :
    Calls Try.prog 23 #[.agg #[.slice (some ⟨b, off, none⟩) n c], .slice (some ⟨b', off', none⟩) m c'] w fun e w' => e = .returned (.int .i64 (orderF n N A m L)) ∧ Below w.heap.size w w' := by
  have D := hidden (One.new w (.slice (some ⟨b, off, none⟩) n c) 26)
  have B := hidden (alloc_below w (.cells #[.slice (some ⟨b, off, none⟩) n c] 26))
  have Q := hidden (h.keep B.out)
  have I := hidden (h'.keep B.out)
  have HK := hidden hk
  clear h h' hk
  go_enter Try.func23, Try.ntmps23
  go_wp2_with fail
  refine (implFault_all _ _ _ _ N A _ Q.out HK.out).mono ?_
  rintro e w1 ⟨rfl, hb⟩
  replace D := hidden (D.out.keep hb)
  replace I := hidden (I.out.keep hb)
  replace B := hidden (keepB B.out hb)
  clear hb Q
  by_cases hf : faultF n N A = 0
  · have HR := hidden (order_right (m := m) (L := L) hf)
    have h6 : n ≤ 6 := by
      unfold faultF at hf
      by_cases hx : n < 1 ∨ 6 < n
      · rw [if_pos hx] at hf; omega
      · omega
    rw [hf]
    clear hf
    have d0 := D.out.c0
    by_cases hmn : m = n
    · subst hmn
      go_wp2_with fail
      clear d0
      go_loopw [24] (fun i wr => ∃ k : Nat, k ≤ m ∧ i = .int .i64 k ∧ Hid (∀ i, i < k → inB (L i) m = true) ∧ Hid (One wr w.heap.size (.slice (some ⟨b, off, none⟩) m c) ∧ Ints wr b' off' m L ∧ Below w.heap.size w wr)) (fun i _ => m - (intOf i).toNat)
      case atStart => exact ⟨0, Nat.zero_le _, rfl, hidden (fun i hi => by omega), hidden ⟨D.out, I.out, B.out⟩⟩
      case round =>
        clear D I B
        obtain ⟨k, hk, rfl, HF, HI⟩ := hrel
        by_cases hlt : k < m
        · have c1 := HI.out.2.1.cell k hlt
          have d0 := HI.out.1.c0
          go_wp2_with fail
          refine (isSymbol_any _ _ _ _ _).mono ?_
          rintro e w2 ⟨rfl, hb⟩
          have H2 := hidden (And.intro (HI.out.1.keep hb) (And.intro (HI.out.2.1.keep hb) (keepB HI.out.2.2 hb)))
          clear hb c1 HI d0
          generalize hx : inB (L k) m = ib
          cases ib
          · have HO := hidden (ord_out (n := m) (L := L) ⟨k, hlt, hx⟩)
            go_wp2
            go_ret
            exact ⟨by rw [HR.out, HO.out]; rfl, H2.out.2.2⟩
          · have HX := hidden hx
            clear hx
            go_wp2
            go_roundw
            case rel => exact ⟨k + 1, by omega, by go_num, hidden (fun j hj => by
              by_cases e : j = k
              · rw [e]; exact HX.out
              · exact HF.out j (by omega)), H2⟩
            case measure => simp [intOf]; omega
        · obtain rfl : m = k := by omega
          clear hlt hk
          have HO := hidden (show ¬ outI m m L from fun ⟨i, hi, e⟩ => by rw [HF.out i hi] at e; cases e)
          have HM := hidden (Marks.new wr L)
          have HB := hidden (alloc_below wr (.cells #[.bool false, .bool false, .bool false, .bool false, .bool false, .bool false] 88))
          go_wp2
          go_loopw [35] (fun i w3 => ∃ k : Nat, k ≤ m ∧ i = .int .i64 k ∧ Hid (¬ dupI k L) ∧ Hid (Marks w3 wr.heap.size k L ∧ Below wr.heap.size wr w3)) (fun i _ => m - (intOf i).toNat)
          case atStart => exact ⟨0, Nat.zero_le _, rfl, hidden (fun ⟨i, hi, _⟩ => by omega), hidden ⟨HM.out, HB.out⟩⟩
          case round =>
            rename World => w3
            clear HM HB
            obtain ⟨k, hk, rfl, HD, HI3⟩ := hrel
            by_cases hlt : k < m
            · have c1 := (HI.out.2.1.keep HI3.out.2).cell k hlt
              have hx : 0 ≤ L k ∧ L k < m := by have := HF.out k hlt; simpa [inB] using this
              obtain ⟨j0, hj0⟩ : ∃ j0 : Nat, L k = j0 := ⟨(L k).toNat, by omega⟩
              have hj6 : j0 < 6 := by omega
              obtain ⟨c2, f2⟩ := HI3.out.1 j0 hj6
              have HJ := hidden hj0
              rw [hj0] at c1
              clear hx hj0
              by_cases he : ∃ i, i < k ∧ L i = (j0 : Int)
              · have HU := hidden (ord_dup HO.out (show dupI m L from by obtain ⟨i, hi, e⟩ := he; exact ⟨k, hlt, i, hi, by rw [HJ.out, e]⟩))
                rw [markB_true he] at c2
                clear he
                go_wp2
                go_ret
                exact ⟨by rw [HR.out, HU.out]; rfl, keepB HI.out.2.2 HI3.out.2⟩
              · have HE := hidden he
                rw [markB_false he] at c2
                have H4 := hidden (And.intro (HI3.out.1.step hj6 HJ.out) (HI3.out.2.setCell (p := ⟨wr.heap.size, j0, none⟩) (Nat.le_refl _) (.bool true)))
                clear he
                go_wp2
                go_roundw
                case rel => exact ⟨k + 1, by omega, by go_num, hidden (fun ⟨i, hi, j, hj, e⟩ => by
                  by_cases ei : i = k
                  · subst ei; exact HE.out ⟨j, hj, by rw [← e, HJ.out]⟩
                  · exact HD.out ⟨i, by omega, j, hj, e⟩), H4⟩
                case measure => simp [intOf]; omega
            · obtain rfl : m = k := by omega
              have HU := hidden (ord_ok HO.out HD.out)
              go_wp2
              go_ret
              exact ⟨by rw [HR.out, HU.out]; rfl, keepB HI.out.2.2 HI3.out.2⟩
    · have HM := hidden (ord_many (L := L) hmn)
      have h2 : ((m : Int) != (n : Int)) = true := by simp; omega
      clear hmn
      go_wp2_with fail
      go_ret
      exact ⟨by rw [HR.out, HM.out]; rfl, B.out⟩
  · have HR := hidden (order_fault (m := m) (L := L) hf)
    have hf' : (faultF n N A != 0) = true := by simpa using hf
    generalize faultF n N A = z at *
    clear hf
    go_wp2
    go_ret
    exact ⟨by rw [HR.out]; rfl, B.out⟩

end Go.Proofs.Ythgoclbgepfjmaa
