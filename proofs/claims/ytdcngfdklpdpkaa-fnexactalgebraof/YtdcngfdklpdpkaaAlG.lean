/- Making an algebra: plain facts, a list of tables that grows; the model's l10Make and AlgebraOf. -/
import Derived.Test.YtdcngfdklpdpkaaAlX
import Derived.Test.YtdcngfdklpdpkaaPut
import Derived.Deep.AppendLies
namespace Go.Proofs.Ytdcngfdklpdpkaa
open Go.RowKit

/-- The seed behind k numbers. -/
def sdN (s : Int) : Nat → Int
  | 0 => s
  | k + 1 => (227 * sdN s k + 1) % 65521
theorem sdN_bd {s : Int} (h : 0 ≤ s ∧ s ≤ 65520) : ∀ k, 0 ≤ sdN s k ∧ sdN s k ≤ 65520
  | 0 => h
  | k + 1 => by simp only [sdN]; omega
/-- How many numbers a table has. -/
def tN (z : Int) (A : Nat → Int) (i : Nat) : Nat := (z ^ (A i).toNat).toNat
def offT (z : Int) (A : Nat → Int) : Nat → Nat
  | 0 => 0
  | i + 1 => offT z A i + tN z A i
/-- The tables that are made. -/
def algD (z : Int) (A : Nat → Int) (s : Int) : LsL := ⟨tN z A, fun i j => sdN s (offT z A i + j + 1) % z⟩

theorem tN_int {n : Nat} {z : Int} {A : Nat → Int} (hz : 1 ≤ z ∧ z ≤ 3) (hg : Sound n A) {i : Nat} (hi : i < n) : z ^ (A i).toNat = (tN z A i : Int) ∧ 1 ≤ tN z A i ∧ tN z A i ≤ 729 := by
  have := pow_sz hz (A i).toNat (by have := hg.arity i hi; omega)
  unfold tN
  omega

theorem algD_kept {n : Nat} {z : Int} {A : Nat → Int} {s : Int} (hz : 1 ≤ z ∧ z ≤ 3) (hg : Sound n A) : KeptM n (algD z A s) :=
  ⟨by have := hg.most; omega, fun i hi => by have := (tN_int hz hg hi).2.2; simp only [algD]; omega⟩

theorem algD_sum {n : Nat} {z : Int} {A : Nat → Int} {s : Int} (hz : 1 ≤ z ∧ z ≤ 3) (hg : Sound n A) : ∀ k, k ≤ n → sumM (algD z A s) k ≤ 729 * k
  | 0, _ => by simp [sumM]
  | k + 1, h => by
    have ih := algD_sum (s := s) hz hg k (by omega)
    have h1 : (algD z A s).m k ≤ 729 := (tN_int hz hg (by omega)).2.2
    simp only [sumM]; omega

theorem ownsRow_up2 {w w' : World} {B e s n : Nat} {v : Value} {xs : List Value} (h : w.ownsRow B e s v n xs) (hb : Below w.heap.size w w') : w'.ownsRow B e s v n xs := by
  refine ⟨h.1, h.2.imp id ?_⟩
  rintro ⟨g', cap, cur, h1, h2, h3, h4⟩
  exact ⟨g', cap, cur, h1, h2, by rw [hb.block g' (Array.getElem?_eq_some_iff.1 h3).1]; exact h3, h4⟩

theorem OwnI.grownV {w w' : World} {B g n c : Nat} {L : Nat → Int} {j : Nat} {row : Option Nat} (h : OwnI w B g n c L j) (hg : w.grownBy w' row) (hne : row ≠ some g) : OwnI w' B g n c L j := by
  obtain ⟨xs, ho, hz⟩ := h
  exact ⟨xs, ho.kept hg (Or.inr (by simp only [Value.ownBlock]; exact fun e => hne e.symm)), hz⟩

theorem ownsRow_setX {w : World} {B e s n : Nat} {v : Value} {xs : List Value} (h : w.ownsRow B e s v n xs) (a : Addr) (u : Value) (ha : a.block < B) : (w.setCell a u).ownsRow B e s v n xs := by
  refine ⟨h.1, h.2.imp id ?_⟩
  rintro ⟨g', cap, cur, h1, h2, h3, h4⟩
  exact ⟨g', cap, cur, h1, h2, by rw [Below.heap_setCell w a u g' (by omega)]; exact h3, h4⟩

/-- A list of lists that grows, each behind those ahead of it: k of them, in memory of its own. -/
structure GrA (w : World) (B : Nat) (v : Value) (k : Nat) (D : LsL) : Prop where
  top : B ≤ w.heap.size
  row : ∃ (xs : List Value) (G : Nat → Nat), w.ownsRow B 47 1 v k xs ∧ (∀ e, e < k → ∃ d, xs[e]? = some (.slice (some ⟨G e, 0, none⟩) (D.m e) d) ∧ D.m e ≤ d ∧ B ≤ G e ∧ v.ownBlock ≠ some (G e) ∧ OwnI w B (G e) (D.m e) d (D.L e) (D.m e)) ∧ ∀ i j, i < j → j < k → G i < G j
  slc : (k = 0 ∧ v = .slice none 0 0) ∨ ∃ g c, v = .slice (some ⟨g, 0, none⟩) k c

theorem GrA.keep {w w' : World} {B : Nat} {v : Value} {k : Nat} {D : LsL} (h : GrA w B v k D) (hb : Below w.heap.size w w') : GrA w' B v k D := by
  obtain ⟨ht, ⟨xs, G, ho, hx, hm⟩, hs⟩ := h
  refine ⟨Nat.le_trans ht hb.size, ⟨xs, G, ownsRow_up2 ho hb, fun e he => ?_, hm⟩, hs⟩
  obtain ⟨d, a1, a2, a3, a4, a5⟩ := hx e he
  exact ⟨d, a1, a2, a3, a4, a5.keep hb⟩

theorem GrA.nil (w : World) (B : Nat) (D : LsL) (hB : B ≤ w.heap.size) : GrA w B (.slice none 0 0) 0 D :=
  ⟨hB, ⟨[], fun _ => 0, World.ownsRow_nil _ _ _ _, fun e he => by omega, fun i j _ hj => by omega⟩, Or.inl ⟨rfl, rfl⟩⟩

theorem GrA.block {w : World} {B : Nat} {v : Value} {k : Nat} {D : LsL} (h : GrA w B v k D) : ∀ q, v.ownBlock = some q → B ≤ q ∧ q < w.heap.size := fun q hq => by
  obtain ⟨xs, G, ho, _⟩ := h.row
  exact ho.lt q hq

theorem GrA.setLow {w : World} {B : Nat} {v : Value} {k : Nat} {D : LsL} (h : GrA w B v k D) (a : Addr) (u : Value) (ha : a.block < B) : GrA (w.setCell a u) B v k D := by
  obtain ⟨ht, ⟨xs, G, ho, hx, hm⟩, hs⟩ := h
  refine ⟨by simpa using ht, ⟨xs, G, ownsRow_setX ho a u ha, fun e he => ?_, hm⟩, hs⟩
  obtain ⟨d, a1, a2, a3, a4, a5⟩ := hx e he
  exact ⟨d, a1, a2, a3, a4, a5.other a u (by omega)⟩

/-- One list more: w is the world ahead of the list's making, wa the one ahead of the append. -/
theorem GrA.put {w wa w' : World} {B : Nat} {v : Value} {k : Nat} {D : LsL} (ht : B ≤ w.heap.size) (hb : Below w.heap.size w wa) (hg : wa.grownBy w' v.ownBlock) {g cap g1 d1 B1 : Nat} {xs : List Value} {G : Nat → Nat}
    (hx1 : w.ownsRow B 47 1 v k xs) (hx2 : ∀ e, e < k → ∃ d, xs[e]? = some (.slice (some ⟨G e, 0, none⟩) (D.m e) d) ∧ D.m e ≤ d ∧ B ≤ G e ∧ v.ownBlock ≠ some (G e) ∧ OwnI w B (G e) (D.m e) d (D.L e) (D.m e)) (hx3 : ∀ i j, i < j → j < k → G i < G j)
    (l1 : w.heap.size ≤ g1) (o1 : OwnI wa B1 g1 (D.m k) d1 (D.L k) (D.m k)) (c1 : D.m k ≤ d1)
    (ho : w'.ownsRow B 47 1 (.slice (some ⟨g, 0, none⟩) (k + 1) cap) (k + 1) (xs ++ [.slice (some ⟨g1, 0, none⟩) (D.m k) d1])) (hat : v.ownBlock = some g ∨ g = wa.heap.size) :
    GrA w' B (.slice (some ⟨g, 0, none⟩) (k + 1) cap) (k + 1) D := by
  have hlen : xs.length = k := by have := hx1.1; omega
  have hbs := hb.size
  have gV : ∀ q, v.ownBlock = some q → q < w.heap.size := fun q hq => (hx1.lt q hq).2
  have hgg : ∀ e, e < w.heap.size → v.ownBlock ≠ some e → g ≠ e := fun e he hn eg => by
    rcases hat with hh | hh
    · exact hn (by rw [hh, eg])
    · omega
  have l1' := o1.lt
  have hg1 : g ≠ g1 := by
    rcases hat with hh | hh
    · have := gV g hh; omega
    · omega
  refine ⟨by have := hg.size; omega, ⟨_, fun e => if e = k then g1 else G e, ho, fun e he => ?_, fun i j hij hj => ?_⟩, Or.inr ⟨_, _, rfl⟩⟩
  · by_cases ek : e = k
    · subst ek
      simp only [if_true]
      exact ⟨d1, by rw [List.getElem?_append_right (by omega)]; simp [hlen], c1, by omega, by simp only [Value.ownBlock]; intro ee; exact hg1 (by simpa using ee), (o1.grownV hg (fun ee => by have := gV g1 ee; omega)).base (by omega)⟩
    · obtain ⟨d, a1, a2, a3, a4, a5⟩ := hx2 e (by omega)
      simp only [ek, if_false]
      exact ⟨d, by rw [List.getElem?_append_left (by omega)]; exact a1, a2, a3, by simp only [Value.ownBlock]; intro ee; exact hgg (G e) a5.lt a4 (by simpa using ee), (a5.keep hb).grownV hg a4⟩
  · have hi : i ≠ k := by omega
    simp only [hi, if_false]
    obtain ⟨d, a1, a2, a3, a4, a5⟩ := hx2 i (by omega)
    have := a5.lt
    by_cases ek : j = k
    · simp only [ek, if_true]; omega
    · simp only [ek, if_false]; exact hx3 i j hij (by omega)

/-- The list that has grown, as an answer. -/
theorem GrA.done {w : World} {B : Nat} {v : Value} {k : Nat} {D : LsL} (h : GrA w B v k D) (hk : 0 < k) : ∃ g d, v = .slice (some ⟨g, 0, none⟩) k d ∧ OwnMR w B w.heap.size g k d D := by
  obtain ⟨ht, ⟨xs, G, ho, hx, hm⟩, hs⟩ := h
  rcases hs with ⟨h0, _⟩ | ⟨g, c, rfl⟩
  · omega
  · have lg := ho.lt g rfl
    refine ⟨g, c, rfl, lg.1, lg.2, Nat.le_refl _, xs, G, ho, fun i hi => ?_, hm⟩
    obtain ⟨d, a1, a2, a3, a4, a5⟩ := hx i hi
    exact ⟨d, a1, a2, a3, a5.lt, fun e => a4 (by rw [e]; rfl), a5⟩

theorem OwnMR.setLow {w : World} {lo hi g n c : Nat} {D : LsL} (h : OwnMR w lo hi g n c D) (a : Addr) (u : Value) (ha : a.block < lo) : OwnMR (w.setCell a u) lo hi g n c D := by
  obtain ⟨h1, h2, h3, xs, G, ho, hx, hm⟩ := h
  refine ⟨h1, h2, by simpa using h3, xs, G, ownsRow_setX ho a u ha, fun i hi => ?_, hm⟩
  obtain ⟨d, a1, a2, a3, a4, a5, a6⟩ := hx i hi
  exact ⟨d, a1, a2, a3, a4, a5, a6.other a u (by omega)⟩

theorem One.later {w w' : World} {b B : Nat} {v : Value} (h : One w b v) (hb : Below B w w') (hB : b < B) : One w' b v :=
  ⟨Nat.lt_of_lt_of_le h.blk hb.size, by rw [hb.cell (p := ⟨b, 0, none⟩) hB]; exact h.c0⟩
theorem Own2.later {w w' : World} {b B : Nat} {x y : Value} (h : Own2 w b x y) (hb : Below B w w') (hB : b < B) : Own2 w' b x y :=
  ⟨⟨Nat.lt_of_lt_of_le h.two.blk hb.size, by rw [hb.cell (p := ⟨b, 0, none⟩) hB]; exact h.two.c0, by rw [hb.cell (p := ⟨b, 1, none⟩) hB]; exact h.two.c1⟩, by rw [hb.frozen (p := ⟨b, 0, none⟩) hB]; exact h.f0, by rw [hb.frozen (p := ⟨b, 1, none⟩) hB]; exact h.f1⟩
theorem ownL_keep {w w' : World} {B g d : Nat} {l : List Int} (h : OwnL w B g d l) (hb : Below w.heap.size w w') : OwnL w' B g d l :=
  ⟨h.base, ownsRow_later h.own hb h.lt⟩
theorem upto_getD {f : Nat → Int} {k i : Nat} (hi : i < k) : (upto f k).getD i 0 = f i := by simp [upto, hi]
theorem ownsRow_le {w : World} {B e n : Nat} {v : Value} {xs : List Value} (h : w.ownsRow B e 1 v n xs) : ∀ k, v.ownBlock = some k → B ≤ k := fun k hk => (h.lt k hk).1
theorem ownL_ints {w : World} {B g d m : Nat} {L : Nat → Int} (h : OwnL w B g d (upto L m)) : OwnI w B g m d L m :=
  ⟨_, by have := h.own; rw [upto_length] at this; exact this, fun i hi => by rw [List.getElem?_map]; have := upto_getD (f := L) hi; rw [List.getD_eq_getElem?_getD, List.getElem?_eq_getElem (by rw [upto_length]; exact hi)] at this; rw [List.getElem?_eq_getElem (by rw [upto_length]; exact hi)]; simpa using this⟩

/-- What an algebra's maker answers. -/
def AlMade (w : World) (z : Int) (n : Nat) (D : LsL) (e : Ending) (w' : World) : Prop :=
  ∃ lo hi g d, e = .returned (.agg #[.int .i64 z, .slice (some ⟨g, 0, none⟩) n d]) ∧ w.heap.size ≤ lo ∧ OwnMR w' lo hi g n d D
def AlAns (w : World) (C z : Int) (n : Nat) (D : LsL) (e : Ending) (w' : World) : Prop :=
  (C ≠ 0 ∧ e = .returned (.agg #[.int .i64 C, .int .i64 0, .slice none 0 0])) ∨ (C = 0 ∧ ∃ lo hi g d, e = .returned (.agg #[.int .i64 0, .int .i64 z, .slice (some ⟨g, 0, none⟩) n d]) ∧ w.heap.size ≤ lo ∧ OwnMR w' lo hi g n d D)

theorem one_srcV (W : World) (u : Value) (t : TypeId) (g : Nat) (hg : g = W.heap.size) : ∀ (j : Nat) (x : Value), [u][j]? = some x → (W.alloc (.cells #[u] t)).cell? ((⟨g, 0, none⟩ : Addr).add j) = some x := by
  subst hg
  intro j x hx
  match j, hx with
  | 0, hx => simp at hx; subst hx; simp [Addr.add, go_sem]

theorem Own2.grownV {w w' : World} {b : Nat} {x y : Value} {row : Option Nat} (h : Own2 w b x y) (hg : w.grownBy w' row) (hne : row ≠ some b) : Own2 w' b x y := by
  have hb := hg.block b h.two.blk (fun e => hne e.symm)
  exact ⟨⟨Nat.lt_of_lt_of_le h.two.blk hg.size, (cell_of_blk hb).trans h.two.c0, (cell_of_blk hb).trans h.two.c1⟩, by unfold World.frozen?; rw [hb]; exact h.f0, by unfold World.frozen?; rw [hb]; exact h.f1⟩

set_option maxRecDepth 20000 in
set_option maxHeartbeats 12800000 in
theorem l10Make_any (E b off n c : Nat) (N : Nat → ByteArray) (A : Nat → Int) (z s0 : Int) (w : World) (hd : One w E (.slice (some ⟨b, off, none⟩) n c)) (h : Syms w b off n N A) (hg : Sound n A) (hz : 1 ≤ z ∧ z ≤ 3) (hs : 0 ≤ s0 ∧ s0 ≤ 65520) :
    Calls Try.prog 49 #[.pointer (some ⟨E, 0, none⟩), .int .i64 z, .int .i64 s0] w fun e w' => AlMade w z n (algD z A s0) e w' ∧ Below w.heap.size w w' := by
  have hn6 := hg.most
  have hn1 := hg.least
  have bA := alloc_below w (.cells #[.int .i64 0, .slice none 0 0] 35)
  have bB := alloc_below (w.alloc (.cells #[.int .i64 0, .slice none 0 0] 35)) (.cells #[.int .i64 z, .slice none 0 0] 35)
  have r6 := (Own2.new w (.int .i64 0) (.slice none 0 0) 35).keep bB
  have x7 := Own2.new (w.alloc (.cells #[.int .i64 0, .slice none 0 0] 35)) (.int .i64 z) (.slice none 0 0) 35
  simp only [World.size_alloc] at x7
  obtain ⟨W, hW⟩ : ∃ W, W = (w.alloc (.cells #[.int .i64 0, .slice none 0 0] 35)).alloc (.cells #[.int .i64 z, .slice none 0 0] 35) := ⟨_, rfl⟩
  have hsz : W.heap.size = w.heap.size + 2 := by rw [hW]; simp
  have bW := keepB bA bB
  rw [← hW] at r6 x7 bW
  have R6 := hidden r6
  have X7 := hidden x7
  have BW := hidden bW
  have D := hidden (hd.keep bW)
  have Q := hidden (h.keep bW)
  have HG := hidden hg
  have HS := hidden hs
  have HSD := hidden (sdN_bd hs)
  have GM := hidden (GrA.nil W (w.heap.size + 2) (algD z A s0) (by omega))
  have LE := hidden hd.blk
  have LB := hidden h.blk
  clear bA bB r6 x7 bW hd h hg hs
  go_enter Try.func49, Try.ntmps49
  go_wp2
  rw [← hW]
  clear hW
  go_loopw [2, 8] (fun sv i wr => ∃ (k : Nat) (tv : Value), k ≤ n ∧ i = .int .i64 (k : Int) ∧ sv = .int .i64 (sdN s0 (offT z A k)) ∧ Hid (GrA wr (w.heap.size + 2) tv k (algD z A s0)) ∧ Hid (Own2 wr (w.heap.size + 1) (.int .i64 z) tv) ∧ Hid (Below (w.heap.size + 1) W wr)) (fun _ i _ => n - (intOf i).toNat)
  case atStart => exact ⟨0, _, Nat.zero_le _, rfl, rfl, GM, X7, hidden (Below.refl _ _)⟩
  case round =>
    clear GM X7
    obtain ⟨k, tv, hk, rfl, rfl, GM, X7, BL⟩ := hrel
    have d0 := (D.out.later BL.out (by have := LE.out; omega)).c0
    have hws := BL.out.size
    by_cases hlt : k < n
    · have a0 := (Q.out.later BL.out (fun h0 => by have := LB.out h0; omega)).arity k hlt
      obtain ⟨e1, e2, e3⟩ := tN_int hz HG.out hlt
      have HA := hidden (HG.out.arity k hlt)
      have HO := hidden (show OwnL (wr.alloc (.cells #[] 2)) wr.heap.size wr.heap.size 0 [] from ⟨Nat.le_refl _, World.ownsRow_made wr #[] 0 (Nat.le_refl _) (Nat.zero_le _) rfl⟩)
      have BQ := hidden (alloc_below wr (.cells #[] 2))
      have d1 := ((D.out.later BL.out (by have := LE.out; omega)).keep BQ.out).c0
      have a1 := ((Q.out.later BL.out (fun h0 => by have := LB.out h0; omega)).keep BQ.out).arity k hlt
      obtain ⟨P, hP⟩ : ∃ P, P = tN z A k := ⟨_, rfl⟩
      have HP := hidden hP
      rw [← hP] at e1 e2 e3
      have EP := hidden e1
      clear hP e1
      obtain ⟨o, ho⟩ : ∃ o, o = offT z A k := ⟨_, rfl⟩
      have HOF := hidden ho
      rw [← ho]
      clear ho
      go_wp2_with fail
      with_reducible refine (l10Pow_any z hz (A k).toNat (A k) _ (by have := HA.out; omega) (by have := HA.out; omega)).mono ?_
      rintro e w1 ⟨rfl, hb⟩
      rw [EP.out]
      have O1 := hidden (ownL_keep HO.out hb)
      have B1 := hidden (keepB BQ.out hb)
      clear HO BQ hb d0 a0 d1 a1
      go_wp2_with fail
      go_loopw [2, 9, 10] (fun sv tb nn wq => ∃ (j g d : Nat), j ≤ P ∧ nn = .int .i64 ((P : Int) - (j : Int)) ∧ sv = .int .i64 (sdN s0 (o + j)) ∧ tb = .slice (some ⟨g, 0, none⟩) j d ∧ Hid (OwnL wq wr.heap.size g d (upto (fun i => sdN s0 (o + i + 1) % z) j)) ∧ Hid (Below wr.heap.size wr wq)) (fun _ _ nn _ => (intOf nn).toNat)
      case atStart => exact ⟨0, _, _, Nat.zero_le _, by simp, rfl, rfl, O1, B1⟩
      case round =>
        rename World => wq
        obtain ⟨j, g, d, hj, rfl, rfl, rfl, OL, BQ⟩ := hrel
        by_cases hjl : j < P
        · have hys := HSD.out (o + j)
          obtain ⟨y, hy⟩ : ∃ y, y = sdN s0 (o + j) := ⟨_, rfl⟩
          have HY := hidden hy
          rw [← hy] at hys ⊢
          obtain ⟨y2, hy2⟩ : ∃ y2, y2 = (227 * y + 1) % 65521 := ⟨_, rfl⟩
          have HY2 := hidden (show y2 = sdN s0 (o + (j + 1)) by rw [← Nat.add_assoc]; simp only [sdN]; rw [← HY.out]; exact hy2)
          have hy2b : 0 ≤ y2 ∧ y2 ≤ 65520 := by omega
          have O1 := hidden (show wq.ownsRow wr.heap.size 2 1 (.slice (some ⟨g, 0, none⟩) j d) j ((upto (fun i => sdN s0 (o + i + 1) % z) j).map (fun x => Value.int .i64 x)) by have := OL.out.own; rw [upto_length] at this; exact this)
          have hq0 : (z == 0) = false := by simp; omega
          obtain ⟨q, hq⟩ : ∃ q, q = y2 % z := ⟨_, rfl⟩
          have HQ := hidden (show q = (fun i => sdN s0 (o + i + 1) % z) j by rw [hq, HY2.out]; rfl)
          have hqb : 0 ≤ q ∧ q < z := by rw [hq]; exact ⟨Int.emod_nonneg _ (by omega), Int.emod_lt_of_pos _ (by omega)⟩
          have EQ := hidden hq
          have EY2 := hidden hy2
          clear hy hq hy2
          go_wp2_with (at_builtin; refine (fun h => h trivial : (True → _) → _) ?_)
          intro _
          rw [← EY2.out, ← EQ.out]
          refine wpList_append_own _ rfl _ _ 47 rfl wr.heap.size 2 _ (.int .i64 0) 1 8 Try.underlying47 rfl rfl rfl rfl rfl (by decide) _ _ _ rfl (O1.out.alloc _) ⟨_, 0, none⟩ 1 1 [.int .i64 q] rfl (by simp) (one_srcI _ _ _) (oneValI _) (by unfold maxLen; omega) (by omega) (by have := BQ.out.size; simp; omega) ?_
          intro v2 w4 hown hgrow hnil
          obtain ⟨g2, d2, rfl, ho, hb⟩ := ownL_open (l := upto (fun i => sdN s0 (o + i + 1) % z) (j + 1)) hown (by rw [upto_length]) (by rw [upto_succ, HQ.out]; simp) (by simpa using hnil) ((BQ.out.alloc BQ.out.size _).grown hgrow (by have := BQ.out.size; simp; omega) (ownsRow_le O1.out))
          have HF := hidden (And.intro ho hb)
          rw [upto_length]
          clear hown hgrow hnil ho hb
          go_wp2
          go_roundw
          case rel => exact ⟨j + 1, g2, d2, by omega, by go_num, by rw [HY2.out], rfl, hidden HF.out.1, hidden HF.out.2⟩
          case measure => simp [intOf]; omega
        · obtain rfl : j = P := by omega
          have X8 := hidden (X7.out.keep BQ.out)
          have KD := hidden (show j ≤ d from by have hh := OL.out.own; rw [upto_length] at hh; rcases hh.2 with ⟨_, h0⟩ | ⟨g', cap, cur, hv, _, hgg, hc, _⟩; exact (by omega); injection hv with h1 h2 h3; omega)
          obtain ⟨xs, G, hx1, hx2, hx3⟩ := GM.out.row
          have bE := alloc_below wq (.cells #[.slice (some ⟨g, 0, none⟩) j d] 47)
          have XO := hidden (ownsRow_up2 hx1 (keepB BQ.out bE))
          have HX1 := hidden hx1
          have HX2 := hidden hx2
          have HX3 := hidden hx3
          have BE := hidden (keepB BQ.out bE)
          have OJ := hidden ((ownL_ints OL.out).keep bE)
          have LG := hidden OL.out.base
          have HGT := hidden GM.out.top
          have y0 := X8.out.two.c1
          have y1 := (X8.out.keep bE).two.c1
          have X9 := hidden (X8.out.keep bE)
          have h5 := BE.out.size
          have HBK := hidden (show ∀ q, tv.ownBlock = some q → w.heap.size + 2 ≤ q from fun q hq => (GM.out.block q hq).1)
          have BF := hidden (BL.out.trans (BE.out.mono (show w.heap.size + 1 ≤ wr.heap.size by omega)))
          clear hx1 hx2 hx3 bE
          go_wp2_with (at_builtin; refine (fun h => h trivial : (True → _) → _) ?_)
          intro _
          refine wpList_append_lies _ rfl _ _ 25 rfl (w.heap.size + 2) 47 _ (.slice none 0 0) 1 24 Try.underlying25 rfl rfl rfl rfl rfl (by decide) _ k xs rfl XO.out ⟨_, 0, none⟩ 1 1 [.slice (some ⟨g, 0, none⟩) j d] rfl rfl (one_srcV _ _ _ _ (by simp)) (by intro u hu; simp at hu; rcases hu with rfl; rfl) (by decide) (by unfold maxLen; omega) (by omega) (by have := HGT.out; omega) _ rfl ?_
          intro g6 d6 w6 hown hgrow hat hlt6
          replace hgrow : World.grownBy _ w6 tv.ownBlock := hgrow
          replace hat : tv.ownBlock = some g6 ∨ _ := hat
          have NEW := hidden (GrA.put (D := algD z A s0) (k := k) HGT.out BE.out hgrow HX1.out HX2.out HX3.out LG.out (d1 := d) (B1 := wr.heap.size) (by simp only [algD]; rw [← HP.out, ← HOF.out]; exact OJ.out) (by simp only [algD]; rw [← HP.out]; exact KD.out) (by simp only [algD]; rw [← HP.out]; exact hown) (by rcases hat with hh | hh; exact Or.inl hh; exact Or.inr (by rw [hh]; try simp)))
          have X7' := hidden (X9.out.grownV hgrow (fun e => by have := HBK.out _ e; omega))
          have HB6 := hidden (BF.out.grown hgrow (by omega) (fun z hz => by have := HBK.out _ hz; omega))
          have HSV := hidden (show sdN s0 (o + j) = sdN s0 (offT z A (k + 1)) by simp only [offT]; rw [← HOF.out, ← HP.out])
          have z0 := X7'.out.two.c1
          have z1 := X7'.out.f1
          clear hown hgrow hat hlt6 y0 y1 h5
          go_wp2
          go_roundw
          case rel =>
            exact ⟨k + 1, _, by omega, by go_num, by rw [HSV.out], hidden (NEW.out.setLow ⟨w.heap.size + 1, 1, none⟩ _ (by simp)), hidden (X7'.out.set1 _), hidden (HB6.out.setCell (by simp) _)⟩
          case measure => simp [intOf]; omega
    · obtain rfl : k = n := by omega
      obtain ⟨g, d, rfl, hmr⟩ := GM.out.done hn1
      have MR := hidden hmr
      have R8 := hidden (R6.out.later BL.out (by omega))
      have BF := hidden (show Below w.heap.size w wr from BW.out.trans (BL.out.mono (by omega)))
      have x0 := X7.out.two.c0
      have x1 := X7.out.two.c1
      obtain ⟨⟨_, q0, q1⟩, f0, f1⟩ := id R8.out
      clear hmr
      go_wp2
      refine bodyPost_ret (v := .agg #[.int .i64 z, .slice (some ⟨g, 0, none⟩) k d]) (by simp [results, Try.results49, go_sem, q0, q1]) rfl ⟨⟨w.heap.size + 2, wr.heap.size, g, d, rfl, by omega, (MR.out.setLow _ _ (by simp)).setLow _ _ (by simp)⟩, (BF.out.setCell (by simp) _).setCell (by simp) _⟩

end Go.Proofs.Ytdcngfdklpdpkaa
