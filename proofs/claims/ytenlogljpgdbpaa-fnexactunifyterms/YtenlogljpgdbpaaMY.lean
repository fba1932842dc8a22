/- Several texts as one: ByS, ByT, ByW. -/
import Derived.Test.YtenlogljpgdbpaaCanon
import Derived.Test.YtenlogljpgdbpaaMB
import Derived.Deep.AppendLies
import Derived.Deep.RegionHeld3
/- Plain facts: a binding that is made, variable by variable: where its rows lie. -/
namespace Go.Proofs.Ytenlogljpgdbpaa
open Go.RowKit

theorem ownsRow_setX {w : World} {B e n : Nat} {v : Value} {xs : List Value} (h : w.ownsRow B e 1 v n xs) (a : Addr) (u : Value) (ha : a.block < B) : (w.setCell a u).ownsRow B e 1 v n xs := by
  refine ⟨h.1, h.2.imp id ?_⟩
  rintro ⟨g', cap, cur, h1, h2, h3, h4⟩
  exact ⟨g', cap, cur, h1, h2, by rw [Below.heap_setCell w a u g' (by omega)]; exact h3, h4⟩

/-- The terms of a binding that is made: a row of lists, each of its own, none of them where the variables are. -/
def TmS (w : World) (B : Nat) (M : Nat → List Int) (k : Nat) (va ta : Value) : Prop :=
  ∃ (xs : List Value) (G : Nat → Nat), w.ownsRow B 25 1 ta (cnL M k).length xs ∧ (∀ i, i < (cnL M k).length → ∃ d, xs[i]? = some (.slice (some ⟨G i, 0, none⟩) ((cnD M k).m i) d) ∧ (cnD M k).m i ≤ d ∧ B ≤ G i ∧ ta.ownBlock ≠ some (G i) ∧ va.ownBlock ≠ some (G i) ∧ OwnI w B (G i) ((cnD M k).m i) d ((cnD M k).L i) ((cnD M k).m i)) ∧ ∀ i j, i < j → j < (cnL M k).length → G i < G j

/-- A binding that is made, of the variables below k. -/
structure BySt (w : World) (B X : Nat) (M : Nat → List Int) (k : Nat) (va ta : Value) : Prop where
  box : Own2 w X va ta
  low : X < B
  top : B ≤ w.heap.size
  vars : w.ownsRow B 2 1 va (cnL M k).length ((cnL M k).map (fun x => Value.int .i64 x))
  terms : TmS w B M k va ta
  apart : ∀ q, va.ownBlock = some q → ta.ownBlock ≠ some q
  full : 0 < (cnL M k).length → ¬ va = .slice none 0 0 ∧ ¬ ta = .slice none 0 0

theorem TmS.keep {w w' : World} {B : Nat} {M : Nat → List Int} {k : Nat} {va ta : Value} (h : TmS w B M k va ta) (hb : Below w.heap.size w w') : TmS w' B M k va ta := by
  obtain ⟨xs, G, ho, hx, hm⟩ := h
  refine ⟨xs, G, ownsRow_upon ho hb, fun i hi => ?_, hm⟩
  obtain ⟨d, a1, a2, a3, a4, a5, a6⟩ := hx i hi
  exact ⟨d, a1, a2, a3, a4, a5, a6.keep hb⟩

theorem BySt.keep {w w' : World} {B X : Nat} {M : Nat → List Int} {k : Nat} {va ta : Value} (h : BySt w B X M k va ta) (hb : Below w.heap.size w w') : BySt w' B X M k va ta :=
  ⟨h.box.keep hb, h.low, Nat.le_trans h.top hb.size, ownsRow_upon h.vars hb, h.terms.keep hb, h.apart, h.full⟩

theorem BySt.start (w : World) (B X : Nat) (M : Nat → List Int) (h : Own2 w X (.slice none 0 0) (.slice none 0 0)) (hl : X < B) (ht : B ≤ w.heap.size) : BySt w B X M 0 (.slice none 0 0) (.slice none 0 0) :=
  ⟨h, hl, ht, World.ownsRow_nil _ _ _ _, ⟨[], fun _ => 0, World.ownsRow_nil _ _ _ _, fun i hi => by simp [cnL, flt] at hi, fun i j _ hj => by simp [cnL, flt] at hj⟩, fun q hq => by simp [Value.ownBlock] at hq, fun hh => by simp [cnL, flt] at hh⟩

theorem cn_same {M : Nat → List Int} {k : Nat} (h : hasB M k = false) : cnL M (k + 1) = cnL M k := by
  rw [cnL_step, if_neg (by rw [h]; decide)]

/-- A variable for which nothing stands. -/
theorem BySt.skip {w : World} {B X : Nat} {M : Nat → List Int} {k : Nat} {va ta : Value} (h : BySt w B X M k va ta) (hn : hasB M k = false) : BySt w B X M (k + 1) va ta := by
  have e := cn_same hn
  have e2 : cnD M (k + 1) = cnD M k := by simp only [cnD, e]
  refine ⟨h.box, h.low, h.top, by rw [e]; exact h.vars, ?_, h.apart, by rw [e]; exact h.full⟩
  have := h.terms
  unfold TmS at this ⊢
  rw [e, e2]
  exact this

/-- What a binding that is made has in the end. -/
theorem BySt.done {w : World} {B X : Nat} {M : Nat → List Int} {k : Nat} {va ta : Value} (h : BySt w B X M k va ta) (hl : 0 < (cnL M k).length) :
    ∃ g1 d1 g2 d2, va = .slice (some ⟨g1, 0, none⟩) (cnL M k).length d1 ∧ ta = .slice (some ⟨g2, 0, none⟩) (cnL M k).length d2 ∧ OwnBx w B w.heap.size g1 (cnL M k).length d1 (fun i => (cnL M k).getD i 0) g2 (cnL M k).length d2 (cnD M k) := by
  obtain ⟨n1, n2⟩ := h.full hl
  have hv := h.vars
  obtain ⟨xs, G, ho, hx, hm⟩ := h.terms
  rcases hv.2 with ⟨e, _⟩ | ⟨g1, d1, cur, rfl, hg1, _⟩
  · exact absurd e n1
  rcases ho.2 with ⟨e, _⟩ | ⟨g2, d2, cur2, rfl, hg2, _⟩
  · exact absurd e n2
  have l1 := (hv.lt g1 rfl).2
  have l2 := (ho.lt g2 rfl).2
  have ap := h.apart g1 rfl
  refine ⟨g1, d1, g2, d2, rfl, rfl, hg1, l1, Nat.le_refl _, ⟨_, hv, fun i hi => by simp [List.getElem?_eq_getElem hi]⟩, hg2, l2, Nat.le_refl _, fun e => ap (by simp [Value.ownBlock, e]), xs, G, ho, fun i hi => ?_, hm⟩
  obtain ⟨d, a1, a2, a3, a4, a5, a6⟩ := hx i hi
  exact ⟨d, a1, a2, a3, a6.lt, fun e => a4 (by simp [Value.ownBlock, e]), fun e => a5 (by simp [Value.ownBlock, e]), a6⟩

end Go.Proofs.Ytenlogljpgdbpaa

/- Plain facts: one variable more in a binding that is made. -/
namespace Go.Proofs.Ytenlogljpgdbpaa
open Go.RowKit

theorem OwnI.grownO {w w' : World} {B g n c : Nat} {L : Nat → Int} {j : Nat} {row : Option Nat} (h : OwnI w B g n c L j) (hg : w.grownBy w' row) (hne : row ≠ some g) : OwnI w' B g n c L j := by
  obtain ⟨xs, ho, hz⟩ := h
  exact ⟨xs, ho.kept hg (Or.inr (by simp only [Value.ownBlock]; exact fun e => hne e.symm)), hz⟩

theorem Own2.grownO {w w' : World} {X : Nat} {x y : Value} {row : Option Nat} (h : Own2 w X x y) (hg : w.grownBy w' row) (hne : row ≠ some X) : Own2 w' X x y := by
  have hb := hg.block X h.two.blk (fun e => hne e.symm)
  refine ⟨⟨Nat.lt_of_lt_of_le h.two.blk hg.size, by rw [cell_of_blk hb]; exact h.two.c0, by rw [cell_of_blk hb]; exact h.two.c1⟩, ?_, ?_⟩
  · rw [World.frozen?_of_block hb]; exact h.f0
  · rw [World.frozen?_of_block hb]; exact h.f1

/-- The variables have one more, the terms not yet. -/
structure MidSt (w : World) (B X : Nat) (M : Nat → List Int) (k : Nat) (va ta : Value) : Prop where
  box : Own2 w X va ta
  low : X < B
  top : B ≤ w.heap.size
  vars : w.ownsRow B 2 1 va (cnL M (k + 1)).length ((cnL M (k + 1)).map (fun x => Value.int .i64 x))
  terms : TmS w B M k va ta
  apart : ∀ q, va.ownBlock = some q → ta.ownBlock ≠ some q
  held : ¬ va = .slice none 0 0

theorem MidSt.keep {w w' : World} {B X : Nat} {M : Nat → List Int} {k : Nat} {va ta : Value} (h : MidSt w B X M k va ta) (hb : Below w.heap.size w w') : MidSt w' B X M k va ta :=
  ⟨h.box.keep hb, h.low, Nat.le_trans h.top hb.size, ownsRow_upon h.vars hb, h.terms.keep hb, h.apart, h.held⟩

theorem block_lt {w : World} {B e n : Nat} {v : Value} {xs : List Value} (h : w.ownsRow B e 1 v n xs) : ∀ q, v.ownBlock = some q → B ≤ q ∧ q < w.heap.size := h.lt

theorem BySt.mid {w wa w' : World} {B X : Nat} {M : Nat → List Int} {k : Nat} {va ta : Value} (h : BySt w B X M k va ta) (hk : hasB M k = true) (hb : Below w.heap.size w wa) (hg : wa.grownBy w' va.ownBlock) {g cap : Nat}
    (ho : w'.ownsRow B 2 1 (.slice (some ⟨g, 0, none⟩) ((cnL M k).length + 1) cap) ((cnL M k).length + 1) ((cnL M k).map (fun x => Value.int .i64 x) ++ [.int .i64 (k : Int)])) (hat : va.ownBlock = some g ∨ g = wa.heap.size) :
    MidSt (w'.setCell ⟨X, 0, none⟩ (.slice (some ⟨g, 0, none⟩) ((cnL M k).length + 1) cap)) B X M k (.slice (some ⟨g, 0, none⟩) ((cnL M k).length + 1) cap) ta := by
  have e : cnL M (k + 1) = cnL M k ++ [(k : Int)] := by rw [cnL_step, if_pos hk]
  have ha := h.keep hb
  have hX := ha.low
  have nX : va.ownBlock ≠ some X := fun ee => by have := (block_lt ha.vars X ee).1; omega
  have lg := ho.lt g rfl
  have bx := (ha.box.grownO hg nX).set0 (.slice (some ⟨g, 0, none⟩) ((cnL M k).length + 1) cap)
  obtain ⟨xs, G, h1, h2, h3⟩ := ha.terms
  have nT : ta.ownBlock = none ∨ ta.ownBlock ≠ va.ownBlock := by
    cases ev : va.ownBlock with
    | none => cases et : ta.ownBlock <;> simp
    | some q => exact Or.inr (ha.apart q ev)
  refine ⟨bx, h.low, by simp; exact Nat.le_trans ha.top hg.size, ?_, ⟨xs, G, ownsRow_setX (h1.kept hg nT) _ _ hX, fun i hi => ?_, h3⟩, fun q hq => ?_, by simp⟩
  · rw [e, List.length_append, List.map_append]
    exact ownsRow_setX ho _ _ hX
  · obtain ⟨d, a1, a2, a3, a4, a5, a6⟩ := h2 i hi
    refine ⟨d, a1, a2, a3, a4, ?_, (a6.grownO hg a5).other _ _ (by show G i ≠ X; omega)⟩
    intro ee
    have eg : g = G i := by simpa [Value.ownBlock] using ee
    rcases hat with hh | hh
    · exact a5 (by rw [hh, eg])
    · have := a6.lt; omega
  · have eg : g = q := by simpa [Value.ownBlock] using hq
    subst eg
    intro et
    rcases hat with hh | hh
    · exact ha.apart g hh et
    · have := (block_lt h1 g et).2; omega

theorem MidSt.fin {w wa w' : World} {B X : Nat} {M : Nat → List Int} {k : Nat} {va ta : Value} (h : MidSt w B X M k va ta) (hk : hasB M k = true) (hb : Below w.heap.size w wa) (hg : wa.grownBy w' ta.ownBlock) {g cap gc dc Bc : Nat} {xs : List Value} {G : Nat → Nat}
    (hx1 : wa.ownsRow B 25 1 ta (cnL M k).length xs) (hx2 : ∀ i, i < (cnL M k).length → ∃ d, xs[i]? = some (.slice (some ⟨G i, 0, none⟩) ((cnD M k).m i) d) ∧ (cnD M k).m i ≤ d ∧ B ≤ G i ∧ ta.ownBlock ≠ some (G i) ∧ va.ownBlock ≠ some (G i) ∧ G i < w.heap.size ∧ OwnI wa B (G i) ((cnD M k).m i) d ((cnD M k).L i) ((cnD M k).m i)) (hx3 : ∀ i j, i < j → j < (cnL M k).length → G i < G j)
    (hc : w.heap.size ≤ gc) (oc : OwnI wa Bc gc (M k).length dc (fun i => (M k).getD i 0) (M k).length) (hd : (M k).length ≤ dc)
    (ho : w'.ownsRow B 25 1 (.slice (some ⟨g, 0, none⟩) ((cnL M k).length + 1) cap) ((cnL M k).length + 1) (xs ++ [.slice (some ⟨gc, 0, none⟩) (M k).length dc])) (hat : ta.ownBlock = some g ∨ g = wa.heap.size) :
    BySt (w'.setCell ⟨X, 1, none⟩ (.slice (some ⟨g, 0, none⟩) ((cnL M k).length + 1) cap)) B X M (k + 1) va (.slice (some ⟨g, 0, none⟩) ((cnL M k).length + 1) cap) := by
  have e : cnL M (k + 1) = cnL M k ++ [(k : Int)] := by rw [cnL_step, if_pos hk]
  have el : (cnL M (k + 1)).length = (cnL M k).length + 1 := by rw [e]; simp
  have ha := h.keep hb
  have hX := ha.low
  have htop := h.top
  have hbs := hb.size
  have nX : ta.ownBlock ≠ some X := fun ee => by have := (block_lt hx1 X ee).1; omega
  have bx := (ha.box.grownO hg nX).set1 (.slice (some ⟨g, 0, none⟩) ((cnL M k).length + 1) cap)
  have nV : va.ownBlock = none ∨ va.ownBlock ≠ ta.ownBlock := by
    cases ev : va.ownBlock with
    | none => exact Or.inl rfl
    | some q => exact Or.inr (fun ee => ha.apart q ev ee.symm)
  have gV : ∀ q, va.ownBlock = some q → q < w.heap.size := fun q hq => (block_lt h.vars q hq).2
  have gT : ∀ q, ta.ownBlock = some q → q < w.heap.size := fun q hq => by
    obtain ⟨ys, _, h1, _⟩ := h.terms
    exact (block_lt h1 q hq).2
  have hlen : xs.length = (cnL M k).length * 1 := hx1.1
  have mL : ∀ i, i < (cnL M k).length → (cnD M (k + 1)).m i = (cnD M k).m i ∧ (cnD M (k + 1)).L i = (cnD M k).L i := fun i hi => by
    simp only [cnD]; rw [cnD_ahead hi]; exact ⟨rfl, rfl⟩
  have mK : (cnD M (k + 1)).m (cnL M k).length = (M k).length ∧ (cnD M (k + 1)).L (cnL M k).length = fun j => (M k).getD j 0 := by
    simp only [cnD]; rw [cnD_last hk]; exact ⟨by simp, by simp⟩
  refine ⟨bx, h.low, by simp; exact Nat.le_trans ha.top hg.size, ownsRow_setX (ha.vars.kept hg nV) _ _ hX, ⟨_, fun i => if i = (cnL M k).length then gc else G i, by rw [el]; exact ownsRow_setX ho _ _ hX, fun i hi => ?_, fun i j hij hj => ?_⟩, fun q hq => ?_, fun _ => ⟨h.held, by simp⟩⟩
  · rw [el] at hi
    by_cases ei : i = (cnL M k).length
    · subst ei
      simp only [if_true]
      rw [mK.1, mK.2]
      refine ⟨dc, by rw [List.getElem?_append_right (by omega)]; simp [hlen], hd, by omega, ?_, fun ee => by have := gV gc ee; omega, ((oc.grownO hg (fun ee => by have := gT gc ee; omega)).other _ _ (by show gc ≠ X; omega)).base (by omega)⟩
      intro ee
      have eg : g = gc := by simpa [Value.ownBlock] using ee
      rcases hat with hh | hh
      · have := gT g hh; omega
      · have := oc.lt; omega
    · obtain ⟨d, a1, a2, a3, a4, a5, a7, a6⟩ := hx2 i (by omega)
      simp only [ei, if_false]
      rw [(mL i (by omega)).1, (mL i (by omega)).2]
      refine ⟨d, by rw [List.getElem?_append_left (by omega)]; exact a1, a2, a3, ?_, a5, (a6.grownO hg a4).other _ _ (by show G i ≠ X; omega)⟩
      intro ee
      have eg : g = G i := by simpa [Value.ownBlock] using ee
      rcases hat with hh | hh
      · exact a4 (by rw [hh, eg])
      · have := a6.lt; omega
  · rw [el] at hj
    have hi' : i ≠ (cnL M k).length := by omega
    simp only [hi', if_false]
    by_cases ej : j = (cnL M k).length
    · simp only [ej, if_true]
      obtain ⟨_, _, _, _, _, _, a7, _⟩ := hx2 i (by omega)
      omega
    · simp only [ej, if_false]; exact hx3 i j hij (by omega)
  · intro et
    have eg : g = q := by simpa [Value.ownBlock] using et
    subst eg
    rcases hat with hh | hh
    · exact ha.apart g hq hh
    · have := gV g hq; omega

end Go.Proofs.Ytenlogljpgdbpaa

/- Contract: the program's bindingBy: the binding that a function tells, variable by variable. -/
namespace Go.Proofs.Ytenlogljpgdbpaa
open Go.RowKit

/-- A function that tells what stands for a variable: lists of memory that is there already. -/
structure MeanO (gf : Nat) (fr : Array Value) (M : Nat → List Int) (w : World) : Prop where
  ent : Enters gf
  call : ∀ (v : Nat) (w1 : World), v < 12 → Below w.heap.size w w1 → Calls Try.prog gf (#[.int .i64 (v : Int)] ++ fr) w1 fun e w2 => (∃ p c, e = .returned (.slice p (M v).length c) ∧ ((M v).length = 0 ∨ ∃ b off, p = some ⟨b, off, none⟩ ∧ Ints w b off (M v).length (fun i => (M v).getD i 0))) ∧ Below w1.heap.size w1 w2

theorem MeanO.keep {gf : Nat} {fr : Array Value} {M : Nat → List Int} {w w' : World} (h : MeanO gf fr M w) (hb : Below w.heap.size w w') : MeanO gf fr M w' :=
  ⟨h.ent, fun v w1 hv h1 => (h.call v w1 hv (keepB hb h1)).mono fun e w2 hh => by
    obtain ⟨⟨p, c, e1, e2⟩, b⟩ := hh
    exact ⟨⟨p, c, e1, e2.imp id fun ⟨b, off, e3, e4⟩ => ⟨b, off, e3, e4.keep hb⟩⟩, b⟩⟩

theorem MeanO.mean {gf : Nat} {fr : Array Value} {M : Nat → List Int} {w : World} (h : MeanO gf fr M w) : Mean gf fr M w :=
  ⟨h.ent, fun v w1 hv h1 => (h.call v w1 hv h1).mono fun e w2 hh => by
    obtain ⟨⟨p, c, e1, e2⟩, b⟩ := hh
    exact ⟨⟨p, c, e1, e2.imp id fun ⟨b', off, e3, e4⟩ => ⟨b', off, e3, e4.keep (keepB h1 b)⟩⟩, b⟩⟩

theorem cnL_pos1 {M : Nat → List Int} {k : Nat} (h : hasB M k = true) : 0 < (cnL M (k + 1)).length := by
  rw [cnL_step, if_pos h]; simp

theorem OwnI.capY {w : World} {B g k d : Nat} {T : Nat → Int} (h : OwnI w B g k d T k) : k ≤ d := by
  obtain ⟨xs, ho, hx⟩ := h
  rcases ho.2 with ⟨hv, h0⟩ | ⟨g', cap, cur, hv, _, hgg, hc, _⟩
  · omega
  · injection hv with h1 h2 h3; omega

theorem BySt.farY {w : World} {B X : Nat} {M : Nat → List Int} {k : Nat} {va ta : Value} (h : BySt w B X M k va ta) (a : Addr) (u : Value) (ha : a.block < B) (hx : X ≠ a.block) : BySt (w.setCell a u) B X M k va ta := by
  obtain ⟨xs, G, h1, h2, h3⟩ := h.terms
  refine ⟨h.box.other a u hx, h.low, by simpa using h.top, ownsRow_setX h.vars a u ha, ⟨xs, G, ownsRow_setX h1 a u ha, fun i hi => ?_, h3⟩, h.apart, h.full⟩
  obtain ⟨d, a1, a2, a3, a4, a5, a6⟩ := h2 i hi
  exact ⟨d, a1, a2, a3, a4, a5, a6.other a u (by omega)⟩

set_option maxRecDepth 20000 in
set_option maxHeartbeats 25600000 in
theorem bindingBy_walk (gf : Nat) (fr : Array Value) (M : Nat → List Int) (w : World) (hM : MeanO gf fr M w) (hm : ∀ v, (M v).length ≤ 24) :
    Calls Try.prog 33 #[.func (Fn.func gf) #[] fr] w fun e w' => ∃ va ta, e = .returned (.agg #[va, ta]) ∧ (∃ B X, w.heap.size ≤ X ∧ BySt w' B X M 12 va ta ∧ ((cnL M 12).length = 0 → va = .slice none 0 0 ∧ ta = .slice none 0 0)) ∧ Below w.heap.size w w' := by
  have b0 := alloc_below w (.cells #[.slice none 0 0, .slice none 0 0] 29)
  have r0 := Own2.new w (.slice none 0 0) (.slice none 0 0) 29
  obtain ⟨wa, hwa⟩ : ∃ wa, wa = w.alloc (.cells #[.slice none 0 0, .slice none 0 0] 29) := ⟨_, rfl⟩
  have sa : wa.heap.size = w.heap.size + 1 := by rw [hwa]; simp
  rw [← hwa] at b0 r0
  have b1 := alloc_below wa (.cells #[.slice none 0 0, .slice none 0 0] 29)
  have r1 := Own2.new wa (.slice none 0 0) (.slice none 0 0) 29
  obtain ⟨wb, hwb⟩ : ∃ wb, wb = wa.alloc (.cells #[.slice none 0 0, .slice none 0 0] 29) := ⟨_, rfl⟩
  have sb : wb.heap.size = w.heap.size + 1 + 1 := by rw [hwb]; simp [sa]
  rw [← hwb] at b1 r1
  rw [sa] at r1
  have R := hidden (r0.keep b1)
  have B := hidden (keepB b0 b1)
  have HM := hidden hM
  have HS := hidden (BySt.start wb (w.heap.size + 1 + 1) (w.heap.size + 1) M r1 (by omega) (by omega))
  have HL := hidden hm
  have SB := hidden sb
  have hw2 : wb = (w.alloc (.cells #[.slice none 0 0, .slice none 0 0] 29)).alloc (.cells #[.slice none 0 0, .slice none 0 0] 29) := by rw [hwb, hwa]
  clear b0 b1 r0 r1 hM hm sa sb hwb hwa
  go_enter Try.func33, Try.ntmps33
  go_wp2
  rw [← hw2]
  clear hw2 wa
  go_loopw [6] (fun i wr => ∃ k : Nat, k ≤ 12 ∧ i = .int .i64 (k : Nat) ∧ Hid (∃ va ta, BySt wr (w.heap.size + 1 + 1) (w.heap.size + 1) M k va ta ∧ ((cnL M k).length = 0 → va = .slice none 0 0 ∧ ta = .slice none 0 0)) ∧ Hid (Own2 wr w.heap.size (.slice none 0 0) (.slice none 0 0)) ∧ Hid (Below w.heap.size w wr)) (fun i _ => 12 - (intOf i).toNat)
  case atStart => exact ⟨0, by omega, rfl, hidden ⟨_, _, HS.out, fun _ => ⟨rfl, rfl⟩⟩, R, B⟩
  case round =>
    clear HS R B SB
    obtain ⟨k, hk, rfl, HS, HR, HB⟩ := hrel
    obtain ⟨va, ta, hs, hnil⟩ := HS.out
    have BS := hidden hs
    have HZ := hidden hnil
    clear HS hs hnil
    by_cases hlt : k < 12
    · go_wp2_with fail
      rw [HM.out.ent, Oper.upon_enter]
      with_reducible refine (HM.out.call k _ hlt HB.out).mono ?_
      rintro e w2 ⟨⟨p, c, rfl, hp⟩, hb⟩
      replace BS := hidden (BS.out.keep hb)
      replace HR := hidden (HR.out.keep hb)
      replace HB := hidden (keepB HB.out hb)
      have hl24 := HL.out k
      clear hb
      by_cases h0 : M k = []
      · have hn : hasB M k = false := by
          cases hh : hasB M k with
          | false => rfl
          | true => exact absurd h0 (hasB_true.1 hh)
        have HN := hidden hn
        have hz : (M k).length = 0 := by rw [h0]; rfl
        rw [hz]
        clear hp hz h0 hl24 hn
        go_wp2
        go_roundw
        case rel => exact ⟨k + 1, by omega, by go_num, hidden ⟨_, _, BS.out.skip HN.out, by rw [cn_same HN.out]; exact HZ.out⟩, HR, HB⟩
        case measure => simp [intOf]; omega
      · have HK := hidden (hasB_true.2 h0)
        have hz : 0 < (M k).length := List.length_pos_iff.2 h0
        rcases hp with hp | ⟨b, off, rfl, hi⟩
        · omega
        have HI := hidden hi
        obtain ⟨q, hq⟩ : ∃ q, q = (M k).length := ⟨_, rfl⟩
        have HUK := hidden hq
        rw [← hq] at hz hl24 HI ⊢
        have hz' : (0 : Int) < q := by omega
        clear h0 hi hq HZ
        obtain ⟨nn, hnn⟩ : ∃ nn, nn = (cnL M k).length := ⟨_, rfl⟩
        have HNN := hidden hnn
        have hnl := cnL_len M k
        rw [← hnn] at hnl
        have O1 := hidden BS.out.vars
        rw [← hnn] at O1
        have x0 := BS.out.box.two.c0
        have HBX := hidden (show w.heap.size ≤ w.heap.size + 1 + 1 by omega)
        clear hnn
        go_wp2_with (at_builtin; refine wpList_append_lies _ rfl _ _ 25 rfl (w.heap.size + 1 + 1) 2 _ (.int .i64 0) 1 8 Try.underlying25 rfl rfl rfl rfl rfl (by decide) va nn _ rfl (O1.out.alloc _) ⟨_, 0, none⟩ 1 1 [.int .i64 (k : Int)] rfl (by simp) (one_srcI _ _ _) (oneValI _) (by omega) (by unfold maxLen; omega) (by omega) (by have := BS.out.top; simp; omega) _ rfl ?_)
        intro g cap w3 hown hgrow hat hlt3
        have nX : va.ownBlock ≠ some (w.heap.size + 1) := fun ee => by have := (block_lt O1.out _ ee).1; omega
        have bx := (BS.out.box.keep (alloc_below _ _)).grownO hgrow nX
        have y0 := bx.two.c0
        have yf := bx.f0
        rw [HNN.out] at hown
        have MS := hidden (BS.out.mid HK.out (alloc_below _ _) hgrow hown (hat.imp id (fun e => by rw [e]; simp)))
        have HB3 := hidden ((((HB.out.alloc HB.out.size _)).grown hgrow (by have := HB.out.size; simp; omega) (fun q hq => Nat.le_trans HBX.out (ownsRow_le O1.out q hq))).setCell (p := ⟨w.heap.size + 1, 0, none⟩) (by simp) (.slice (some ⟨g, 0, none⟩) ((cnL M k).length + 1) cap))
        have HR3 := hidden (((HR.out.keep (alloc_below _ _)).grownO hgrow (fun ee => by have := (block_lt O1.out _ ee).1; omega)).other ⟨w.heap.size + 1, 0, none⟩ (.slice (some ⟨g, 0, none⟩) ((cnL M k).length + 1) cap) (by simp))
        rw [← HNN.out] at MS HB3 HR3
        obtain ⟨W1, hW1⟩ : ∃ W1, W1 = w3.setCell ⟨w.heap.size + 1, 0, none⟩ (.slice (some ⟨g, 0, none⟩) (nn + 1) cap) := ⟨_, rfl⟩
        rw [← hW1] at MS HB3 HR3
        clear hown hgrow hat hlt3 bx x0 nX O1 HBX BS HB HR hnl HNN
        have HB := HB3
        have HR := HR3
        clear HB3 HR3
        go_wp2
        rw [← hW1]
        clear hW1 y0 yf
        obtain ⟨nt, hnt⟩ : ∃ nt, nt = (cnL M k).length := ⟨_, rfl⟩
        have HNT := hidden hnt
        have hntl := cnL_len M k
        rw [← hnt] at hntl
        clear hnt
        obtain ⟨xs, G, hx1, hx2, hx3⟩ := MS.out.terms
        rw [← HNT.out] at hx1
        have XO := hidden hx1
        have HX2 := hidden hx2
        have HX3 := hidden hx3
        have HBX := hidden (show w.heap.size ≤ w.heap.size + 1 + 1 by omega)
        clear hx1 hx2 hx3
        have SC := hidden (show ∀ wd, Below W1.heap.size W1 wd → Calls Try.prog 66 #[.slice (some ⟨b, off, none⟩) q c] wd fun e w' => ∃ g d, e = .returned (.slice (some ⟨g, 0, none⟩) q d) ∧ Hid (W1.heap.size ≤ g ∧ (M k).length ≤ d ∧ OwnI w' W1.heap.size g (M k).length d (fun i => (M k).getD i 0) (M k).length) ∧ Below W1.heap.size W1 w' from fun wd hd => by
          refine (clone_any _ _ _ _ _ wd (HI.out.keep (keepB HB.out hd)) (by omega)).mono ?_
          rintro e w' ⟨g, d, rfl, hg, ho, hb⟩
          have hgs := hd.size
          have hcap := ho.capY
          refine ⟨g, d, rfl, hidden ⟨by omega, ?_, ?_⟩, keepB hd hb⟩
          · rw [← HUK.out]; exact hcap
          · rw [← HUK.out]; exact ho.base (by omega))
        refine wp_region_held_drew (S := fun _ => True) (by kernel_rfl) trivial (fun hHeld => ?_)
        refine wpAnyH_take (i := 0) (oi := { dst := some 21, op := Op.fieldAddr 29 (Operand.tmp 3) 1, type := 0, pos := "l06_bind.go:63", after := #[], guard := none }) (v := ?_) rfl (by kernel_rfl) (by kernel_rfl) (by kernel_rfl) (fun _ _ _ h => h) (Or.inl ⟨by rfl, ?_⟩) (by assumption) ?_
        rotate_left
        · (intro wv hSw; (try dsimp only at hSw); go_simp; try with_reducible rfl)
        try simp only [Act.put, List.setIfInBounds_toArray, List.set_cons_zero, List.set_cons_succ]
        refine wpAnyH_take (i := 2) (oi := { dst := some 23, op := Op.move (Operand.tmp 5), type := 25, pos := "l06_bind.go:63", after := #[], guard := none }) (v := ?_) rfl (by kernel_rfl) (by kernel_rfl) (by kernel_rfl) (fun _ _ _ h => h) (Or.inl ⟨by rfl, ?_⟩) (by assumption) ?_
        rotate_left
        · (intro wv hSw; (try dsimp only at hSw); go_simp; try with_reducible rfl)
        try simp only [Act.put, List.setIfInBounds_toArray, List.set_cons_zero, List.set_cons_succ]
        refine wpAnyH_ready (rs := [1, 3]) (by kernel_rfl) (by simp) ?_
        refine AllReadyH.cons (o := { dst := some 22, op := Op.load 27 (Operand.tmp 21), type := 27, pos := "l06_bind.go:63", after := #[{ on := 0, ground := Ground.data }], guard := none }) rfl (fun K hK => ?_) (AllReadyH.cons (o := { dst := some 24, op := Op.call { callee := Callee.value (Operand.func 66), args := #[Operand.tmp 23], argTypes := #[25] }, type := 25, pos := "l06_bind.go:63", after := #[{ on := 2, ground := Ground.data }], guard := none }) rfl (fun K hK => ?_) AllReadyH.nil)
        · have xl := (MS.out.box.keep (Below.refl W1.heap.size W1).drew).two.c1
          go_simp
          refine hK.out _ _ trivial (fun hHeld => ?_)
          clear hK K xl
          try simp only [Act.put, List.setIfInBounds_toArray, List.set_cons_zero, List.set_cons_succ]
          refine wpAnyH_ready (rs := [3]) (by kernel_rfl) (by simp) ?_
          refine AllReadyH.cons (o := { dst := some 24, op := Op.call { callee := Callee.value (Operand.func 66), args := #[Operand.tmp 23], argTypes := #[25] }, type := 25, pos := "l06_bind.go:63", after := #[{ on := 2, ground := Ground.data }], guard := none }) rfl (fun K hK => ?_) AllReadyH.nil
          go_simp
          go_at_call 66; with_reducible refine (SC.out _ (Below.refl _ _).drew).mono ?_; rintro e v1 ⟨gc, dc, rfl, HGC, bc⟩
          try go_wp2_with fail
          refine hK.out _ _ trivial (fun hHeld => ?_)
          clear hK K
          try simp only [Act.put, List.setIfInBounds_toArray, List.set_cons_zero, List.set_cons_succ]
          refine wpAnyH_ready (rs := [4]) (by kernel_rfl) (by simp) ?_
          refine AllReadyH.cons (o := { dst := some 25, op := Op.buildSlice 27 1 #[(0, Operand.tmp 24)], type := 27, pos := "l06_bind.go:63", after := #[{ on := 3, ground := Ground.data }], guard := none }) rfl (fun K hK => ?_) AllReadyH.nil
          go_simp
          refine hK.out _ _ trivial (fun hHeld => ?_)
          clear hK K
          try simp only [Act.put, List.setIfInBounds_toArray, List.set_cons_zero, List.set_cons_succ]
          refine wpAnyH_ready (rs := [5]) (by kernel_rfl) (by simp) ?_
          refine AllReadyH.cons (o := { dst := some 26, op := Op.call { callee := Callee.builtin Builtin.append, args := #[Operand.tmp 22, Operand.tmp 25], argTypes := #[27, 27] }, type := 27, pos := "l06_bind.go:63", after := #[{ on := 1, ground := Ground.data }, { on := 4, ground := Ground.data }, { on := 3, ground := Ground.chain }], guard := none }) rfl (fun K hK => ?_) AllReadyH.nil
          refine step_append_lies _ rfl _ _ 27 rfl (w.heap.size + 1 + 1) 25 _ (.slice none 0 0) 1 24 Try.underlying27 rfl rfl rfl rfl rfl (by decide) ta nt xs rfl (ownsRow_upon XO.out (keepB bc (alloc_below _ (.cells #[.slice (some ⟨gc, 0, none⟩) q dc] 25)))) ⟨v1.heap.size, 0, none⟩ 1 1 [.slice (some ⟨gc, 0, none⟩) q dc] rfl rfl (one_srcI _ _ _) (by intro u hu; simp at hu; rw [hu]; rfl) (by decide) (by unfold maxLen; omega) (by omega) (by have h1 := MS.out.top; have h2 := bc.size; simp; omega) _ rfl ?_
          intro g6 d6 v6 hown hgrow hat hlt6
          have bq := keepB HB.out (keepB bc (alloc_below _ (.cells #[.slice (some ⟨gc, 0, none⟩) q dc] 25)))
          have bg := bq.grown hgrow bq.size (fun q hq => Nat.le_trans HBX.out (ownsRow_le XO.out q hq))
          have nX : ta.ownBlock ≠ some (w.heap.size + 1) := fun ee => by have := (block_lt XO.out _ ee).1; omega
          have bx := (MS.out.box.keep (keepB bc (alloc_below _ (.cells #[.slice (some ⟨gc, 0, none⟩) q dc] 25)))).grownO hgrow nX
          have hr := (HR.out.keep (keepB bc (alloc_below _ (.cells #[.slice (some ⟨gc, 0, none⟩) q dc] 25)))).grownO hgrow (fun ee => by have := (block_lt XO.out _ ee).1; omega)
          have y0 := bx.two.c1
          have yf := bx.f1
          refine hK.out _ _ trivial (fun hHeld => ?_)
          clear hK K
          try simp only [Act.put, List.setIfInBounds_toArray, List.set_cons_zero, List.set_cons_succ]
          refine wpAnyH_ready (rs := [6]) (by kernel_rfl) (by simp) ?_
          refine AllReadyH.cons (o := { dst := some 27, op := Op.fieldAddr 29 (Operand.tmp 3) 1, type := 0, pos := "l06_bind.go:63", after := #[{ on := 0, ground := Ground.phase }, { on := 1, ground := Ground.phase }, { on := 2, ground := Ground.phase }, { on := 3, ground := Ground.phase }, { on := 4, ground := Ground.phase }, { on := 5, ground := Ground.phase }], guard := none }) rfl (fun K hK => ?_) AllReadyH.nil
          go_simp
          refine hK.out _ _ trivial (fun hHeld => ?_)
          clear hK K
          try simp only [Act.put, List.setIfInBounds_toArray, List.set_cons_zero, List.set_cons_succ]
          refine wpAnyH_ready (rs := [7]) (by kernel_rfl) (by simp) ?_
          refine AllReadyH.cons (o := { dst := none, op := Op.store 27 (Operand.tmp 27) (Operand.tmp 26), type := 0, pos := "l06_bind.go:63", after := #[{ on := 6, ground := Ground.data }, { on := 5, ground := Ground.data }, { on := 5, ground := Ground.chain }, { on := 0, ground := Ground.phase }, { on := 1, ground := Ground.phase }, { on := 2, ground := Ground.phase }, { on := 3, ground := Ground.phase }, { on := 4, ground := Ground.phase }, { on := 5, ground := Ground.phase }], guard := none }) rfl (fun K hK => ?_) AllReadyH.nil
          have bs := bg.setCell (p := ⟨w.heap.size + 1, 1, none⟩) (by simp) (.slice (some ⟨g6, 0, none⟩) (nt + 1) d6)
          have hr2 := hr.other ⟨w.heap.size + 1, 1, none⟩ (.slice (some ⟨g6, 0, none⟩) (nt + 1) d6) (by simp)
          go_simp
          refine hK.out _ _ trivial (fun hHeld => ?_)
          clear hK K
          try simp only [Act.put, List.setIfInBounds_toArray, List.set_cons_zero, List.set_cons_succ]
          rw [HNT.out] at hown
          have FB := MS.out.fin HK.out (keepB bc (alloc_below _ (.cells #[.slice (some ⟨gc, 0, none⟩) q dc] 25))) hgrow (by have := ownsRow_upon XO.out (keepB bc (alloc_below _ (.cells #[.slice (some ⟨gc, 0, none⟩) q dc] 25))); rw [HNT.out] at this; exact this) (fun i hi => by
            obtain ⟨d, a1, a2, a3, a4, a5, a6⟩ := HX2.out i hi
            exact ⟨d, a1, a2, a3, a4, a5, a6.lt, a6.keep (keepB bc (alloc_below _ (.cells #[.slice (some ⟨gc, 0, none⟩) q dc] 25)))⟩) HX3.out HGC.out.1 (HGC.out.2.2.keep (alloc_below _ _)) HGC.out.2.1 (by have := hown; rw [HUK.out] at this; exact this) hat
          rw [← HNT.out] at FB
          have FBH := hidden FB
          have BSH := hidden bs
          have HRH := hidden hr2
          clear FB bs hr2 hr bg bq bx nX y0 yf hown hgrow hat hlt6 hHeld
          refine wpAnyH_done (by kernel_rfl) ?_ _
          go_wp2
          go_roundw
          case rel => exact ⟨k + 1, by omega, by go_num, hidden ⟨_, _, FBH.out, fun h => by have := cnL_pos1 HK.out; omega⟩, HRH, BSH⟩
          case measure => simp [intOf]; omega
        · go_simp
          go_at_call 66; with_reducible refine (SC.out _ (Below.refl _ _).drew).mono ?_; rintro e v1 ⟨gc, dc, rfl, HGC, bc⟩
          try go_wp2_with fail
          refine hK.out _ _ trivial (fun hHeld => ?_)
          clear hK K
          try simp only [Act.put, List.setIfInBounds_toArray, List.set_cons_zero, List.set_cons_succ]
          refine wpAnyH_ready (rs := [1, 4]) (by kernel_rfl) (by simp) ?_
          refine AllReadyH.cons (o := { dst := some 22, op := Op.load 27 (Operand.tmp 21), type := 27, pos := "l06_bind.go:63", after := #[{ on := 0, ground := Ground.data }], guard := none }) rfl (fun K hK => ?_) (AllReadyH.cons (o := { dst := some 25, op := Op.buildSlice 27 1 #[(0, Operand.tmp 24)], type := 27, pos := "l06_bind.go:63", after := #[{ on := 3, ground := Ground.data }], guard := none }) rfl (fun K hK => ?_) AllReadyH.nil)
          · have xl := (MS.out.box.keep bc).two.c1
            go_simp
            refine hK.out _ _ trivial (fun hHeld => ?_)
            clear hK K xl
            try simp only [Act.put, List.setIfInBounds_toArray, List.set_cons_zero, List.set_cons_succ]
            refine wpAnyH_ready (rs := [4]) (by kernel_rfl) (by simp) ?_
            refine AllReadyH.cons (o := { dst := some 25, op := Op.buildSlice 27 1 #[(0, Operand.tmp 24)], type := 27, pos := "l06_bind.go:63", after := #[{ on := 3, ground := Ground.data }], guard := none }) rfl (fun K hK => ?_) AllReadyH.nil
            go_simp
            refine hK.out _ _ trivial (fun hHeld => ?_)
            clear hK K
            try simp only [Act.put, List.setIfInBounds_toArray, List.set_cons_zero, List.set_cons_succ]
            refine wpAnyH_ready (rs := [5]) (by kernel_rfl) (by simp) ?_
            refine AllReadyH.cons (o := { dst := some 26, op := Op.call { callee := Callee.builtin Builtin.append, args := #[Operand.tmp 22, Operand.tmp 25], argTypes := #[27, 27] }, type := 27, pos := "l06_bind.go:63", after := #[{ on := 1, ground := Ground.data }, { on := 4, ground := Ground.data }, { on := 3, ground := Ground.chain }], guard := none }) rfl (fun K hK => ?_) AllReadyH.nil
            refine step_append_lies _ rfl _ _ 27 rfl (w.heap.size + 1 + 1) 25 _ (.slice none 0 0) 1 24 Try.underlying27 rfl rfl rfl rfl rfl (by decide) ta nt xs rfl (ownsRow_upon XO.out (keepB bc (alloc_below _ (.cells #[.slice (some ⟨gc, 0, none⟩) q dc] 25)))) ⟨v1.heap.size, 0, none⟩ 1 1 [.slice (some ⟨gc, 0, none⟩) q dc] rfl rfl (one_srcI _ _ _) (by intro u hu; simp at hu; rw [hu]; rfl) (by decide) (by unfold maxLen; omega) (by omega) (by have h1 := MS.out.top; have h2 := bc.size; simp; omega) _ rfl ?_
            intro g6 d6 v6 hown hgrow hat hlt6
            have bq := keepB HB.out (keepB bc (alloc_below _ (.cells #[.slice (some ⟨gc, 0, none⟩) q dc] 25)))
            have bg := bq.grown hgrow bq.size (fun q hq => Nat.le_trans HBX.out (ownsRow_le XO.out q hq))
            have nX : ta.ownBlock ≠ some (w.heap.size + 1) := fun ee => by have := (block_lt XO.out _ ee).1; omega
            have bx := (MS.out.box.keep (keepB bc (alloc_below _ (.cells #[.slice (some ⟨gc, 0, none⟩) q dc] 25)))).grownO hgrow nX
            have hr := (HR.out.keep (keepB bc (alloc_below _ (.cells #[.slice (some ⟨gc, 0, none⟩) q dc] 25)))).grownO hgrow (fun ee => by have := (block_lt XO.out _ ee).1; omega)
            have y0 := bx.two.c1
            have yf := bx.f1
            refine hK.out _ _ trivial (fun hHeld => ?_)
            clear hK K
            try simp only [Act.put, List.setIfInBounds_toArray, List.set_cons_zero, List.set_cons_succ]
            refine wpAnyH_ready (rs := [6]) (by kernel_rfl) (by simp) ?_
            refine AllReadyH.cons (o := { dst := some 27, op := Op.fieldAddr 29 (Operand.tmp 3) 1, type := 0, pos := "l06_bind.go:63", after := #[{ on := 0, ground := Ground.phase }, { on := 1, ground := Ground.phase }, { on := 2, ground := Ground.phase }, { on := 3, ground := Ground.phase }, { on := 4, ground := Ground.phase }, { on := 5, ground := Ground.phase }], guard := none }) rfl (fun K hK => ?_) AllReadyH.nil
            go_simp
            refine hK.out _ _ trivial (fun hHeld => ?_)
            clear hK K
            try simp only [Act.put, List.setIfInBounds_toArray, List.set_cons_zero, List.set_cons_succ]
            refine wpAnyH_ready (rs := [7]) (by kernel_rfl) (by simp) ?_
            refine AllReadyH.cons (o := { dst := none, op := Op.store 27 (Operand.tmp 27) (Operand.tmp 26), type := 0, pos := "l06_bind.go:63", after := #[{ on := 6, ground := Ground.data }, { on := 5, ground := Ground.data }, { on := 5, ground := Ground.chain }, { on := 0, ground := Ground.phase }, { on := 1, ground := Ground.phase }, { on := 2, ground := Ground.phase }, { on := 3, ground := Ground.phase }, { on := 4, ground := Ground.phase }, { on := 5, ground := Ground.phase }], guard := none }) rfl (fun K hK => ?_) AllReadyH.nil
            have bs := bg.setCell (p := ⟨w.heap.size + 1, 1, none⟩) (by simp) (.slice (some ⟨g6, 0, none⟩) (nt + 1) d6)
            have hr2 := hr.other ⟨w.heap.size + 1, 1, none⟩ (.slice (some ⟨g6, 0, none⟩) (nt + 1) d6) (by simp)
            go_simp
            refine hK.out _ _ trivial (fun hHeld => ?_)
            clear hK K
            try simp only [Act.put, List.setIfInBounds_toArray, List.set_cons_zero, List.set_cons_succ]
            rw [HNT.out] at hown
            have FB := MS.out.fin HK.out (keepB bc (alloc_below _ (.cells #[.slice (some ⟨gc, 0, none⟩) q dc] 25))) hgrow (by have := ownsRow_upon XO.out (keepB bc (alloc_below _ (.cells #[.slice (some ⟨gc, 0, none⟩) q dc] 25))); rw [HNT.out] at this; exact this) (fun i hi => by
              obtain ⟨d, a1, a2, a3, a4, a5, a6⟩ := HX2.out i hi
              exact ⟨d, a1, a2, a3, a4, a5, a6.lt, a6.keep (keepB bc (alloc_below _ (.cells #[.slice (some ⟨gc, 0, none⟩) q dc] 25)))⟩) HX3.out HGC.out.1 (HGC.out.2.2.keep (alloc_below _ _)) HGC.out.2.1 (by have := hown; rw [HUK.out] at this; exact this) hat
            rw [← HNT.out] at FB
            have FBH := hidden FB
            have BSH := hidden bs
            have HRH := hidden hr2
            clear FB bs hr2 hr bg bq bx nX y0 yf hown hgrow hat hlt6 hHeld
            refine wpAnyH_done (by kernel_rfl) ?_ _
            go_wp2
            go_roundw
            case rel => exact ⟨k + 1, by omega, by go_num, hidden ⟨_, _, FBH.out, fun h => by have := cnL_pos1 HK.out; omega⟩, HRH, BSH⟩
            case measure => simp [intOf]; omega
          · go_simp
            refine hK.out _ _ trivial (fun hHeld => ?_)
            clear hK K
            try simp only [Act.put, List.setIfInBounds_toArray, List.set_cons_zero, List.set_cons_succ]
            refine wpAnyH_ready (rs := [1]) (by kernel_rfl) (by simp) ?_
            refine AllReadyH.cons (o := { dst := some 22, op := Op.load 27 (Operand.tmp 21), type := 27, pos := "l06_bind.go:63", after := #[{ on := 0, ground := Ground.data }], guard := none }) rfl (fun K hK => ?_) AllReadyH.nil
            have xl := (MS.out.box.keep (keepB bc (alloc_below _ (.cells #[.slice (some ⟨gc, 0, none⟩) q dc] 25)))).two.c1
            go_simp
            refine hK.out _ _ trivial (fun hHeld => ?_)
            clear hK K xl
            try simp only [Act.put, List.setIfInBounds_toArray, List.set_cons_zero, List.set_cons_succ]
            refine wpAnyH_ready (rs := [5]) (by kernel_rfl) (by simp) ?_
            refine AllReadyH.cons (o := { dst := some 26, op := Op.call { callee := Callee.builtin Builtin.append, args := #[Operand.tmp 22, Operand.tmp 25], argTypes := #[27, 27] }, type := 27, pos := "l06_bind.go:63", after := #[{ on := 1, ground := Ground.data }, { on := 4, ground := Ground.data }, { on := 3, ground := Ground.chain }], guard := none }) rfl (fun K hK => ?_) AllReadyH.nil
            refine step_append_lies _ rfl _ _ 27 rfl (w.heap.size + 1 + 1) 25 _ (.slice none 0 0) 1 24 Try.underlying27 rfl rfl rfl rfl rfl (by decide) ta nt xs rfl (ownsRow_upon XO.out (keepB bc (alloc_below _ (.cells #[.slice (some ⟨gc, 0, none⟩) q dc] 25)))) ⟨v1.heap.size, 0, none⟩ 1 1 [.slice (some ⟨gc, 0, none⟩) q dc] rfl rfl (one_srcI _ _ _) (by intro u hu; simp at hu; rw [hu]; rfl) (by decide) (by unfold maxLen; omega) (by omega) (by have h1 := MS.out.top; have h2 := bc.size; simp; omega) _ rfl ?_
            intro g6 d6 v6 hown hgrow hat hlt6
            have bq := keepB HB.out (keepB bc (alloc_below _ (.cells #[.slice (some ⟨gc, 0, none⟩) q dc] 25)))
            have bg := bq.grown hgrow bq.size (fun q hq => Nat.le_trans HBX.out (ownsRow_le XO.out q hq))
            have nX : ta.ownBlock ≠ some (w.heap.size + 1) := fun ee => by have := (block_lt XO.out _ ee).1; omega
            have bx := (MS.out.box.keep (keepB bc (alloc_below _ (.cells #[.slice (some ⟨gc, 0, none⟩) q dc] 25)))).grownO hgrow nX
            have hr := (HR.out.keep (keepB bc (alloc_below _ (.cells #[.slice (some ⟨gc, 0, none⟩) q dc] 25)))).grownO hgrow (fun ee => by have := (block_lt XO.out _ ee).1; omega)
            have y0 := bx.two.c1
            have yf := bx.f1
            refine hK.out _ _ trivial (fun hHeld => ?_)
            clear hK K
            try simp only [Act.put, List.setIfInBounds_toArray, List.set_cons_zero, List.set_cons_succ]
            refine wpAnyH_ready (rs := [6]) (by kernel_rfl) (by simp) ?_
            refine AllReadyH.cons (o := { dst := some 27, op := Op.fieldAddr 29 (Operand.tmp 3) 1, type := 0, pos := "l06_bind.go:63", after := #[{ on := 0, ground := Ground.phase }, { on := 1, ground := Ground.phase }, { on := 2, ground := Ground.phase }, { on := 3, ground := Ground.phase }, { on := 4, ground := Ground.phase }, { on := 5, ground := Ground.phase }], guard := none }) rfl (fun K hK => ?_) AllReadyH.nil
            go_simp
            refine hK.out _ _ trivial (fun hHeld => ?_)
            clear hK K
            try simp only [Act.put, List.setIfInBounds_toArray, List.set_cons_zero, List.set_cons_succ]
            refine wpAnyH_ready (rs := [7]) (by kernel_rfl) (by simp) ?_
            refine AllReadyH.cons (o := { dst := none, op := Op.store 27 (Operand.tmp 27) (Operand.tmp 26), type := 0, pos := "l06_bind.go:63", after := #[{ on := 6, ground := Ground.data }, { on := 5, ground := Ground.data }, { on := 5, ground := Ground.chain }, { on := 0, ground := Ground.phase }, { on := 1, ground := Ground.phase }, { on := 2, ground := Ground.phase }, { on := 3, ground := Ground.phase }, { on := 4, ground := Ground.phase }, { on := 5, ground := Ground.phase }], guard := none }) rfl (fun K hK => ?_) AllReadyH.nil
            have bs := bg.setCell (p := ⟨w.heap.size + 1, 1, none⟩) (by simp) (.slice (some ⟨g6, 0, none⟩) (nt + 1) d6)
            have hr2 := hr.other ⟨w.heap.size + 1, 1, none⟩ (.slice (some ⟨g6, 0, none⟩) (nt + 1) d6) (by simp)
            go_simp
            refine hK.out _ _ trivial (fun hHeld => ?_)
            clear hK K
            try simp only [Act.put, List.setIfInBounds_toArray, List.set_cons_zero, List.set_cons_succ]
            rw [HNT.out] at hown
            have FB := MS.out.fin HK.out (keepB bc (alloc_below _ (.cells #[.slice (some ⟨gc, 0, none⟩) q dc] 25))) hgrow (by have := ownsRow_upon XO.out (keepB bc (alloc_below _ (.cells #[.slice (some ⟨gc, 0, none⟩) q dc] 25))); rw [HNT.out] at this; exact this) (fun i hi => by
              obtain ⟨d, a1, a2, a3, a4, a5, a6⟩ := HX2.out i hi
              exact ⟨d, a1, a2, a3, a4, a5, a6.lt, a6.keep (keepB bc (alloc_below _ (.cells #[.slice (some ⟨gc, 0, none⟩) q dc] 25)))⟩) HX3.out HGC.out.1 (HGC.out.2.2.keep (alloc_below _ _)) HGC.out.2.1 (by have := hown; rw [HUK.out] at this; exact this) hat
            rw [← HNT.out] at FB
            have FBH := hidden FB
            have BSH := hidden bs
            have HRH := hidden hr2
            clear FB bs hr2 hr bg bq bx nX y0 yf hown hgrow hat hlt6 hHeld
            refine wpAnyH_done (by kernel_rfl) ?_ _
            go_wp2
            go_roundw
            case rel => exact ⟨k + 1, by omega, by go_num, hidden ⟨_, _, FBH.out, fun h => by have := cnL_pos1 HK.out; omega⟩, HRH, BSH⟩
            case measure => simp [intOf]; omega
    · obtain rfl : k = 12 := by omega
      have q0 := HR.out.two.c0
      have q1 := HR.out.two.c1
      have qf0 := HR.out.f0
      have qf1 := HR.out.f1
      have x0 := BS.out.box.two.c0
      have x1 := BS.out.box.two.c1
      obtain ⟨p1, n1, c1, hva⟩ : ∃ p n c, va = .slice p n c := by
        rcases BS.out.vars.2 with ⟨e, _⟩ | ⟨g', cap, cur, e, _⟩
        · exact ⟨_, _, _, e⟩
        · exact ⟨_, _, _, e⟩
      obtain ⟨p2, n2, c2, hta⟩ : ∃ p n c, ta = .slice p n c := by
        obtain ⟨xs, G, h1, _⟩ := BS.out.terms
        rcases h1.2 with ⟨e, _⟩ | ⟨g', cap, cur, e, _⟩
        · exact ⟨_, _, _, e⟩
        · exact ⟨_, _, _, e⟩
      subst hva
      subst hta
      go_wp2
      refine bodyPost_ret (v := .agg #[.slice p1 n1 c1, .slice p2 n2 c2]) (by simp [results, Try.results33, go_sem, q0, q1]) rfl ⟨_, _, rfl, ⟨w.heap.size + 1 + 1, w.heap.size + 1, by omega, ?_, HZ.out⟩, ?_⟩
      · exact (BS.out.farY ⟨w.heap.size, 0, none⟩ _ (by show w.heap.size < w.heap.size + 1 + 1; omega) (by simp)).farY ⟨w.heap.size, 1, none⟩ _ (by show w.heap.size < w.heap.size + 1 + 1; omega) (by simp)
      · exact (HB.out.setCell (Nat.le_refl _) _).setCell (Nat.le_refl _) _

end Go.Proofs.Ytenlogljpgdbpaa
