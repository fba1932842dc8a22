/- Several texts as one: Mat, Bnd, BndF, PutIn, Vars, Shift. -/
import Derived.Test.YtbgemmhkfbfooaaMA
import Derived.Test.YtbgemmhkfbfooaaSameT
import Derived.Test.YtbgemmhkfbfooaaPut
import Derived.Test.YtbgemmhkfbfooaaVarsI
import Derived.Test.YtbgemmhkfbfooaaCat
/- Contracts: lists of lists of numbers: how great they are, their copies and their comparison. -/
namespace Go.Proofs.Ytbgemmhkfbfooaa
open Go.RowKit

/-- The lists of a list: how long they are, and their numbers. -/
structure LsL where
  m : Nat → Nat
  L : Nat → Nat → Int

/-- Lists that came in, in a row. -/
structure RowM (w : World) (b off n : Nat) (D : LsL) : Prop where
  blk : 0 < n → b < w.heap.size
  row : ∀ i, i < n → ∃ p c, w.cell? ⟨b, off + i, none⟩ = some (.slice p (D.m i) c) ∧ SrcI w p (D.m i) (D.L i) ∧ D.m i ≤ maxLen

theorem RowM.keep {w w' : World} {b off n : Nat} {D : LsL} (h : RowM w b off n D) (hb : Below w.heap.size w w') : RowM w' b off n D :=
  ⟨fun h0 => Nat.lt_of_lt_of_le (h.blk h0) hb.size, fun i hi => by
    obtain ⟨p1, c1, h1, h3, h5⟩ := h.row i hi
    have hk := h.blk (by omega)
    exact ⟨p1, c1, by rw [(bcell hb).1 _ _ hk]; exact h1, h3.keep hb, h5⟩⟩

/-- What came in: no list, or a row of them. -/
def SrcM (w : World) (p : Option Addr) (n : Nat) (D : LsL) : Prop :=
  n ≤ maxLen ∧ (n = 0 ∨ ∃ b off, p = some ⟨b, off, none⟩ ∧ RowM w b off n D)

theorem SrcM.keep {w w' : World} {p : Option Addr} {n : Nat} {D : LsL} (h : SrcM w p n D) (hb : Below w.heap.size w w') : SrcM w' p n D :=
  ⟨h.1, h.2.imp id fun ⟨b, off, hp, hs⟩ => ⟨b, off, hp, hs.keep hb⟩⟩

/-- Copies of lists, in a row. -/
structure Mats (w : World) (b off n : Nat) (D : LsL) : Prop where
  blk : 0 < n → b < w.heap.size
  row : ∀ i, i < n → ∃ g o c, w.cell? ⟨b, off + i, none⟩ = some (.slice (some ⟨g, o, none⟩) (D.m i) c) ∧ Ints w g o (D.m i) (D.L i) ∧ D.m i ≤ c

theorem Mats.keep {w w' : World} {b off n : Nat} {D : LsL} (h : Mats w b off n D) (hb : Below w.heap.size w w') : Mats w' b off n D :=
  ⟨fun h0 => Nat.lt_of_lt_of_le (h.blk h0) hb.size, fun i hi => by
    obtain ⟨g1, o1, c1, h1, h3, h4⟩ := h.row i hi
    have hk := h.blk (by omega)
    exact ⟨g1, o1, c1, by rw [(bcell hb).1 _ _ hk]; exact h1, h3.keep hb, h4⟩⟩

/-- What a law copies. -/
structure KeptM (n : Nat) (D : LsL) : Prop where
  most : n ≤ 1048576
  m : ∀ i, i < n → D.m i ≤ 1048576

/-- A row of copies in memory of its own, of which the first k are known; each lies behind those ahead of it. -/
def OwnM (w : World) (B g n c : Nat) (D : LsL) (k : Nat) : Prop :=
  ∃ (xs : List Value) (G : Nat → Nat), w.ownsRow B 27 1 (.slice (some ⟨g, 0, none⟩) n c) n xs ∧ (∀ i, i < k → ∃ d, xs[i]? = some (.slice (some ⟨G i, 0, none⟩) (D.m i) d) ∧ D.m i ≤ d ∧ B ≤ G i ∧ G i ≠ g ∧ OwnI w B (G i) (D.m i) d (D.L i) (D.m i)) ∧ ∀ i j, i < j → j < k → G i < G j

theorem OwnM.lt {w : World} {B g n c : Nat} {D : LsL} {k : Nat} (h : OwnM w B g n c D k) : g < w.heap.size := by
  obtain ⟨xs, G, ho, _⟩ := h; exact (ho.lt g rfl).2

theorem OwnM.keep {w w' : World} {B g n c : Nat} {D : LsL} {k : Nat} (h : OwnM w B g n c D k) (hb : Below w.heap.size w w') : OwnM w' B g n c D k := by
  have hl := h.lt
  obtain ⟨xs, G, ho, hx, hm⟩ := h
  refine ⟨xs, G, ownsRow_later ho hb hl, fun i hi => ?_, hm⟩
  obtain ⟨d, a1, a2, a3, a4, a5⟩ := hx i hi
  exact ⟨d, a1, a2, a3, a4, a5.keep hb⟩

theorem OwnM.mats {w : World} {B g n c : Nat} {D : LsL} (h : OwnM w B g n c D n) : Mats w g 0 n D := by
  have hl := h.lt
  obtain ⟨xs, G, ho, hx, _⟩ := h
  refine ⟨fun _ => hl, fun i hi => ?_⟩
  obtain ⟨d, a1, a2, _, _, a5⟩ := hx i hi
  exact ⟨G i, 0, d, by rw [Nat.zero_add, ho.cellAt _ (by omega)]; exact a1, a5.ints, a2⟩

theorem OwnM.put {w w1 : World} {B g n c : Nat} {D : LsL} {k : Nat} (h : OwnM w B g n c D k) (hb : Below w.heap.size w w1) (hk : k < n) {g1 d1 : Nat} (l1 : w.heap.size ≤ g1) (l2 : D.m k ≤ d1) (hB : B ≤ w.heap.size) {B' : Nat} (i1 : OwnI w1 B' g1 (D.m k) d1 (D.L k) (D.m k)) :
    (∃ u0, w1.cell? ⟨g, k, none⟩ = some u0) ∧ w1.frozen? ⟨g, k, none⟩ = false ∧
    OwnM (w1.setCell ⟨g, k, none⟩ (.slice (some ⟨g1, 0, none⟩) (D.m k) d1)) B g n c D (k + 1) ∧
    w1.grownBy (w1.setCell ⟨g, k, none⟩ (.slice (some ⟨g1, 0, none⟩) (D.m k) d1)) (some g) := by
  have hl := h.lt
  have h1 := h.keep hb
  obtain ⟨xs, G, ho0, hx0, hm0⟩ := h
  have ho := ownsRow_later ho0 hb hl
  obtain ⟨o1, e1⟩ := ho.stored k (.slice (some ⟨g1, 0, none⟩) (D.m k) d1)
  have hlen : xs.length = n * 1 := ho.1
  refine ⟨⟨_, (ho.cellAt k (by omega)).trans (List.getElem?_eq_getElem (by omega))⟩, ho.frozenAt _, ⟨_, fun i => if i = k then g1 else G i, o1, fun i hi => ?_, fun i j hij hj => ?_⟩, e1⟩
  · by_cases e : i = k
    · subst e
      simp only [if_true]
      exact ⟨d1, by rw [List.getElem?_set_self (by omega)], l2, by omega, by omega, ((i1.base (by omega)).other _ _ (by simp; omega))⟩
    · obtain ⟨d, a1, a2, a3, a4, a5⟩ := hx0 i (by omega)
      simp only [e, if_false]
      exact ⟨d, by rw [List.getElem?_set_ne (by omega)]; exact a1, a2, a3, a4, ((a5.keep hb).other _ _ (by simpa using a4))⟩
  · have hne : i ≠ k := by omega
    obtain ⟨d, _, _, _, _, a5⟩ := hx0 i (by omega)
    have := a5.lt
    simp only [hne, if_false]
    by_cases e : j = k
    · simp only [e, if_true]; omega
    · simp only [e, if_false]; exact hm0 i j hij (by omega)

set_option maxRecDepth 20000 in
theorem makeMats (w : World) (n : Nat) (hn : n ≤ 1048576) : ∃ w', (Instr.makeSlice 72 (.int .i64 (n : Int)) (.int .i64 (n : Int))).run Try.prog w = .ok (.slice (some ⟨w.heap.size, 0, none⟩) n n) w' ∧
      w'.ownsRow w.heap.size 27 1 (.slice (some ⟨w.heap.size, 0, none⟩) n n) n (madeCells (Value.slice none 0 0).cells (n * 1)).toList ∧ w.grownBy w' none :=
  run_make_full (P := Try.prog) w w.heap.size 72 27 _ (.slice none 0 0) 1 Try.underlying72 rfl rfl rfl .i64 .i64 n (by show 24 * n ≤ _; omega) (by unfold maxLen; omega) (Nat.le_refl _)

end Go.Proofs.Ytbgemmhkfbfooaa

/- Contracts: bindings: how great they are, their copies and their comparison. -/
namespace Go.Proofs.Ytbgemmhkfbfooaa
open Go.RowKit

theorem OwnM.other {w : World} {B g n c : Nat} {D : LsL} {k : Nat} (h : OwnM w B g n c D k) (a : Addr) (v : Value) (ha : a.block < B) : OwnM (w.setCell a v) B g n c D k := by
  obtain ⟨xs, G, ho, hx, hm⟩ := h
  have hB : B ≤ g := (ho.lt g rfl).1
  have e : (w.setCell a v).heap[g]? = w.heap[g]? := Below.heap_setCell w a v g (by omega)
  refine ⟨xs, G, ⟨ho.1, ho.2.imp id ?_⟩, fun i hi => ?_, hm⟩
  · rintro ⟨g', cap, cur, h1, h2, h3, h4⟩
    have e' : g' = g := by simp at h1; exact h1.1.symm
    subst e'
    exact ⟨g', cap, cur, h1, h2, by rw [e]; exact h3, h4⟩
  · obtain ⟨d, a1, a2, a3, a4, a5⟩ := hx i hi
    exact ⟨d, a1, a2, a3, a4, a5.other a v (by omega)⟩

theorem OwnM.base {w : World} {B B' g n c : Nat} {D : LsL} {k : Nat} (h : OwnM w B g n c D k) (hB : B' ≤ B) : OwnM w B' g n c D k := by
  obtain ⟨xs, G, ho, hx, hm⟩ := h
  refine ⟨xs, G, ⟨ho.1, ho.2.imp id ?_⟩, fun i hi => ?_, hm⟩
  · rintro ⟨g', cap, cur, h1, h2, h3, h4⟩
    exact ⟨g', cap, cur, h1, by omega, h3, h4⟩
  · obtain ⟨d, a1, a2, a3, a4, a5⟩ := hx i hi
    exact ⟨d, a1, a2, by omega, a4, a5.base (by omega)⟩

end Go.Proofs.Ytbgemmhkfbfooaa

/- Contracts: the fault of a binding, as the model and as the program tells it. -/
namespace Go.Proofs.Ytbgemmhkfbfooaa
open Go.RowKit

theorem wrap_sm (x : Int) (h0 : 0 ≤ x) (h : x < 100000000000000) : IntKind.i64.wrap x = x := by
  have e : x % 2 ^ 64 = x := Int.emod_eq_of_lt (by omega) (by omega)
  simp only [IntKind.wrap, IntKind.bits, IntKind.signed, e]
  rw [if_neg]
  simp; omega

open Classical in
/-- Whether the first m numbers rise. -/
noncomputable def riseB (m : Nat) (V : Nat → Int) : Bool := decide (∀ i, i + 1 < m → V i < V (i + 1))

open Classical in
theorem rise_no {m : Nat} {V : Nat → Int} {i : Nat} (hi : i + 1 < m) (h : ¬ V i < V (i + 1)) : riseB m V = false := by
  unfold riseB; exact decide_eq_false (fun hx => h (hx i hi))
open Classical in
theorem rise_yes {m : Nat} {V : Nat → Int} (h : ∀ i, i + 1 < m → V i < V (i + 1)) : riseB m V = true := by
  unfold riseB; exact decide_eq_true h
open Classical in
theorem rise_all {m : Nat} {V : Nat → Int} (h : riseB m V = true) : ∀ i, i + 1 < m → V i < V (i + 1) := by
  unfold riseB at h; exact of_decide_eq_true h

/-- The code of one variable and its term. -/
noncomputable def bnOne (n : Nat) (A : Nat → Int) (v : Int) (m : Nat) (T : Nat → Int) : Int := if 0 ≤ v ∧ v ≤ 11 then lF n A m T else 3

/-- The code of the first k variables and their terms. -/
noncomputable def bnTo (n : Nat) (A : Nat → Int) (V : Nat → Int) (D : LsL) : Nat → Int
  | 0 => 0
  | k + 1 => if bnTo n A V D k = 0 then bnOne n A (V k) (D.m k) (D.L k) else bnTo n A V D k

/-- The fault of a binding of a right signature. -/
noncomputable def bnL (n : Nat) (A : Nat → Int) (m : Nat) (V : Nat → Int) (t : Nat) (D : LsL) : Int :=
  if m ≠ t ∨ 12 < m then 2 else if bnTo n A V D m = 0 then (if riseB m V = true then 0 else 1) else bnTo n A V D m

/-- The fault of a binding. -/
noncomputable def bnF (n : Nat) (N : Nat → ByteArray) (A : Nat → Int) (m : Nat) (V : Nat → Int) (t : Nat) (D : LsL) : Int :=
  if faultF n N A = 0 then bnL n A m V t D else faultF n N A

section
variable {n : Nat} {N : Nat → ByteArray} {A : Nat → Int} {m : Nat} {V : Nat → Int} {t : Nat} {D : LsL}
theorem bn_fault (h : faultF n N A ≠ 0) : bnF n N A m V t D = faultF n N A := by rw [bnF, if_neg h]
theorem bn_l (h : faultF n N A = 0) : bnF n N A m V t D = bnL n A m V t D := by rw [bnF, if_pos h]
theorem bnL_many (h : m ≠ t ∨ 12 < m) : bnL n A m V t D = 2 := by rw [bnL, if_pos h]
theorem bnL_to (h : ¬ (m ≠ t ∨ 12 < m)) (hz : bnTo n A V D m ≠ 0) : bnL n A m V t D = bnTo n A V D m := by rw [bnL, if_neg h, if_neg hz]
theorem bnL_rise (h : ¬ (m ≠ t ∨ 12 < m)) (hz : bnTo n A V D m = 0) : bnL n A m V t D = if riseB m V = true then 0 else 1 := by rw [bnL, if_neg h, if_pos hz]
theorem bnTo_first {k : Nat} (h : bnTo n A V D k = 0) (hk : bnOne n A (V k) (D.m k) (D.L k) ≠ 0) : ∀ j, k < j → bnTo n A V D j = bnOne n A (V k) (D.m k) (D.L k)
  | 0, hj => by omega
  | j + 1, hj => by
    by_cases e : k = j
    · subst e; show (if _ then _ else _) = _; rw [if_pos h]
    · have ih := bnTo_first h hk j (by omega)
      show (if bnTo n A V D j = 0 then _ else bnTo n A V D j) = _
      rw [ih, if_neg hk]
theorem bnTo_next {k : Nat} (h : bnTo n A V D k = 0) (hk : bnOne n A (V k) (D.m k) (D.L k) = 0) : bnTo n A V D (k + 1) = 0 := by
  show (if _ then _ else _) = _; rw [if_pos h, hk]
theorem bnTo_each : ∀ k, bnTo n A V D k = 0 → ∀ i, i < k → bnOne n A (V i) (D.m i) (D.L i) = 0
  | 0, _, i, hi => by omega
  | k + 1, h, i, hi => by
    have h' : (if bnTo n A V D k = 0 then bnOne n A (V k) (D.m k) (D.L k) else bnTo n A V D k) = 0 := h
    by_cases e : bnTo n A V D k = 0
    · rw [if_pos e] at h'
      by_cases ei : i = k
      · rw [ei]; exact h'
      · exact bnTo_each k e i (by omega)
    · rw [if_neg e] at h'; exact absurd h' e
theorem bnOne_out {v : Int} {k : Nat} {T : Nat → Int} (h : ¬ (0 ≤ v ∧ v ≤ 11)) : bnOne n A v k T = 3 := by rw [bnOne, if_neg h]
theorem bnOne_in {v : Int} {k : Nat} {T : Nat → Int} (h : 0 ≤ v ∧ v ≤ 11) : bnOne n A v k T = lF n A k T := by rw [bnOne, if_pos h]
/-- A binding without a fault. -/
structure Bn (n : Nat) (A : Nat → Int) (m : Nat) (V : Nat → Int) (D : LsL) : Prop where
  most : m ≤ 12
  rng : ∀ i, i < m → 0 ≤ V i ∧ V i ≤ 11
  trm : ∀ i, i < m → lF n A (D.m i) (D.L i) = 0
  rise : ∀ i, i + 1 < m → V i < V (i + 1)
theorem bn_right (h : bnL n A m V t D = 0) : m = t ∧ Bn n A m V D := by
  by_cases h1 : m ≠ t ∨ 12 < m
  · rw [bnL_many h1] at h; cases h
  · by_cases h2 : bnTo n A V D m = 0
    · rw [bnL_rise h1 h2] at h
      have h3 : riseB m V = true := by
        by_cases e : riseB m V = true
        · exact e
        · rw [if_neg e] at h; cases h
      have hh : m = t ∧ m ≤ 12 := by omega
      refine ⟨hh.1, hh.2, fun i hi => ?_, fun i hi => ?_, rise_all h3⟩
      · have := bnTo_each m h2 i hi
        by_cases e : 0 ≤ V i ∧ V i ≤ 11
        · exact e
        · rw [bnOne_out e] at this; cases this
      · have := bnTo_each m h2 i hi
        by_cases e : 0 ≤ V i ∧ V i ≤ 11
        · rw [bnOne_in e] at this; exact this
        · rw [bnOne_out e] at this; cases this
    · rw [bnL_to h1 h2] at h; exact absurd h h2
end

end Go.Proofs.Ytbgemmhkfbfooaa

/- Contracts: a term with what its variables stand for, as the program makes it by a function that tells it. -/
namespace Go.Proofs.Ytbgemmhkfbfooaa
open Go.RowKit

/-- What comes for a node. -/
def nodL (M : Nat → List Int) (x : Int) : List Int := if x < 0 ∧ M (-1 - x).toNat ≠ [] then M (-1 - x).toNat else [x]

/-- What comes for the first k nodes. -/
def putL (M : Nat → List Int) (T : Nat → Int) : Nat → List Int
  | 0 => []
  | k + 1 => putL M T k ++ nodL M (T k)

theorem nodL_sym {M : Nat → List Int} {x : Int} (h : 0 ≤ x) : nodL M x = [x] := by rw [nodL, if_neg]; omega
theorem nodL_var {M : Nat → List Int} {v : Nat} : nodL M (-1 - (v : Int)) = if M v ≠ [] then M v else [-1 - (v : Int)] := by
  have e : (-1 - (-1 - (v : Int))).toNat = v := by omega
  unfold nodL
  rw [e]
  by_cases h : M v ≠ []
  · rw [if_pos ⟨by omega, h⟩, if_pos h]
  · rw [if_neg (fun x => h x.2), if_neg h]

theorem nodL_len {M : Nat → List Int} (hM : ∀ v, (M v).length ≤ 24) (x : Int) : 1 ≤ (nodL M x).length ∧ (nodL M x).length ≤ 24 := by
  unfold nodL
  split
  · next h =>
    have := hM (-1 - x).toNat
    have : 0 < (M (-1 - x).toNat).length := List.length_pos_iff.2 h.2
    omega
  · simp

theorem putL_len {M : Nat → List Int} (hM : ∀ v, (M v).length ≤ 24) (T : Nat → Int) : ∀ k, k ≤ (putL M T k).length ∧ (putL M T k).length ≤ 24 * k
  | 0 => by simp [putL]
  | k + 1 => by
    have h1 := putL_len hM T k
    have h2 := nodL_len hM (T k)
    simp only [putL, List.length_append]
    omega

/-- A function that can be called. -/
def Enters (gf : Nat) : Prop := ∀ args w, Sem.run Try.prog (callFunc gf args) w = .ok (.enter gf args) w

/-- A function that tells what stands for a variable: M. -/
structure Mean (gf : Nat) (fr : Array Value) (M : Nat → List Int) (w : World) : Prop where
  ent : Enters gf
  call : ∀ (v : Nat) (w1 : World), v < 12 → Below w.heap.size w w1 → Calls Try.prog gf (#[.int .i64 (v : Int)] ++ fr) w1 fun e w2 => (∃ p c, e = .returned (.slice p (M v).length c) ∧ ((M v).length = 0 ∨ ∃ b off, p = some ⟨b, off, none⟩ ∧ Ints w2 b off (M v).length (fun i => (M v).getD i 0))) ∧ Below w1.heap.size w1 w2

theorem Mean.keep {gf : Nat} {fr : Array Value} {M : Nat → List Int} {w w' : World} (h : Mean gf fr M w) (hb : Below w.heap.size w w') : Mean gf fr M w' :=
  ⟨h.ent, fun v w1 hv h1 => h.call v w1 hv (keepB hb h1)⟩

theorem vals_list (l : List Int) : valsI (fun i => l.getD i 0) l.length = l.map (fun x => Value.int .i64 x) := by
  apply List.ext_getElem?
  intro i
  by_cases hi : i < l.length
  · rw [valsI_at _ _ _ hi]; simp [List.getElem?_eq_getElem hi]
  · rw [List.getElem?_eq_none (by simp [valsI]; omega), List.getElem?_eq_none (by simp; omega)]

theorem ownsRow_upon {w w' : World} {B e n : Nat} {v : Value} {xs : List Value} (h : w.ownsRow B e 1 v n xs) (hb : Below w.heap.size w w') : w'.ownsRow B e 1 v n xs := by
  refine ⟨h.1, h.2.imp id ?_⟩
  rintro ⟨g', cap, cur, h1, h2, h3, h4⟩
  exact ⟨g', cap, cur, h1, h2, by rw [hb.block g' (Array.getElem?_eq_some_iff.1 h3).1]; exact h3, h4⟩

theorem ownsRow_le {w : World} {B e n : Nat} {v : Value} {xs : List Value} (h : w.ownsRow B e 1 v n xs) : ∀ k, v.ownBlock = some k → B ≤ k := fun k hk => (h.lt k hk).1

set_option maxRecDepth 20000 in
set_option maxHeartbeats 1600000 in
theorem appendMeaning_any (gf : Nat) (fr : Array Value) (M : Nat → List Int) (v : Value) (l : List Int) (x : Int) (w0 w : World) (hM : Mean gf fr M w0) (hB : Below w0.heap.size w0 w) (ho : w.ownsRow w0.heap.size 2 1 v l.length (l.map (fun x => Value.int .i64 x))) (hx : -12 ≤ x) (hl : l.length ≤ 1048576) (hm : ∀ v, (M v).length ≤ 24) :
    Calls Try.prog 53 #[v, .int .i64 x, .func (Fn.func gf) #[] fr] w fun e w' => ∃ g d, e = .returned (.slice (some ⟨g, 0, none⟩) (l ++ nodL M x).length d) ∧ OwnL w' w0.heap.size g d (l ++ nodL M x) ∧ Below w0.heap.size w0 w' := by
  have HM := hidden hM
  have HO := hidden ho
  have HB := hidden hB
  have HL := hidden hm
  clear hM ho hB hm
  go_enter Try.func53, Try.ntmps53
  go_wp2_with fail
  with_reducible refine (isVariable_any _ _).mono ?_
  rintro e w1 ⟨rfl, hb⟩
  replace HO := hidden (ownsRow_upon HO.out hb)
  replace HB := hidden (HB.out.trans (hb.mono HB.out.size))
  clear hb
  by_cases hv : x < 0
  · obtain ⟨v', rfl, hv'⟩ : ∃ v' : Nat, x = -1 - (v' : Int) ∧ v' < 12 := ⟨(-1 - x).toNat, by omega, by omega⟩
    have HN := hidden (nodL_var (M := M) (v := v'))
    rw [show varB (-1 - (v' : Int)) = true by simp [varB]; omega]
    clear hv
    go_wp2_with fail
    with_reducible refine (variableOf_any _ _ hv').mono ?_
    rintro e w2 ⟨rfl, rfl⟩
    go_wp2_with fail
    rw [HM.out.ent, Oper.upon_enter]
    with_reducible refine (HM.out.call v' _ hv' HB.out).mono ?_
    rintro e w3 ⟨⟨p, c, rfl, hp⟩, hb⟩
    replace HO := hidden (ownsRow_upon HO.out hb)
    replace HB := hidden (HB.out.trans (hb.mono HB.out.size))
    have hl24 := HL.out v'
    clear hb
    by_cases h0 : M v' = []
    · replace HN := hidden (HN.out.trans (if_neg (fun x => x h0)))
      have hz : (M v').length = 0 := by rw [h0]; rfl
      rw [hz]
      clear hp hz h0 hl24
      go_wp2_with (at_builtin; refine wpList_append_own _ rfl _ _ 27 rfl w0.heap.size 2 _ (.int .i64 0) 1 8 Try.underlying27 rfl rfl rfl rfl rfl (by decide) _ _ _ rfl (HO.out.alloc _) ⟨_, 0, none⟩ 1 1 [.int .i64 (-1 - (v' : Int))] rfl (by simp) (one_srcI _ _ _) (oneValI _) (by unfold maxLen; omega) (by omega) (by have := HB.out.size; simp; omega) ?_)
      intro v2 w4 hown hgrow hnil
      obtain ⟨g, d, rfl, ho, hb⟩ := ownL_open (l := l ++ nodL M (-1 - (v' : Int))) hown (by rw [HN.out]; simp) (by rw [HN.out]; simp) (by simpa using hnil) ((HB.out.alloc HB.out.size _).grown hgrow (by have := HB.out.size; simp; omega) (ownsRow_le HO.out))
      have HE := hidden (And.intro ho hb)
      clear hown hgrow hnil ho hb
      go_wp2
      go_ret
      exact ⟨g, d, rfl, HE.out.1, HE.out.2⟩
    · replace HN := hidden (HN.out.trans (if_pos h0))
      have hz : 0 < (M v').length := List.length_pos_iff.2 h0
      rcases hp with hp | ⟨b, off, rfl, hi⟩
      · omega
      have HI := hidden hi
      have hz' : (0 : Int) < (M v').length := by omega
      obtain ⟨k, hk⟩ : ∃ k, k = (M v').length := ⟨_, rfl⟩
      have HK := hidden hk
      rw [← hk] at hz' hz hl24 ⊢
      clear h0 hi hk
      go_wp2_with (at_builtin; refine wpList_append_own _ rfl _ _ 27 rfl w0.heap.size 2 _ (.int .i64 0) 1 8 Try.underlying27 rfl rfl rfl rfl rfl (by decide) _ _ _ rfl HO.out ⟨b, off, none⟩ k c ((M v').map (fun x => Value.int .i64 x)) rfl (by simp [HK.out]) (by rw [← vals_list]; exact HI.out.src0) (by intro u hu; simp at hu; obtain ⟨a, _, rfl⟩ := hu; rfl) (by unfold maxLen; omega) (by omega) HB.out.size ?_)
      intro v2 w4 hown hgrow hnil
      obtain ⟨g, d, rfl, ho, hb⟩ := ownL_open (l := l ++ nodL M (-1 - (v' : Int))) hown (by rw [HN.out, HK.out]; simp) (by rw [HN.out]; simp) (by rw [hnil]; omega) (HB.out.grown hgrow HB.out.size (ownsRow_le HO.out))
      have HE := hidden (And.intro ho hb)
      clear hown hgrow hnil ho hb
      go_wp2
      go_ret
      exact ⟨g, d, rfl, HE.out.1, HE.out.2⟩
  · have HN := hidden (nodL_sym (M := M) (x := x) (by omega))
    rw [show varB x = false by simp [varB]; omega]
    clear hv
    go_wp2_with (at_builtin; refine wpList_append_own _ rfl _ _ 27 rfl w0.heap.size 2 _ (.int .i64 0) 1 8 Try.underlying27 rfl rfl rfl rfl rfl (by decide) _ _ _ rfl (HO.out.alloc _) ⟨_, 0, none⟩ 1 1 [.int .i64 x] rfl (by simp) (one_srcI _ _ _) (oneValI _) (by unfold maxLen; omega) (by omega) (by have := HB.out.size; simp; omega) ?_)
    intro v2 w4 hown hgrow hnil
    obtain ⟨g, d, rfl, ho, hb⟩ := ownL_open (l := l ++ nodL M x) hown (by rw [HN.out]; simp) (by rw [HN.out]; simp) (by simpa using hnil) ((HB.out.alloc HB.out.size _).grown hgrow (by have := HB.out.size; simp; omega) (ownsRow_le HO.out))
    have HE := hidden (And.intro ho hb)
    clear hown hgrow hnil ho hb
    go_wp2
    go_ret
    exact ⟨g, d, rfl, HE.out.1, HE.out.2⟩

set_option maxRecDepth 20000 in
set_option maxHeartbeats 1600000 in
theorem putIn_any (gf : Nat) (fr : Array Value) (M : Nat → List Int) (b off m c : Nat) (T : Nat → Int) (w : World) (hM : Mean gf fr M w) (h : Ints w b off m T) (h1 : 1 ≤ m) (h24 : m ≤ 24) (hx : ∀ i, i < m → -12 ≤ T i) (hm : ∀ v, (M v).length ≤ 24) :
    Calls Try.prog 26 #[.slice (some ⟨b, off, none⟩) m c, .func (Fn.func gf) #[] fr] w fun e w' => ListAns w (if 24 < (putL M T m).length then 2 else 0) (putL M T m).length (fun i => (putL M T m).getD i 0) e w' ∧ Below w.heap.size w w' := by
  generalize hC : (if 24 < (putL M T m).length then (2 : Int) else 0) = C
  generalize hU : (fun i => (putL M T m).getD i 0) = U
  generalize hK : (putL M T m).length = K
  have HC := hidden hC
  have HU := hidden hU
  have HKK := hidden hK
  clear hC hU hK
  have R := hidden (Res.new w (.int .i64 0) (.slice none 0 0) 37)
  have B0 := hidden (alloc_below w (.cells #[.int .i64 0, .slice none 0 0] 37))
  obtain ⟨wa, hwa⟩ : ∃ wa, wa = w.alloc (.cells #[.int .i64 0, .slice none 0 0] 37) := ⟨_, rfl⟩
  have HS := hidden (show wa.heap.size = w.heap.size + 1 by rw [hwa]; simp)
  have HM := hidden (hM.keep B0.out)
  have HI := hidden (h.keep B0.out)
  have HX := hidden hx
  have HL := hidden hm
  clear hM h hx hm
  go_enter Try.func26, Try.ntmps26
  go_wp2
  rw [← hwa] at R B0 HM HI ⊢
  clear hwa
  go_loopw [5, 10] (fun o i wr => ∃ k : Nat, k ≤ m ∧ i = .int .i64 k ∧ Hid (wr.ownsRow wa.heap.size 2 1 o (putL M T k).length ((putL M T k).map (fun x => Value.int .i64 x)) ∧ (0 < k → ¬ o = .slice none 0 0)) ∧ (o = .slice none 0 0 ∨ ∃ g d, o = .slice (some ⟨g, 0, none⟩) (putL M T k).length d) ∧ Hid (Below wa.heap.size wa wr)) (fun _ i _ => m - (intOf i).toNat)
  case atStart => exact ⟨0, Nat.zero_le _, rfl, hidden ⟨World.ownsRow_nil _ _ _ _, fun h => by omega⟩, Or.inl rfl, hidden (Below.refl _ _)⟩
  case round =>
    obtain ⟨k, hk, rfl, HO, HV, HB⟩ := hrel
    have HVV := hidden HV
    clear HV
    by_cases hlt : k < m
    · have c1 := (HI.out.keep HB.out).cell k hlt
      have hlen := (putL_len HL.out T k).2
      have HLN := hidden (show (putL M T k).length ≤ 1048576 by omega)
      clear hlen
      go_wp2_with fail
      with_reducible refine (appendMeaning_any gf fr M _ (putL M T k) (T k) wa _ HM.out HB.out HO.out.1 (HX.out k hlt) HLN.out HL.out).mono ?_
      rintro e w2 ⟨g, d, rfl, ho, hb⟩
      obtain ⟨n2, hn2⟩ : ∃ n2, n2 = (putL M T k ++ nodL M (T k)).length := ⟨_, rfl⟩
      have HE := hidden (And.intro ho hb)
      have HN2 := hidden hn2
      rw [← hn2]
      clear ho hb c1 HLN hn2
      go_wp2
      go_roundw
      case rel =>
        have e := HN2.out
        subst e
        exact ⟨k + 1, by omega, by go_num, hidden ⟨HE.out.1.own, fun _ => by simp⟩, Or.inr ⟨g, d, rfl⟩, hidden HE.out.2⟩
      case measure => simp [intOf]; omega
    · obtain rfl : m = k := by omega
      obtain ⟨g, d, hv, hg, ho, hb⟩ := row_open HO.out.1 (HO.out.2 h1) HB.out
      subst hv
      have hlen := (putL_len HL.out T m)
      have HR := hidden (R.out.keep HB.out)
      have HW := hidden ho
      have hkk := HKK.out
      rw [hkk] at hlen HW ⊢
      clear ho hb HVV HO hkk
      by_cases h2 : 24 < K
      · have h2' : (24 : Int) < K := by omega
        have HCC := hidden (show C = 2 by rw [← HC.out, if_pos (by rw [HKK.out]; exact h2)])
        obtain ⟨_, q0, q1, f0, f1⟩ := id HR.out
        go_wp2
        refine bodyPost_ret (v := .agg #[.int .i64 2, .slice none 0 0]) (by simp [results, Try.results26, go_sem, q0, q1]) rfl ⟨Or.inl ⟨by rw [HCC.out]; decide, by rw [HCC.out]⟩, ?_⟩
        exact ((keepB B0.out HB.out).setCell (by simp) _).setCell (by simp) _
      · have h2' : ¬ (24 : Int) < K := by omega
        have HCC := hidden (show C = 0 by rw [← HC.out, if_neg (by rw [HKK.out]; exact h2)])
        obtain ⟨_, q0, q1, f0, f1⟩ := id HR.out
        go_wp2
        have hs := HS.out
        refine bodyPost_ret (v := .agg #[.int .i64 0, .slice (some ⟨g, 0, none⟩) K d]) (by simp [results, Try.results26, go_sem, q0, q1]) rfl ⟨Or.inr ⟨HCC.out, g, d, rfl, by omega, ?_⟩, ?_⟩
        · have ow : OwnI wr wa.heap.size g K d U K := ⟨_, HW.out, fun i hi => by rw [← HU.out]; rw [← HKK.out] at hi; simp [List.getElem?_eq_getElem hi]⟩
          exact ((ow.other _ _ (by show g ≠ w.heap.size; omega)).other _ _ (by show g ≠ w.heap.size; omega)).base (by omega)
        · exact ((keepB B0.out HB.out).setCell (by simp) _).setCell (by simp) _

end Go.Proofs.Ytbgemmhkfbfooaa

/- Contracts: the variables of a term: VarsOf, as the model and as the program tells them. -/
namespace Go.Proofs.Ytbgemmhkfbfooaa
open Go.RowKit

theorem Nods.var {n m : Nat} {A T : Nat → Int} (h : Nods n A m T) : ∀ i, i < m → T i < 0 → -12 ≤ T i := fun i hi hx => by
  rcases nodeB_cases (h.node i hi) with ⟨j, e, _⟩ | hv <;> omega

theorem OwnL.res {w : World} {B B' g d : Nat} {l : List Int} (h : OwnL w B g d l) (hB : B' ≤ g) (a a' : Addr) (u u' : Value) (h1 : g ≠ a.block) (h2 : g ≠ a'.block) : OwnI ((w.setCell a u).setCell a' u') B' g l.length d (fun i => l.getD i 0) l.length :=
  ((h.ownI.other a u h1).other a' u' h2).base hB

/-- What VarsOf answers: as ListAns, but no list where there is no variable. -/
def VarsAns (w : World) (C : Int) (l : List Int) (e : Ending) (w' : World) : Prop :=
  (C ≠ 0 ∧ e = .returned (.agg #[.int .i64 C, .slice none 0 0])) ∨ (C = 0 ∧ l = [] ∧ e = .returned (.agg #[.int .i64 0, .slice none 0 0])) ∨
  (C = 0 ∧ l ≠ [] ∧ ∃ g d, e = .returned (.agg #[.int .i64 0, .slice (some ⟨g, 0, none⟩) l.length d]) ∧ w.heap.size ≤ g ∧ OwnI w' w.heap.size g l.length d (fun i => l.getD i 0) l.length)

end Go.Proofs.Ytbgemmhkfbfooaa

/- Contracts: a term with greater variables: ShiftTerm, as the model and as the program makes it. -/
namespace Go.Proofs.Ytbgemmhkfbfooaa
open Go.RowKit

/-- The nodes, each variable greater by y. -/
def shT (y : Int) (T : Nat → Int) : Nat → Int := fun i => if T i < 0 then T i - y else T i

/-- Whether a variable comes out of its bounds. -/
def shOut (y : Int) (m : Nat) (T : Nat → Int) : Prop := ∃ i, i < m ∧ T i < 0 ∧ T i - y < -12

open Classical in
/-- The code of ShiftTerm. -/
noncomputable def shC (n : Nat) (N : Nat → ByteArray) (A : Nat → Int) (m : Nat) (T : Nat → Int) (y : Int) : Int :=
  if termF n N A m T = 0 then (if (0 ≤ y ∧ y ≤ 11) ∧ ¬ shOut y m T then 0 else 3) else termF n N A m T

section
variable {n : Nat} {N : Nat → ByteArray} {A : Nat → Int} {m : Nat} {T : Nat → Int} {y : Int}
theorem sh_fault (h : termF n N A m T ≠ 0) : shC n N A m T y = termF n N A m T := by rw [shC, if_neg h]
theorem sh_range (h : termF n N A m T = 0) (hy : ¬ (0 ≤ y ∧ y ≤ 11)) : shC n N A m T y = 3 := by rw [shC, if_pos h, if_neg (fun x => hy x.1)]
theorem sh_out (h : termF n N A m T = 0) (ho : shOut y m T) : shC n N A m T y = 3 := by rw [shC, if_pos h, if_neg (fun x => x.2 ho)]
theorem sh_ok (h : termF n N A m T = 0) (hy : 0 ≤ y ∧ y ≤ 11) (ho : ¬ shOut y m T) : shC n N A m T y = 0 := by rw [shC, if_pos h, if_pos ⟨hy, ho⟩]

theorem sh_aOf (hy : 0 ≤ y) : aOf A (shT y T) = aOf A T := by
  funext p
  by_cases h : T p < 0
  · rw [aOf_var h, aOf_var (show shT y T p < 0 by simp only [shT, if_pos h]; omega)]
  · have e : shT y T p = T p := by simp only [shT, if_neg h]
    unfold aOf
    rw [e]

theorem sh_nodes (hg : Nods n A m T) : ∀ i, i < m → -12 ≤ T i ∧ T i ≤ 5 := fun i hi => by
  have := hg.few
  rcases nodeB_cases (hg.node i hi) with ⟨j, e, hj⟩ | hv <;> omega

theorem sh_lF (hg : Trm n A m T) (hy : 0 ≤ y ∧ y ≤ 11) : lF n A m (shT y T) = 0 ↔ ¬ shOut y m T := by
  have hb : ¬ (m < 1 ∨ 24 < m) := by have := hg.pos; have := hg.nods.most; omega
  constructor
  · rintro h ⟨i, hi, h0, h1⟩
    have : nodeB (shT y T i) n = false := by
      have e : shT y T i = T i - y := by simp [shT, h0]
      rw [e]
      simp only [nodeB, inB, varB, Bool.or_eq_false_iff, decide_eq_false_iff_not]
      omega
    rw [lF_out hb ⟨i, hi, this⟩] at h
    cases h
  · intro h
    refine lF_ok hb (fun i hi => ?_) (by rw [sh_aOf hy.1]; exact hg.whole)
    by_cases h0 : T i < 0
    · have e : shT y T i = T i - y := by simp [shT, h0]
      have : ¬ T i - y < -12 := fun h1 => h ⟨i, hi, h0, h1⟩
      rw [e]
      simp only [nodeB, inB, varB, Bool.or_eq_true, decide_eq_true_eq]
      right; omega
    · have e : shT y T i = T i := by simp [shT, h0]
      rw [e]; exact hg.nods.node i hi
end

theorem mkV_true {T : Nat → Int} {j : Nat} : ∀ k, mkV T k j = true → ∃ i, i < k ∧ T i = -1 - (j : Int)
  | 0, h => by simp [mkV] at h
  | k + 1, h => by
    simp only [mkV, Bool.or_eq_true, decide_eq_true_eq] at h
    rcases h with h | h
    · obtain ⟨i, hi, e⟩ := mkV_true k h; exact ⟨i, by omega, e⟩
    · exact ⟨k, by omega, h⟩

theorem mkV_of {T : Nat → Int} {j i : Nat} (h : T i = -1 - (j : Int)) : ∀ k, i < k → mkV T k j = true
  | 0, hi => by omega
  | k + 1, hi => by
    simp only [mkV, Bool.or_eq_true, decide_eq_true_eq]
    by_cases e : i = k
    · right; rw [← e]; exact h
    · left; exact mkV_of h k (by omega)

theorem flt_mem {P : Nat → Bool} {n : Nat} {x : Int} : x ∈ flt P 0 n ↔ ∃ j : Nat, x = j ∧ j < n ∧ P j = true := by
  simp only [flt, List.mem_map, List.mem_filter, List.mem_range'_1]
  constructor
  · rintro ⟨j, ⟨⟨_, h1⟩, h2⟩, rfl⟩; exact ⟨j, rfl, by omega, h2⟩
  · rintro ⟨j, rfl, h1, h2⟩; exact ⟨j, ⟨⟨by omega, by omega⟩, h2⟩, rfl⟩

open Classical in
/-- Whether one of the numbers is too great. -/
noncomputable def anyOut (y : Int) (l : List Int) : Bool := decide (∃ i, i < l.length ∧ 12 ≤ l.getD i 0 + y)

theorem out_vars {m n : Nat} {A T : Nat → Int} {y : Int} (hg : Nods n A m T) : anyOut y (flt (mkV T m) 0 12) = true ↔ shOut y m T := by
  unfold anyOut
  simp only [decide_eq_true_eq]
  constructor
  · rintro ⟨i, hi, h⟩
    have hm : (flt (mkV T m) 0 12).getD i 0 ∈ flt (mkV T m) 0 12 := by
      rw [List.getD_eq_getElem?_getD, List.getElem?_eq_getElem hi]; exact List.getElem_mem hi
    obtain ⟨j, e, hj, hp⟩ := flt_mem.1 hm
    obtain ⟨k, hk, ek⟩ := mkV_true m hp
    exact ⟨k, hk, by omega, by omega⟩
  · rintro ⟨i, hi, h0, h1⟩
    have h12 := hg.var i hi h0
    obtain ⟨v, hv⟩ : ∃ v : Nat, T i = -1 - (v : Int) := ⟨(-1 - T i).toNat, by omega⟩
    have hm : ((v : Int)) ∈ flt (mkV T m) 0 12 := flt_mem.2 ⟨v, rfl, by omega, mkV_of hv m hi⟩
    obtain ⟨k, hk, e⟩ := List.getElem_of_mem hm
    refine ⟨k, hk, ?_⟩
    rw [List.getD_eq_getElem?_getD, List.getElem?_eq_getElem hk]
    simp only [Option.getD_some]
    omega

set_option maxRecDepth 20000 in
set_option maxHeartbeats 400000 in
theorem beyond1_any (b : Nat) (x y : Int) (w : World) (h : One w b (.int .i64 y)) (hx : 0 ≤ x ∧ x ≤ 11) (hy : 0 ≤ y ∧ y ≤ 11) :
    Calls Try.prog 52 #[.int .i64 x, .pointer (some ⟨b, 0, none⟩)] w fun e w' => e = .returned (.bool (decide (12 ≤ x + y))) ∧ Below w.heap.size w w' := by
  have c0 := h.c0
  go_enter Try.func52, Try.ntmps52
  go_wp2
  go_ret
  exact ⟨rfl, Below.refl _ _⟩

set_option maxRecDepth 20000 in
set_option maxHeartbeats 800000 in
theorem indexOut_any (p : Option Addr) (c bx : Nat) (l : List Int) (y : Int) (w : World) (h : l = [] ∨ ∃ b off, p = some ⟨b, off, none⟩ ∧ Ints w b off l.length (fun i => l.getD i 0)) (hl : l.length ≤ 24) (h1 : One w bx (.int .i64 y)) (hx : ∀ x ∈ l, 0 ≤ x ∧ x ≤ 11) (hy : 0 ≤ y ∧ y ≤ 11) :
    Calls Try.prog 54 #[.slice p l.length c, .func (Fn.func 52) #[] #[.pointer (some ⟨bx, 0, none⟩)]] w fun e w' => (∃ r : Int, e = .returned (.int .i64 r) ∧ (decide (0 ≤ r) = anyOut y l)) ∧ Below w.heap.size w w' := by
  obtain ⟨n, hn⟩ : ∃ n, n = l.length := ⟨_, rfl⟩
  have HN := hidden hn
  have H := hidden h
  have HX := hidden (show ∀ i, i < l.length → 0 ≤ l.getD i 0 ∧ l.getD i 0 ≤ 11 from fun i hi => hx _ (by rw [List.getD_eq_getElem?_getD, List.getElem?_eq_getElem hi]; exact List.getElem_mem hi))
  have H1 := hidden h1
  rw [← hn] at hl ⊢
  clear h h1 hn hx
  go_enter Try.func54, Try.ntmps54
  go_wp2_with fail
  go_loopw [8] (fun i wr => ∃ k : Nat, k ≤ n ∧ i = .int .i64 k ∧ Hid (∀ i, i < k → ¬ 12 ≤ l.getD i 0 + y) ∧ Hid (Below w.heap.size w wr)) (fun i _ => n - (intOf i).toNat)
  case atStart => exact ⟨0, Nat.zero_le _, rfl, hidden (fun i hi => by omega), hidden (Below.refl _ _)⟩
  case round =>
    obtain ⟨k, hk, rfl, HE, HB⟩ := hrel
    by_cases hlt : k < n
    · rcases H.out with h0 | ⟨b, off, rfl, hi⟩
      · have := HN.out; rw [h0] at this; simp at this; omega
      have c1 := (hi.keep HB.out).cell k (by rw [← HN.out]; exact hlt)
      have HXk := hidden (HX.out k (by rw [← HN.out]; exact hlt))
      obtain ⟨x, hx⟩ : ∃ x, x = l.getD k 0 := ⟨_, rfl⟩
      have HXX := hidden hx
      simp only [← hx] at c1 HXk
      clear hx hi
      go_wp2_with fail
      with_reducible refine (beyond1_any _ _ _ _ (H1.out.keep HB.out) HXk.out hy).mono ?_
      rintro e w1 ⟨rfl, hb⟩
      have B1 := hidden (keepB HB.out hb)
      clear hb c1 HB
      by_cases hz : 12 ≤ x + y
      · have HR := hidden (show anyOut y l = true by unfold anyOut; simp only [decide_eq_true_eq]; exact ⟨k, by rw [← HN.out]; exact hlt, by rw [← HXX.out]; exact hz⟩)
        rw [decide_eq_true hz]
        clear hz
        go_wp2
        go_ret
        exact ⟨⟨_, rfl, by rw [HR.out]; simp⟩, B1.out⟩
      · have HR := hidden hz
        rw [decide_eq_false hz]
        clear hz
        go_wp2
        go_roundw
        case rel => exact ⟨k + 1, by omega, by go_num, hidden (fun j hj => by
          by_cases e : j = k
          · rw [e, ← HXX.out]; have := HR.out; omega
          · have := HE.out j (by omega); omega), B1⟩
        case measure => simp [intOf]; omega
    · have HR := hidden (show anyOut y l = false by
        unfold anyOut
        simp only [decide_eq_false_iff_not]
        rintro ⟨i, hi, e⟩
        exact HE.out i (by rw [← HN.out] at hi; omega) e)
      go_wp2
      go_ret
      exact ⟨⟨_, rfl, by rw [HR.out]; rfl⟩, HB.out⟩

set_option maxRecDepth 20000 in
set_option maxHeartbeats 400000 in
theorem containsOut_any (p : Option Addr) (n c bx : Nat) (z : Bool) (w : World)
    (h : Calls Try.prog 54 #[.slice p n c, .func (Fn.func 52) #[] #[.pointer (some ⟨bx, 0, none⟩)]] w fun e w' => (∃ r : Int, e = .returned (.int .i64 r) ∧ (decide (0 ≤ r) = z)) ∧ Below w.heap.size w w') :
    Calls Try.prog 29 #[.slice p n c, .func (Fn.func 52) #[] #[.pointer (some ⟨bx, 0, none⟩)]] w fun e w' => e = .returned (.bool z) ∧ Below w.heap.size w w' := by
  have H := hidden h
  clear h
  go_enter Try.func29, Try.ntmps29
  go_wp2_with fail
  with_reducible refine H.out.mono ?_
  rintro e w1 ⟨⟨r, rfl, hr⟩, hb⟩
  have HR := hidden hr
  have B := hidden hb
  clear hr hb
  go_wp2
  go_ret
  exact ⟨by rw [← HR.out]; rfl, B.out⟩

set_option maxRecDepth 20000 in
set_option maxHeartbeats 800000 in
theorem isBeyondV_any (b off m c n : Nat) (A T : Nat → Int) (y : Int) (w : World) (h : Ints w b off m T) (hg : Nods n A m T) (hy : 0 ≤ y ∧ y ≤ 11) :
    Calls Try.prog 25 #[.slice (some ⟨b, off, none⟩) m c, .int .i64 y] w fun e w' => e = .returned (.bool (anyOut y (flt (mkV T m) 0 12))) ∧ Below w.heap.size w w' := by
  have X := hidden (One.new w (.int .i64 y) 2)
  have B := hidden (alloc_below w (.cells #[.int .i64 y] 2))
  have H := hidden (h.keep B.out)
  obtain ⟨l, hl⟩ : ∃ l, l = flt (mkV T m) 0 12 := ⟨_, rfl⟩
  have HL := hidden hl
  have HLL := hidden (show l.length ≤ 24 by have := flt_length (mkV T m) 0 12; rw [hl]; omega)
  have HX := hidden (show ∀ x ∈ l, 0 ≤ x ∧ x ≤ 11 from fun x hx => by rw [hl] at hx; obtain ⟨j, e, hj, _⟩ := flt_mem.1 hx; omega)
  rw [← hl]
  clear h hl
  go_enter Try.func25, Try.ntmps25
  go_wp2_with fail
  with_reducible refine (variablesIn_any _ _ n _ _ A T _ H.out hg).mono ?_
  rintro e w1 ⟨ha, hb⟩
  rw [← HL.out] at ha
  replace X := hidden (X.out.keep hb)
  replace B := hidden (keepB B.out hb)
  clear hb H
  rcases ha with ⟨h0, rfl⟩ | ⟨_, g, d, rfl, ho⟩
  · have HI := hidden (indexOut_any none 0 _ l y _ (Or.inl h0) HLL.out X.out HX.out hy)
    rw [show l.length = 0 by rw [h0]; rfl] at HI
    clear h0
    go_wp2_with fail
    with_reducible refine (containsOut_any _ _ _ _ _ _ HI.out).mono ?_
    rintro e w2 ⟨rfl, hb⟩
    replace B := hidden (keepB B.out hb)
    clear hb
    go_wp2
    go_ret
    exact ⟨rfl, B.out⟩
  · have HI := hidden (indexOut_any (some ⟨g, 0, none⟩) d _ l y _ (Or.inr ⟨g, 0, rfl, ho.ownI.ints⟩) HLL.out X.out HX.out hy)
    clear ho
    go_wp2_with fail
    with_reducible refine (containsOut_any _ _ _ _ _ _ HI.out).mono ?_
    rintro e w2 ⟨rfl, hb⟩
    replace B := hidden (keepB B.out hb)
    clear hb
    go_wp2
    go_ret
    exact ⟨rfl, B.out⟩

/-- What stands for a variable where all are greater by y. -/
def shM (y : Int) (v : Nat) : List Int := [-1 - ((v : Int) + y)]

theorem sh_putL {y : Int} {T : Nat → Int} : ∀ k, (∀ i, i < k → -12 ≤ T i) → putL (shM y) T k = upto (shT y T) k
  | 0, _ => rfl
  | k + 1, h => by
    have h12 := h k (by omega)
    rw [putL, sh_putL k (fun i hi => h i (by omega)), upto_succ]
    congr 1
    by_cases hx : T k < 0
    · obtain ⟨v, hv⟩ : ∃ v : Nat, T k = -1 - (v : Int) := ⟨(-1 - T k).toNat, by omega⟩
      rw [hv, nodL_var, if_pos (by simp [shM])]
      simp only [shM, shT, hv]
      rw [if_pos (by omega)]
      congr 1; omega
    · rw [nodL_sym (by omega)]
      simp only [shT, if_neg hx]

set_option maxRecDepth 20000 in
theorem enters_sh : Enters 27 := fun _ _ => rfl

set_option maxRecDepth 20000 in
set_option maxHeartbeats 400000 in
theorem shift1_any (b v : Nat) (y : Int) (w : World) (h : One w b (.int .i64 y)) (hx : v < 12) (hy : 0 ≤ y ∧ y ≤ 11) :
    Calls Try.prog 27 #[.int .i64 (v : Int), .pointer (some ⟨b, 0, none⟩)] w fun e w' => (∃ g, e = .returned (.slice (some ⟨g, 0, none⟩) 1 1) ∧ Ints w' g 0 1 (fun i => (shM y v).getD i 0)) ∧ Below w.heap.size w w' := by
  have c0 := h.c0
  go_enter Try.func27, Try.ntmps27
  go_wp2
  go_ret
  refine ⟨⟨_, rfl, ⟨fun _ => by simp, fun i hi => ?_⟩⟩, alloc_below _ _⟩
  obtain rfl : i = 0 := by omega
  simp [shM, go_sem]

theorem shift1_mean (b : Nat) (y : Int) (w : World) (h : One w b (.int .i64 y)) (hy : 0 ≤ y ∧ y ≤ 11) : Mean 27 #[.pointer (some ⟨b, 0, none⟩)] (shM y) w := by
  refine ⟨enters_sh, fun v w1 hv hb => ?_⟩
  refine (shift1_any b v y w1 (h.keep hb) hv hy).mono ?_
  rintro e w2 ⟨⟨g, rfl, hi⟩, hb2⟩
  exact ⟨⟨_, 1, rfl, Or.inr ⟨g, 0, rfl, hi⟩⟩, hb2⟩

set_option maxRecDepth 20000 in
set_option maxHeartbeats 3200000 in
theorem implShift_any (b off n c b' off' m c' : Nat) (N : Nat → ByteArray) (A T : Nat → Int) (y : Int) (w : World) (h : Syms w b off n N A) (h' : Ints w b' off' m T) (hk : Kept n N A) (hm : m ≤ 1048576) :
    Calls Try.prog 9 #[.agg #[.slice (some ⟨b, off, none⟩) n c], .slice (some ⟨b', off', none⟩) m c', .int .i64 y] w fun e w' => ListAns w (shC n N A m T y) m (shT y T) e w' ∧ Below w.heap.size w w' := by
  have D := hidden (One.new w (.slice (some ⟨b, off, none⟩) n c) 26)
  have B := hidden (alloc_below w (.cells #[.slice (some ⟨b, off, none⟩) n c] 26))
  obtain ⟨wa, hwa⟩ : ∃ wa, wa = w.alloc (.cells #[.slice (some ⟨b, off, none⟩) n c] 26) := ⟨_, rfl⟩
  have sa : wa.heap.size = w.heap.size + 1 := by rw [hwa]; simp
  rw [← hwa] at D B
  have Y := hidden (One.new wa (.int .i64 y) 2)
  have hb1 := alloc_below wa (.cells #[.int .i64 y] 2)
  obtain ⟨wb, hwb⟩ : ∃ wb, wb = wa.alloc (.cells #[.int .i64 y] 2) := ⟨_, rfl⟩
  have sb : wb.heap.size = w.heap.size + 1 + 1 := by rw [hwb]; simp [sa]
  rw [← hwb] at Y hb1
  have R := hidden (Res.new wb (.int .i64 0) (.slice none 0 0) 37)
  have hb2 := alloc_below wb (.cells #[.int .i64 0, .slice none 0 0] 37)
  replace D := hidden ((D.out.keep hb1).keep hb2)
  replace Y := hidden (Y.out.keep hb2)
  replace B := hidden (keepB (keepB B.out hb1) hb2)
  rw [sa] at Y
  rw [sb] at R
  rw [hwb, hwa] at D Y R B
  clear hb1 hb2 sa sb hwa hwb wa wb
  have Q := hidden (h.keep B.out)
  have I := hidden (h'.keep B.out)
  have HK := hidden hk
  clear h h' hk
  have d0 := D.out.c0
  go_enter Try.func9, Try.ntmps9
  go_wp2_with fail
  with_reducible refine (implTerm_any _ _ _ _ _ _ _ _ N A T _ Q.out I.out HK.out hm).mono ?_
  rintro e w1 ⟨rfl, hb⟩
  replace Y := hidden (Y.out.keep hb)
  replace R := hidden (R.out.keep hb)
  replace B := hidden (keepB B.out hb)
  replace I := hidden (I.out.keep hb)
  clear hb D Q d0
  by_cases hf : termF n N A m T = 0
  · have HF := hidden hf
    have HT := hidden (term_right hf)
    rw [hf]
    clear hf
    have y0 := Y.out.c0
    by_cases hy0 : y < 0
    · have HA := hidden (sh_range (y := y) HF.out (by omega))
      obtain ⟨_, q0, q1, f0, f1⟩ := id R.out
      go_wp2
      exact bodyPost_ret (v := .agg #[.int .i64 3, .slice none 0 0]) (by simp [results, Try.results9, go_sem, q0, q1]) rfl ⟨Or.inl ⟨by rw [HA.out]; decide, by rw [HA.out]⟩, (B.out.setCell (by simp; omega) _).setCell (by simp; omega) _⟩
    · by_cases hy1 : 12 ≤ y
      · have HA := hidden (sh_range (y := y) HF.out (by omega))
        obtain ⟨_, q0, q1, f0, f1⟩ := id R.out
        go_wp2
        exact bodyPost_ret (v := .agg #[.int .i64 3, .slice none 0 0]) (by simp [results, Try.results9, go_sem, q0, q1]) rfl ⟨Or.inl ⟨by rw [HA.out]; decide, by rw [HA.out]⟩, (B.out.setCell (by simp; omega) _).setCell (by simp; omega) _⟩
      · have HY := hidden (show 0 ≤ y ∧ y ≤ 11 by omega)
        go_wp2_with fail
        with_reducible refine (isBeyondV_any _ _ _ _ n A T y _ I.out HT.out.nods HY.out).mono ?_
        rintro e w2 ⟨rfl, hb⟩
        replace Y := hidden (Y.out.keep hb)
        replace R := hidden (R.out.keep hb)
        replace B := hidden (keepB B.out hb)
        replace I := hidden (I.out.keep hb)
        clear hb y0
        generalize hz : anyOut y (flt (mkV T m) 0 12) = ib
        cases ib
        · have HA := hidden (sh_ok (N := N) HF.out HY.out (fun x => by rw [(out_vars HT.out.nods).2 x] at hz; cases hz))
          clear hz
          have HE := hidden (sh_putL (y := y) m (fun i hi => (sh_nodes HT.out.nods i hi).1))
          have S := hidden (putIn_any _ #[.pointer (some ⟨w.heap.size + 1, 0, none⟩)] (shM y) b' off' m c' T w2 (shift1_mean _ y w2 Y.out HY.out) I.out HT.out.pos HT.out.nods.most (fun i hi => (sh_nodes HT.out.nods i hi).1) (fun v => by simp [shM]))
          rw [HE.out, upto_length] at S
          have hm24 := HT.out.nods.most
          rw [if_neg (by omega)] at S
          go_wp2_with fail
          with_reducible refine S.out.mono ?_
          rintro e w3 ⟨ha, hb⟩
          rcases ha with ⟨ha, -⟩ | ⟨-, g, d, rfl, hg, ho⟩
          · exact absurd rfl ha
          have RB := hidden (Nat.lt_of_lt_of_le R.out.blk hg)
          replace R := hidden (R.out.keep hb)
          replace B := hidden (keepB B.out hb)
          have O := hidden ho
          clear ho hb hg S
          obtain ⟨_, q0, q1, f0, f1⟩ := id R.out
          go_wp2
          have rb := RB.out
          refine bodyPost_ret (v := .agg #[.int .i64 0, .slice (some ⟨g, 0, none⟩) m d]) (by simp [results, Try.results9, go_sem, q0, q1]) rfl ⟨Or.inr ⟨HA.out, g, d, rfl, by omega, ?_⟩, (B.out.setCell (by simp; omega) _).setCell (by simp; omega) _⟩
          have o2 : OwnI w3 w2.heap.size g m d (shT y T) m := by
            obtain ⟨xs, ow, hx⟩ := O.out
            exact ⟨xs, ow, fun i hi => by rw [hx i hi]; simp [upto, hi]⟩
          exact ((o2.other _ _ (by show g ≠ w.heap.size + 1 + 1; omega)).other _ _ (by show g ≠ w.heap.size + 1 + 1; omega)).base (by omega)
        · have HA := hidden (sh_out (N := N) HF.out ((out_vars HT.out.nods).1 hz))
          clear hz
          obtain ⟨_, q0, q1, f0, f1⟩ := id R.out
          go_wp2
          exact bodyPost_ret (v := .agg #[.int .i64 3, .slice none 0 0]) (by simp [results, Try.results9, go_sem, q0, q1]) rfl ⟨Or.inl ⟨by rw [HA.out]; decide, by rw [HA.out]⟩, (B.out.setCell (by simp; omega) _).setCell (by simp; omega) _⟩
  · have HA := hidden (sh_fault (y := y) hf)
    have HN := hidden hf
    have hf' : (termF n N A m T != 0) = true := by simpa using hf
    generalize termF n N A m T = z at *
    clear hf
    obtain ⟨_, q0, q1, f0, f1⟩ := id R.out
    go_wp2
    exact bodyPost_ret (v := .agg #[.int .i64 z, .slice none 0 0]) (by simp [results, Try.results9, go_sem, q0, q1]) rfl ⟨Or.inl ⟨by rw [HA.out]; exact HN.out, by rw [HA.out]⟩, (B.out.setCell (by simp; omega) _).setCell (by simp; omega) _⟩

end Go.Proofs.Ytbgemmhkfbfooaa
