/- Law FnSignatures: what its walk knows of the signature and of the bytes that were drawn. -/
import Derived.Test.YthgoclbgepfjmaaSigsK
import Derived.Test.YthgoclbgepfjmaaSymbol
import Derived.Test.YthgoclbgepfjmaaPackBack
namespace Go.Proofs.Ythgoclbgepfjmaa
open Go.RowKit

set_option maxHeartbeats 400000 in
theorem sgBig_any (p : Option Addr) (n c : Nat) (w : World) (hn : n ≤ 1048576) : Calls Try.prog 7 #[.slice p n c] w fun e w' => e = .returned (.bool false) ∧ w' = w := by
  have h : ¬ (1048576 : Int) < n := by omega
  go_enter Try.func7, Try.ntmps7
  go_wp2
  go_ret
  exact ⟨rfl, rfl⟩

set_option maxHeartbeats 400000 in
theorem sgBig_big (p : Option Addr) (n c : Nat) (w : World) (hn : ¬ n ≤ 1048576) : Calls Try.prog 7 #[.slice p n c] w fun e w' => e = .returned (.bool true) ∧ w' = w := by
  have h : (1048576 : Int) < n := by omega
  go_enter Try.func7, Try.ntmps7
  go_wp2
  go_ret
  exact ⟨rfl, rfl⟩

/-- A right signature and the bytes that it was packed into. -/
def PackOk (w : World) (q : Option Addr) (n : Nat) (q2 : Option Addr) (n2 d2 : Nat) : Prop :=
  ∃ g o N A g2, q = some ⟨g, o, none⟩ ∧ n ≤ 7 ∧ Kept n N A ∧ Syms w g o n N A ∧ faultF n N A = 0 ∧ q2 = some ⟨g2, 0, none⟩ ∧ n2 = (packL N A n n).length ∧ n2 ≤ 1048576 ∧ n2 ≤ d2 ∧ d2 ≤ 9223372036854775807 ∧ Byt.Row w g2 0 n2 (packL N A n n)

theorem PackOk.keep {w w' : World} {q q2 : Option Addr} {n n2 d2 : Nat} (h : PackOk w q n q2 n2 d2) (hb : Below w.heap.size w w') : PackOk w' q n q2 n2 d2 := by
  obtain ⟨g, o, N, A, g2, h1, h2, h3, h4, h5, h6, h7, h8, h9, h10, h11⟩ := h
  exact ⟨g, o, N, A, g2, h1, h2, h3, h4.keep hb, h5, h6, h7, h8, h9, h10, h11.later hb h11.blk⟩

/-- A signature that was read off the bytes l. -/
def RdOk (w : World) (l : List Int) (q : Option Addr) (n : Nat) : Prop :=
  ∃ g, q = some ⟨g, 0, none⟩ ∧ n = (l.getD 0 0).toNat ∧ whole l ∧ Syms w g 0 n (nmOf l) (arOf l)

theorem RdOk.keep {w w' : World} {l : List Int} {q : Option Addr} {n : Nat} (h : RdOk w l q n) (hb : Below w.heap.size w w') : RdOk w' l q n := by
  obtain ⟨g, h1, h2, h3, h4⟩ := h
  exact ⟨g, h1, h2, h3, h4.keep hb⟩

theorem own_cap {w : World} {B g d : Nat} {xs : List Value} (h : OwnB w B g d xs) : xs.length ≤ d ∧ d ≤ 9223372036854775807 := by
  rcases h.own.2 with ⟨e, _⟩ | ⟨g9, cap, cur, e, _, _, h3, h4, _⟩
  · cases e
  · simp at e; unfold maxLen at h4; rw [e.2]; exact ⟨h3, h4⟩

theorem packL_len_le {N : Nat → ByteArray} {A : Nat → Int} {n : Nat} (h : Right n N A) : (packL N A n n).length ≤ 31 := by
  have h1 := packV_len h n (Nat.le_refl _)
  rw [packV_map, List.length_map] at h1
  have := h.most
  omega

theorem OwnB.packRow {w : World} {B g d n : Nat} {N : Nat → ByteArray} {A : Nat → Int} (hr : Right n N A) (h : OwnB w B g d (packV N A n n)) : Byt.Row w g 0 (packL N A n n).length (packL N A n n) := by
  have h1 := packL_len_le hr
  have ho := h.ownR
  rw [packV_map, List.length_map] at ho
  exact ho.row (by omega) (packL_byt hr n (Nat.le_refl _))

theorem pack_key (q : Option Addr) (n d0 : Nat) (w1 : World) (h : SigD w1 (.slice q n d0)) :
    ∃ C : Int, (∀ wc, Below w1.heap.size w1 wc → Calls Try.prog 9 #[.agg #[.slice q n d0]] wc fun e w' => (∃ q2 n2 d2, e = .returned (.agg #[.int .i64 C, .slice q2 n2 d2]) ∧ (C = 0 → PackOk w' q n q2 n2 d2)) ∧ Below wc.heap.size wc w') ∧
      (∀ wc, Below w1.heap.size w1 wc → Calls Try.prog 12 #[.agg #[.slice q n d0]] wc fun e w' => e = .returned (.int .i64 C) ∧ Below wc.heap.size wc w') ∧
      (∀ wc, Below w1.heap.size w1 wc → Calls Try.prog 13 #[.agg #[.slice q n d0]] wc fun e w' => e = .returned (.int .i64 C) ∧ Below wc.heap.size wc w') := by
  rcases h with h | ⟨g, m, d, N, A, h, hm, hk, hS⟩
  · cases h
    have e2 := fault_seven (fun _ => ByteArray.empty) (fun _ => 0) 0 (by omega)
    refine ⟨2, fun wc _ => (implPack_nil wc (fun _ => ByteArray.empty) (fun _ => 0)).mono ?_, fun wc _ => (specFault_many none 0 0 wc (by omega) (fun _ => ByteArray.empty) (fun _ => 0)).mono ?_, fun wc _ => (implFault_many none 0 0 wc (by omega) (fun _ => ByteArray.empty) (fun _ => 0)).mono ?_⟩
    · rintro e w' ⟨rfl, hb⟩
      exact ⟨⟨none, 0, 0, rfl, fun h => absurd h (by decide)⟩, hb⟩
    · rintro e w' ⟨rfl, hb⟩
      exact ⟨by rw [e2], hb⟩
    · rintro e w' ⟨rfl, hb⟩
      exact ⟨by rw [e2], hb⟩
  · cases h
    refine ⟨faultF n N A, fun wc hb => (implPack_any g 0 n d0 N A wc (hS.keep hb) hk).mono ?_, fun wc hb => specFault_all g 0 n d0 N A wc (hS.keep hb) hk, fun wc hb => implFault_all g 0 n d0 N A wc (hS.keep hb) hk⟩
    rintro e w' ⟨ha, hb'⟩
    refine ⟨?_, hb'⟩
    rcases ha with ⟨hf, rfl⟩ | ⟨hf, g2, d2, rfl, ho⟩
    · exact ⟨none, 0, 0, rfl, fun h => absurd h hf⟩
    · have hr := fault_right hf
      have hl := packL_len_le hr
      have hc := own_cap ho
      have hlen : (packV N A n n).length = (packL N A n n).length := by rw [packV_map, List.length_map]
      rw [hlen] at hc ⊢
      exact ⟨some ⟨g2, 0, none⟩, _, d2, by rw [hf], fun _ => ⟨g, 0, N, A, g2, rfl, hm, hk, (hS.keep hb).keep hb', hf, rfl, rfl, by omega, hc.1, hc.2, ho.packRow hr⟩⟩

theorem SigAns.ok {w : World} {l : List Int} (hby : ∀ i, 0 ≤ l.getD i 0 ∧ l.getD i 0 ≤ 255) {e : Ending} {w' : World} (h : SigAns w l e w') (K : Int) (hK : (whole l ∧ K = 0) ∨ (¬ whole l ∧ K = 5)) :
    ∃ q3 n3 d3, e = .returned (.agg #[.int .i64 K, .slice q3 n3 d3]) ∧ (K = 0 → RdOk w' l q3 n3) := by
  rcases h with ⟨hw, rfl⟩ | ⟨hw, g, d, rfl, hg, ho⟩
  · rcases hK with ⟨h, _⟩ | ⟨_, rfl⟩
    · exact absurd h hw
    · exact ⟨none, 0, 0, rfl, fun h => absurd h (by decide)⟩
  · rcases hK with ⟨_, rfl⟩ | ⟨h, _⟩
    · have hk := kept_of hby (l.getD 0 0).toNat (by have := hw.2.1.1; omega)
      exact ⟨some ⟨g, 0, none⟩, _, d, rfl, fun _ => ⟨g, rfl, rfl, hw, ho.syms hk.big hk.fits⟩⟩
    · exact absurd hw h

theorem read_key (g v d : Nat) (l : List Int) (w1 : World) (hv : v ≤ 1048576) (hvd : v ≤ d) (hd : d ≤ 9223372036854775807) (h : Byt.Row w1 g 0 v l) :
    ∃ K : Int, (∀ wc, Below w1.heap.size w1 wc → Calls Try.prog 11 #[.slice (some ⟨g, 0, none⟩) v d] wc fun e w' => (∃ q3 n3 d3, e = .returned (.agg #[.int .i64 K, .slice q3 n3 d3]) ∧ (K = 0 → RdOk w' l q3 n3)) ∧ Below wc.heap.size wc w') ∧
      (∀ wc, Below w1.heap.size w1 wc → Calls Try.prog 14 #[.slice (some ⟨g, 0, none⟩) v d] wc fun e w' => (∃ q3 n3 d3, e = .returned (.agg #[.int .i64 K, .slice q3 n3 d3])) ∧ Below wc.heap.size wc w') ∧ (whole l → K = 0) := by
  obtain ⟨K, hK⟩ : ∃ K : Int, (whole l ∧ K = 0) ∨ (¬ whole l ∧ K = 5) := by
    by_cases hw : whole l
    · exact ⟨0, Or.inl ⟨hw, rfl⟩⟩
    · exact ⟨5, Or.inr ⟨hw, rfl⟩⟩
  refine ⟨K, fun wc hb => ?_, fun wc hb => ?_, fun hw => ?_⟩
  · have hr := h.later hb h.blk
    by_cases h0 : v = 0
    · subst h0
      refine (implRead_none (some ⟨g, 0, none⟩) d l wc h.len).mono ?_
      rintro e w' ⟨ha, hb'⟩
      exact ⟨ha.ok h.byt K hK, hb'⟩
    · refine (implRead_any g v d l wc hr hvd ⟨hv, hd⟩ (by omega)).mono ?_
      rintro e w' ⟨ha, hb'⟩
      exact ⟨ha.ok h.byt K hK, hb'⟩
  · have hr := h.later hb h.blk
    by_cases h0 : v = 0
    · subst h0
      refine (specRead_none (some ⟨g, 0, none⟩) d l wc h.len).mono ?_
      rintro e w' ⟨ha, hb'⟩
      obtain ⟨a, b, c, e1, _⟩ := ha.ok h.byt K hK
      exact ⟨⟨a, b, c, e1⟩, hb'⟩
    · refine (specRead_any g v d l wc hr hvd ⟨hv, hd⟩ (by omega)).mono ?_
      rintro e w' ⟨ha, hb'⟩
      obtain ⟨a, b, c, e1, _⟩ := ha.ok h.byt K hK
      exact ⟨⟨a, b, c, e1⟩, hb'⟩
  · rcases hK with ⟨_, h⟩ | ⟨h, _⟩
    · exact h
    · exact absurd hw h

/-- A signature that was read, packed again, is the bytes that it was read off. -/
theorem pack_back (q : Option Addr) (n d3 v : Nat) (l : List Int) (w : World) (hl : l.length = v) (hby : ∀ i, 0 ≤ l.getD i 0 ∧ l.getD i 0 ≤ 255) (h : RdOk w l q n) :
    Calls Try.prog 9 #[.agg #[.slice q n d3]] w fun e w' => ∃ g4 d4, e = .returned (.agg #[.int .i64 0, .slice (some ⟨g4, 0, none⟩) v d4]) ∧ Byt.Row w' g4 0 v l ∧ Below w.heap.size w w' := by
  obtain ⟨g, rfl, rfl, hw, hS⟩ := h
  have hq : l.getD 0 0 = (((l.getD 0 0).toNat : Nat) : Int) := by have := hby 0; omega
  have hp := packL_take hby (l.getD 0 0).toNat hq hw.1 _ hw.2.1.2.1
  rw [hw.2.2, List.take_length] at hp
  have hf := hw.2.1.2.2
  refine (implPack_any g 0 _ d3 _ _ w hS (kept_of hby _ (by have := hw.2.1.1; omega))).mono ?_
  rintro e w' ⟨ha, hb⟩
  rcases ha with ⟨h0, _⟩ | ⟨_, g4, d4, rfl, ho⟩
  · exact absurd hf h0
  · have hr := ho.packRow (fault_right hf)
    have hlen : (packV (nmOf l) (arOf l) (l.getD 0 0).toNat (l.getD 0 0).toNat).length = v := by rw [packV_map, List.length_map, hp, hl]
    rw [hp, hl] at hr
    exact ⟨g4, d4, by rw [hlen], hr, hb⟩

theorem sym_key {n : Nat} {N : Nat → ByteArray} {A : Nat → Int} (h : faultF n N A = 0) {k : Nat} (hk : k < n) : syC n N A (N k) = 0 ∧ syV n N A (N k) = (k : Int) := by
  have hf : findF n N (N k) = k := findF_at hk rfl (fun j hj e => ok_nodup h ⟨k, hk, j, hj, e.symm⟩)
  have := sy_ok (s := N k) h (by omega)
  exact ⟨this.1, by rw [this.2, hf]⟩

theorem ar_key {n : Nat} {N : Nat → ByteArray} {A : Nat → Int} (h : faultF n N A = 0) {k : Nat} (hk : k < n) : arC n N A (k : Int) = 0 ∧ arV n N A (k : Int) = A k := by
  have := ar_ok (N := N) (A := A) (x := (k : Int)) h (by simp [inB]; omega)
  exact ⟨this.1, by rw [this.2]; simp⟩

theorem same_key (n : Nat) (N : Nat → ByteArray) (A : Nat → Int) : sameB n n (nmOf (packL N A n n)) N (arOf (packL N A n n)) A = true := by
  refine decide_eq_true ?_
  exact ⟨rfl, fun i hi => ⟨packL_nm N A n n i hi, packL_ar N A n n i hi⟩⟩

theorem fld29a (C : Int) (a : Option Addr) (b k : Nat) (v : World) : (Instr.field 29 (.agg #[.int .i64 C, .slice a b k]) 1).run Try.prog v = .ok (.slice a b k) v := by kernel_rfl
theorem fld33a (C : Int) (a : Option Addr) (b k : Nat) (v : World) : (Instr.field 33 (.agg #[.int .i64 C, .slice a b k]) 0).run Try.prog v = .ok (.int .i64 C) v := by kernel_rfl

theorem src_keep {w w' : World} {p : Option Addr} {n : Nat} {l : List Int} (h : Byt.Src w p n l) (hb : Below w.heap.size w w') : Byt.Src w' p n l := by
  obtain ⟨h1, h2, h3, h4⟩ := h
  refine ⟨h1, h2, h3, h4.imp id ?_⟩
  rintro ⟨b, off, e, hlt, hc⟩
  exact ⟨b, off, e, Nat.lt_of_lt_of_le hlt hb.size, fun i hi => by rw [hb.cell (p := ⟨b, off + i, none⟩) hlt]; exact hc i hi⟩

end Go.Proofs.Ythgoclbgepfjmaa
