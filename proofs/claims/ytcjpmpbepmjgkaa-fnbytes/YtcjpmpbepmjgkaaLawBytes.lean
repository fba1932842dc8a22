/- Law FnBytes: of any three lists of bytes what is ahead of one that is ahead of the third is ahead of that; what begins with a list does not stand ahead of it. -/
import Derived.Test.YtcjpmpbepmjgkaaDrawCmp
import Derived.Test.YtcjpmpbepmjgkaaOrdMath
import Derived.Test.YtcjpmpbepmjgkaaCmp
import Derived.Test.YtcjpmpbepmjgkaaBeg
import Derived.Laws.AppendOwnNone
import Derived.Deep.RegionLaw
namespace Go.Proofs.Ytcjpmpbepmjgkaa
open Go.RowKit

set_option maxHeartbeats 800000 in
theorem lwBig_no (p : Option Addr) (n c : Nat) (w : World) (h : n ≤ 1048576) :
    Calls Try.prog 5 #[.slice p n c] w fun e w' => e = .returned (.bool false) ∧ w = w' := by
  have h1 : decide (1048576 < (n : Int)) = false := by simp; omega
  go_enter Try.func5, Try.ntmps5
  go_wp2
  go_ret
  exact ⟨rfl, rfl⟩

set_option maxHeartbeats 800000 in
theorem law_bytes_big (p : Option Addr) (n c : Nat) (w : World) (h : 1048576 < n) :
    Calls Try.prog 4 #[.slice p n c] w fun e w' => e = .returned (.bool true) ∧ Below w.heap.size w w' := by
  go_enter Try.func4, Try.ntmps4
  go_wp2
  go_ret
  exact ⟨rfl, Below.refl _ _⟩

set_option maxHeartbeats 400000 in
theorem lwBytes_any (b off n c b' off' m c' : Nat) (l r : List Int) (w : World) (h : Row w b off n l) (h' : Row w b' off' m r) :
    Calls Try.prog 20 #[.slice (some ⟨b, off, none⟩) n c, .slice (some ⟨b', off', none⟩) m c'] w fun e w' => e = .returned (.bool (decide (l = r))) ∧ w' = w := by
  have k1 := run_convert_bytes_arg (P := Try.prog) w 22 5 Try.underlying22 Try.underlying5 b off n c l h.len h.cell 9 Try.underlying9
  have k2 := run_convert_bytes_arg (P := Try.prog) w 22 5 Try.underlying22 Try.underlying5 b' off' m c' r h'.len h'.cell 9 Try.underlying9
  have e : ((strOfNums l).toList == (strOfNums r).toList) = decide (l = r) := by
    rw [Lib.strOfNums_toList, Lib.strOfNums_toList, Bool.eq_iff_iff]
    simp only [beq_iff_eq, decide_eq_true_eq]
    exact ⟨bytesOf_inj l r (byt_of l h.byt) (byt_of r h'.byt), fun e => by rw [e]⟩
  go_enter Try.func20, Try.ntmps20
  go_wp2
  go_ret
  exact ⟨rfl, rfl⟩

/-- Two short lists: no code. -/
theorem cmpS {w : World} {g n d g' m d' : Nat} {r q : List Int} (h : Row w g 0 n r) (h' : Row w g' 0 m q) (hn : n ≤ 20) (hm : m ≤ 20) :
    Calls Try.prog 16 #[.slice (some ⟨g, 0, none⟩) n d, .slice (some ⟨g', 0, none⟩) m d'] w fun e w' => e = .returned (.agg #[.int .i64 0, .int .i64 (ordL r q)]) ∧ Below w.heap.size w w' :=
  implCmp_any _ _ _ _ _ _ _ _ _ _ _ h h' (by omega)
theorem cmpM {w : World} {g n d g' m d' : Nat} {r q : List Int} (h : Row w g 0 n r) (h' : Row w g' 0 m q) (hn : n ≤ 20) (hm : m ≤ 20) :
    Calls Try.prog 17 #[.slice (some ⟨g, 0, none⟩) n d, .slice (some ⟨g', 0, none⟩) m d'] w fun e w' => e = .returned (.agg #[.int .i64 0, .int .i64 (ordL r q)]) ∧ Below w.heap.size w w' :=
  specCmp_any _ _ _ _ _ _ _ _ _ _ _ h h' (by omega)

theorem Row.keep {w w' : World} {b off n : Nat} {l : List Int} (h : Row w b off n l) (hb : Below w.heap.size w w') : Row w' b off n l := h.later hb h.blk
theorem Two.keep {w w' : World} {b : Nat} {x y : Value} (h : Two w b x y) (hb : Below w.heap.size w w') : Two w' b x y := h.later hb h.blk
theorem fld26 (a b : Value) (w : World) : (Instr.field 26 (.agg #[a, b]) 1).run Try.prog w = .ok b w := by kernel_rfl

theorem byt_cons {l : List Int} (h : ∀ i, 0 ≤ l.getD i 0 ∧ l.getD i 0 ≤ 255) : ∀ i, 0 ≤ ((3 : Int) :: l).getD i 0 ∧ ((3 : Int) :: l).getD i 0 ≤ 255 := by
  intro i
  match i with
  | 0 => simp
  | k + 1 => simpa using h k

theorem srcOf {w : World} {B g n d : Nat} {r : List Int} (h : Own w B g n d r) (hn : n ≤ 2000000) : Src w (some ⟨g, 0, none⟩) n r :=
  ⟨h.len, hn, h.byt, Or.inr ⟨g, 0, rfl, h.blk.2, (h.isRow hn).cell⟩⟩

theorem hidden {p : Prop} (h : p) : Hid p := h

theorem srcCells {w : World} {a : Addr} {n : Nat} {l : List Int} (h : Src w (some a) n l) : ∀ j u, (l.map (Value.int .u8))[j]? = some u → w.cell? (a.add j) = some u := by
  intro j u hj
  have hjn : j < l.length := by
    have := (List.getElem?_eq_some_iff.1 hj).1
    simpa using this
  obtain ⟨h1, _, _, h4 | ⟨b, off, hab, _, hc⟩⟩ := h
  · omega
  · cases hab
    have e : (⟨b, off, none⟩ : Addr).add j = ⟨b, off + j, none⟩ := by unfold Addr.add; split <;> simp_all
    rw [e, hc j (by omega), ← hj]
    simp [List.getD_eq_getElem?_getD, List.getElem?_eq_getElem hjn]

theorem step_own {P : Program} {ops : Array Oper} {o : Oper} {a : Act} {w : World} {K : Act → World → Prop} {Q : Exit → Act → World → Prop} {E : Prop} (hw : Region.wanted o (yielded ops a.tmps) = true) (s x : Operand) (t : TypeId)
    (ho : o.op = .call { callee := .builtin .append, args := #[s, x], argTypes := #[t, t] })
    (base : Nat) (e : TypeId) (i : TypeInfo) (z : Value) (size bytes : Nat) (ht : P.underlying t = some (.slice e)) (hi : P.info? e = some i) (hz : i.zero = some z)
    (hsize : i.size = size) (hby : i.bytes = bytes) (hzs : z.cells.size = size) (hsz : 0 < size)
    (v : Value) (n : Nat) (xs : List Value) (hs : a.eval s = v) (hown : w.ownsRow base e size v n xs)
    (ad : Addr) (m c : Nat) (news : List Value) (hx : a.eval x = .slice (some ad) m c) (hl : news.length = m * size) (hnews : ∀ j u, news[j]? = some u → w.cell? (ad.add j) = some u) (h1 : ∀ u ∈ news, u.oneCell' = true)
    (h63 : n + m ≤ maxLen) (hbytes : (n + m) * bytes ≤ 140737488355328) (hbase : base ≤ w.heap.size)
    (h : ∀ v' w', w'.ownsRow base e size v' (n + m) (xs ++ news) → w.grownBy w' v.ownBlock → (v' = .slice none 0 0 ↔ v = .slice none 0 0 ∧ m = 0) → K (a.put o.dst v') w') :
    if Region.wanted o (yielded ops a.tmps) = true then Oper.wp P o a w K Q else E := by
  rw [if_pos hw]
  exact wp_append_own w s x t ho base e i z size bytes ht hi hz hsize hby hzs hsz v n xs hs hown ad m c news hx hl hnews h1 h63 hbytes hbase h

theorem app_one {w9 wq : World} {ql : Nat} {v1 : Value} {m : Nat} {ys : List Value} (hown : wq.ownsRow w9.heap.size 5 1 v1 (0 + m) ([] ++ ys)) (hnil : v1 = .slice none 0 0 ↔ Value.slice (some ⟨w9.heap.size, 0, none⟩) 0 0 = .slice none 0 0 ∧ m = 0)
    (hgr : ((w9.drewN ql).alloc (.cells #[] 5)).grownBy wq (Value.slice (some ⟨w9.heap.size, 0, none⟩) 0 0).ownBlock) (_k : Nat) :
    ∃ g1 d1, v1 = .slice (some ⟨g1, 0, none⟩) m d1 ∧ wq.ownsRow w9.heap.size 5 1 (.slice (some ⟨g1, 0, none⟩) m d1) m ys ∧ Below w9.heap.size w9 wq ∧ w9.heap.size ≤ g1 := by
  rcases hown.2 with ⟨hv, _⟩ | ⟨g1, d1, cur, hv, hg, _⟩
  · exact absurd (hnil.1 hv).1 (by simp)
  · rw [hv] at hown
    rw [Nat.zero_add] at hv
    refine ⟨g1, d1, hv, by simpa using hown, ?_, hg⟩
    have b0 : Below w9.heap.size w9 ((w9.drewN ql).alloc (.cells #[] 5)) := (below_drewN (Below.refl _ _) ql).alloc (Nat.le_refl _) _
    exact b0.grown hgr (by simp) (by intro k hk; simp [Value.ownBlock] at hk; omega)

theorem app_out {w9 wq wr : World} {g1 d1 n m : Nat} {v2 : Value} {xs : List Value} (hown : wr.ownsRow w9.heap.size 5 1 v2 (n + m) xs) (hnil : v2 = .slice none 0 0 ↔ Value.slice (some ⟨g1, 0, none⟩) n d1 = .slice none 0 0 ∧ m = 0)
    (_h : Value.slice (some ⟨g1, 0, none⟩) n d1 ≠ .slice none 0 0) (hb : Below w9.heap.size w9 wq) (hgr : wq.grownBy wr (some g1)) (hg1 : w9.heap.size ≤ g1) :
    ∃ g2 d2, v2 = .slice (some ⟨g2, 0, none⟩) (n + m) d2 ∧ wr.ownsRow w9.heap.size 5 1 (.slice (some ⟨g2, 0, none⟩) (n + m) d2) (n + m) xs ∧ Below w9.heap.size w9 wr := by
  rcases hown.2 with ⟨hv, _⟩ | ⟨g2, d2, cur, hv, hg, _⟩
  · exact absurd (hnil.1 hv).1 (by simp)
  · rw [hv] at hown
    exact ⟨g2, d2, hv, hown, below_grown hb hgr hg1⟩

theorem app_row {w9 wr : World} {g2 d2 n m : Nat} {ra rb : List Int} (h : wr.ownsRow w9.heap.size 5 1 (.slice (some ⟨g2, 0, none⟩) (n + m) d2) (n + m) (ra.map (Value.int .u8) ++ rb.map (Value.int .u8))) (ha : ∀ i, 0 ≤ ra.getD i 0 ∧ ra.getD i 0 ≤ 255) (hb : ∀ i, 0 ≤ rb.getD i 0 ∧ rb.getD i 0 ≤ 255) (hn : n ≤ 20) (hm : m ≤ 20) : Row wr g2 0 (n + m) (ra ++ rb) := by
  refine ownRow (B := w9.heap.size) (c := d2) ?_ (by omega) ?_
  · rw [List.map_append]; exact h
  · intro i
    have h1 := ha i
    have h2 := hb (i - ra.length)
    simp only [List.getD_eq_getElem?_getD, List.getElem?_append] at h1 h2 ⊢
    split
    · exact h1
    · exact h2

theorem app_cap {w : World} {B g n d : Nat} {xs : List Value} (h : w.ownsRow B 5 1 (.slice (some ⟨g, 0, none⟩) n d) n xs) : n ≤ d := by
  rcases h.2 with ⟨hv, _⟩ | ⟨_, cap, _, hv, _, _, hcap, _⟩
  · simp at hv
  · simp at hv; omega

theorem Row.grown {w w' : World} {b off n g : Nat} {l : List Int} (h : Row w b off n l) (hg : w.grownBy w' (some g)) (hne : b ≠ g) : Row w' b off n l :=
  ⟨h.len, h.most, h.byt, Nat.lt_of_lt_of_le h.blk hg.size, fun i hi => hg.cell (h.cell i hi) (by simpa using hne)⟩

theorem negX (X : Int) (h : -1 ≤ X ∧ X ≤ 1) : (-X != IntKind.i64.wrap (-X)) = false := by
  have h3 : X = -1 ∨ X = 0 ∨ X = 1 := by omega
  rcases h3 with rfl | rfl | rfl <;> decide

set_option maxHeartbeats 400000 in
theorem bytesEqual_nil (b off c : Nat) (w : World) :
    Calls Try.prog 35 #[.slice (some ⟨b, off, none⟩) 0 c, .slice none 0 0] w fun e w' => e = .returned (.bool true) ∧ w' = w := by
  have k1 := run_convert_bytes_arg (P := Try.prog) w 22 5 Try.underlying22 Try.underlying5 b off 0 c [] rfl (fun i hi => by omega) 9 Try.underlying9
  have k2 := run_convert_bytes_nil (P := Try.prog) w 22 5 Try.underlying22 Try.underlying5 0 0 9 Try.underlying9
  have e0 : (strOfNums []).toList.isEmpty = true := by rw [Lib.strOfNums_toList]; rfl
  go_enter Try.func35, Try.ntmps35
  go_wp2
  go_ret
  exact ⟨rfl, rfl⟩

set_option maxHeartbeats 400000 in
theorem hasPrefix_nil (b off n c : Nat) (w : World) :
    Calls Try.prog 33 #[.slice (some ⟨b, off, none⟩) n c, .slice none 0 0] w fun e w' => e = .returned (.bool true) ∧ w' = w := by
  have hi : (0 : Int) ≤ (n : Int) := by omega
  go_enter Try.func33, Try.ntmps33
  go_wp2_with fail
  refine (bytesEqual_nil _ _ _ _).mono ?_
  rintro e w' ⟨rfl, rfl⟩
  go_wp2
  go_ret
  exact ⟨rfl, rfl⟩

set_option maxHeartbeats 400000 in
theorem implBegins_nil (b off n c : Nat) (w : World) :
    Calls Try.prog 18 #[.slice (some ⟨b, off, none⟩) n c, .slice none 0 0] w fun e w' => e = .returned (.bool true) ∧ w' = w := by
  go_enter Try.func18, Try.ntmps18
  go_wp2_with fail
  refine (hasPrefix_nil _ _ _ _ _).mono ?_
  rintro e w' ⟨rfl, rfl⟩
  go_wp2
  go_ret
  exact ⟨rfl, rfl⟩

set_option maxHeartbeats 8000000 in
set_option maxRecDepth 100000 in
theorem law_bytes (p : Option Addr) (n c : Nat) (l : List Int) (w : World) (h : Src w p n l) (hm : n ≤ 1048576) (hp : p = none → c = 0) :
    Calls Try.prog 4 #[.slice p n c] w fun e w' => e = .returned (.bool true) ∧ Below w.heap.size w w' := by
  have H : Hid (Src w p n l) := h
  clear h
  have HP : Hid (p = none → c = 0) := hp
  clear hp
  go_enter Try.func4, Try.ntmps4
  go_wp2_with fail
  refine (lwBig_no _ _ _ _ hm).mono ?_
  rintro e w' ⟨rfl, rfl⟩
  go_wp2_with fail
  refine (drawCmp_any _ _ _ l _ H.out).mono ?_
  rintro e w1 ⟨ga, ma, da, ra, gb, mb, db, rb, rfl, hma, hmb, oa, ob, b1⟩
  have A1 : Hid (Own w1 w.heap.size ga ma da ra) := oa
  have O1 : Hid (Own w1 w.heap.size gb mb db rb) := ob
  have B1 : Hid (Below w.heap.size w w1) := b1
  clear oa ob b1
  go_upto_region 4 with fail
  go_cut [5, 6] (fun t5 t6 wx => ∃ (gc mc dc : Nat) (rc : List Int) (ge me de : Nat) (re : List Int), t5 = .slice (some ⟨gc, 0, none⟩) mc dc ∧ t6 = .slice (some ⟨ge, 0, none⟩) me de ∧ mc ≤ 20 ∧ me ≤ 20 ∧ Hid (Row wx ga 0 ma ra) ∧ Hid (Row wx gb 0 mb rb) ∧ Hid (Row wx gc 0 mc rc) ∧ Hid (Row wx ge 0 me re) ∧ ma ≤ da ∧ mc ≤ dc ∧ Hid (Below w.heap.size w wx))
  case first =>
    have hl1 : (w1.alloc (.cells #[.int .u8 3] 5)).ownsRow w1.heap.size 5 1 (.slice (some ⟨w1.heap.size, 0, none⟩) 1 1) 1 [.int .u8 3] := World.ownsRow_lit w1 #[.int .u8 3] 1 (Nat.le_refl _) (by unfold maxLen; omega) rfl
    have HL1 : Hid _ := hl1
    clear hl1
    have fin : Hid (∀ (v' : Value) (w2 : World), w2.ownsRow w1.heap.size 5 1 v' (n + 1) ((3 :: l).map (Value.int .u8)) → v' ≠ .slice none 0 0 → Below w1.heap.size w1 w2 → ∃ g2 d2, v' = .slice (some ⟨g2, 0, none⟩) (n + 1) d2 ∧ Calls Try.prog 15 #[.slice (some ⟨g2, 0, none⟩) (n + 1) d2] w2 fun e w3 => ∃ (gc mc dc : Nat) (rc : List Int) (ge me de : Nat) (re : List Int), e = .returned (.tuple #[.slice (some ⟨gc, 0, none⟩) mc dc, .slice (some ⟨ge, 0, none⟩) me de]) ∧ mc ≤ 20 ∧ me ≤ 20 ∧ Row w3 ga 0 ma ra ∧ Row w3 gb 0 mb rb ∧ Row w3 gc 0 mc rc ∧ Row w3 ge 0 me re ∧ ma ≤ da ∧ mc ≤ dc ∧ Below w.heap.size w w3) := by
      intro v' w2 hown hnil hb2
      rcases hown.2 with ⟨hv, _⟩ | ⟨g2, d2, cur, hv, hg2, _⟩
      · exact absurd hv hnil
      · subst hv
        refine ⟨g2, d2, rfl, (drawBeg_any _ _ _ (3 :: l) _ (srcOf ⟨hown, byt_cons H.out.2.2.1⟩ (by omega))).mono ?_⟩
        rintro e w3 ⟨gc, mc, dc, rc, ge, me, de, re, rfl, hc, he, oc, oe, hb3⟩
        have b2 : Below w.heap.size w w2 := B1.out.trans (hb2.mono B1.out.size)
        have b3 : Below w.heap.size w w3 := b2.trans (hb3.mono b2.size)
        exact ⟨gc, mc, dc, rc, ge, me, de, re, rfl, hc, he, ((A1.out.keep hb2).keep hb3).isRow (by omega), ((O1.out.keep hb2).keep hb3).isRow (by omega), oc.isRow (by omega), oe.isRow (by omega), A1.out.cap, oc.cap, b3⟩
    cases p with
    | none =>
      have hn0 : n = 0 := by
        obtain ⟨_, _, _, h4 | ⟨_, _, h5, _⟩⟩ := H.out
        · exact h4
        · cases h5
      have hc0 := HP.out rfl
      have hl0 : l = [] := List.eq_nil_of_length_eq_zero (by rw [H.out.1]; exact hn0)
      subst hn0 hc0
      obtain ⟨g2, d2, hv, hcall⟩ := fin.out (.slice (some ⟨w1.heap.size, 0, none⟩) 1 1) (w1.alloc (.cells #[.int .u8 3] 5)) (by rw [hl0]; exact HL1.out) (by simp) (alloc_below _ _)
      have hv2 : w1.heap.size = g2 ∧ 1 = d2 := by simpa using hv
      obtain ⟨rfl, rfl⟩ := hv2
      have HC := hidden hcall
      clear hcall hv fin hl0
      go_wp2_with fail
      refine HC.out.mono ?_
      rintro e w3 ⟨gc, mc, dc, rc, ge, me, de, re, rfl, hc, he, x1, x2, x3, x4, x5, x6, x7⟩
      have X1 : Hid _ := x1
      have X2 : Hid _ := x2
      have X3 : Hid _ := x3
      have X4 : Hid _ := x4
      have X7 : Hid _ := x7
      clear x1 x2 x3 x4 x7
      go_wp2_with fail
      go_meet
      exact ⟨gc, mc, dc, rc, ge, me, de, re, rfl, rfl, hc, he, X1, X2, X3, X4, x5, x6, X7⟩
    | some a =>
      go_wp2_with (at_builtin; refine wpList_append_own _ rfl _ _ 22 rfl w1.heap.size 5 _ (.int .u8 0) 1 1 Try.underlying22 rfl rfl rfl rfl rfl (by decide) (.slice (some ⟨w1.heap.size, 0, none⟩) 1 1) 1 [.int .u8 3] rfl HL1.out a n c (l.map (Value.int .u8)) rfl ?qc1 ?qc2 (byteNews l) ?qc4 ?qc5 ?qc6 ?_)
      case qc1 => rw [List.length_map, H.out.1]; omega
      case qc2 => exact srcCells (H.out.later (B1.out.alloc B1.out.size _))
      case qc4 => unfold maxLen; omega
      case qc5 => omega
      case qc6 => simp
      intro v' w2 hown hgrow hnil
      have hbw : Below w1.heap.size w1 w2 := (alloc_below w1 _).grown hgrow (by simp) (by intro k hk; simp [Value.ownBlock] at hk; omega)
      obtain ⟨g2, d2, hv, hcall⟩ := fin.out v' w2 (by rw [Nat.add_comm]; exact hown) hnil hbw
      rw [hv]
      have HC := hidden hcall
      clear hcall hv fin hown hgrow hnil hbw
      go_wp2_with fail
      refine HC.out.mono ?_
      rintro e w3 ⟨gc, mc, dc, rc, ge, me, de, re, rfl, hc, he, x1, x2, x3, x4, x5, x6, x7⟩
      have X1 : Hid _ := x1
      have X2 : Hid _ := x2
      have X3 : Hid _ := x3
      have X4 : Hid _ := x4
      have X7 : Hid _ := x7
      clear x1 x2 x3 x4 x7
      go_wp2_with fail
      go_meet
      exact ⟨gc, mc, dc, rc, ge, me, de, re, rfl, rfl, hc, he, X1, X2, X3, X4, x5, x6, X7⟩
  case rest =>
    rename World => w3
    obtain ⟨gc, mc, dc, rc, ge, me, de, re, rfl, rfl, hmc, hme, RA, RB, RC, RE, hda, hdc, BW⟩ := hcut
    clear A1 O1 B1 H HP
    generalize hxy : ordL ra rb = X
    generalize hyz : ordL rb rc = Y
    generalize hxz : ordL ra rc = Z
    have HX : Hid _ := hxy
    have HY : Hid _ := hyz
    have HZ : Hid _ := hxz
    clear hxy hyz hxz
    go_wp2_with fail
    refine (cmpS RA.out RB.out hma hmb).mono ?_
    rw [HX.out]
    rintro e w4 ⟨rfl, hb4⟩
    have B4 : Hid (Below w.heap.size w w4) := BW.out.trans (hb4.mono BW.out.size)
    have RA4 : Hid (Row w4 ga 0 ma ra) := RA.out.keep hb4
    have RB4 : Hid (Row w4 gb 0 mb rb) := RB.out.keep hb4
    have RC4 : Hid (Row w4 gc 0 mc rc) := RC.out.keep hb4
    have RE4 : Hid (Row w4 ge 0 me re) := RE.out.keep hb4
    clear hb4 BW RA RB RC RE
    go_wp2_with fail
    refine (cmpS (RB4.out.keep (alloc_below _ _)) (RC4.out.keep (alloc_below _ _)) hmb hmc).mono ?_
    rw [HY.out]
    rintro e w5 ⟨rfl, hb5⟩
    have b5 := (alloc_below w4 (.cells #[.int .i64 0, .int .i64 X] 26)).trans (hb5.mono (by simp))
    have B5 : Hid (Below w.heap.size w w5) := B4.out.trans (b5.mono B4.out.size)
    have T5 : Hid (Two w5 w4.heap.size (.int .i64 0) (.int .i64 X)) := (Two.new w4 _ _ 26).keep hb5
    have RA5 : Hid (Row w5 ga 0 ma ra) := RA4.out.keep b5
    have RB5 : Hid (Row w5 gb 0 mb rb) := RB4.out.keep b5
    have RC5 : Hid (Row w5 gc 0 mc rc) := RC4.out.keep b5
    have RE5 : Hid (Row w5 ge 0 me re) := RE4.out.keep b5
    clear hb5 b5 B4 RA4 RB4 RC4 RE4
    go_wp2_with fail
    refine (cmpS (RA5.out.keep (alloc_below _ _)) (RC5.out.keep (alloc_below _ _)) hma hmc).mono ?_
    rw [HZ.out]
    rintro e w6 ⟨rfl, hb6⟩
    have b6 := (alloc_below w5 (.cells #[.int .i64 0, .int .i64 Y] 26)).trans (hb6.mono (by simp))
    have b7 := b6.trans (((alloc_below w6 (.cells #[.int .i64 0, .int .i64 Z] 26))).mono b6.size)
    obtain ⟨W, hW⟩ : ∃ W, W = w6.alloc (.cells #[.int .i64 0, .int .i64 Z] 26) := ⟨_, rfl⟩
    rw [← hW] at b7
    have BW : Hid (Below w.heap.size w W) := B5.out.trans (b7.mono B5.out.size)
    have TX : Hid (Two W w4.heap.size (.int .i64 0) (.int .i64 X)) := T5.out.keep b7
    have TY : Hid (Two W w5.heap.size (.int .i64 0) (.int .i64 Y)) := by rw [hW]; exact ((Two.new w5 _ _ 26).keep hb6).keep (alloc_below _ _)
    have TZ : Hid (Two W w6.heap.size (.int .i64 0) (.int .i64 Z)) := by rw [hW]; exact Two.new w6 _ _ 26
    have RA : Hid (Row W ga 0 ma ra) := RA5.out.keep b7
    have RB : Hid (Row W gb 0 mb rb) := RB5.out.keep b7
    have RC : Hid (Row W gc 0 mc rc) := RC5.out.keep b7
    have RE : Hid (Row W ge 0 me re) := RE5.out.keep b7
    clear hb6 b6 b7 B5 T5 RA5 RB5 RC5 RE5
    go_upto_region 8 with fail
    rw [← hW]
    clear hW
    have hX := ordL_bd ra rb
    have hY := ordL_bd rb rc
    have hZ := ordL_bd ra rc
    rw [HX.out] at hX
    rw [HY.out] at hY
    rw [HZ.out] at hZ
    have S1 := hidden (show ∀ w', Below W.heap.size W w' → Calls Try.prog 17 #[.slice (some ⟨ga, 0, none⟩) ma da, .slice (some ⟨gb, 0, none⟩) mb db] w' fun e w'' => e = .returned (.agg #[.int .i64 0, .int .i64 X]) ∧ Below W.heap.size W w'' ∧ w''.cell? ⟨w4.heap.size, 0, none⟩ = some (.int .i64 0) ∧ w''.cell? ⟨w4.heap.size, 1, none⟩ = some (.int .i64 X) by
      intro w' hw'
      refine (cmpM (RA.out.keep hw') (RB.out.keep hw') hma hmb).mono ?_
      rw [HX.out]
      rintro e w'' ⟨rfl, hb⟩
      have bb := hw'.trans (hb.mono hw'.size)
      exact ⟨rfl, bb, (TX.out.keep bb).c0, (TX.out.keep bb).c1⟩)
    have S2 := hidden (show ∀ w', Below W.heap.size W w' → Calls Try.prog 16 #[.slice (some ⟨gb, 0, none⟩) mb db, .slice (some ⟨ga, 0, none⟩) ma da] w' fun e w'' => e = .returned (.agg #[.int .i64 0, .int .i64 (-X)]) ∧ Below W.heap.size W w'' ∧ w''.cell? ⟨w4.heap.size, 0, none⟩ = some (.int .i64 0) ∧ w''.cell? ⟨w4.heap.size, 1, none⟩ = some (.int .i64 X) by
      intro w' hw'
      refine (cmpS (RB.out.keep hw') (RA.out.keep hw') hmb hma).mono ?_
      rw [ordL_anti, HX.out]
      rintro e w'' ⟨rfl, hb⟩
      have bb := hw'.trans (hb.mono hw'.size)
      exact ⟨rfl, bb, (TX.out.keep bb).c0, (TX.out.keep bb).c1⟩)
    obtain ⟨y1, q1, q2⟩ := id TX.out
    have F1 := fld26
    go_cut [47] (fun t wc => t = .bool false ∧ Below W.heap.size W wc)
    case first =>
      go_region_with (first | (go_at_call 17; refine (S1.out _ ?_).mono ?_; (first | exact Below.refl _ _ | exact (Below.refl _ _).drew); rintro e w7 ⟨rfl, hb7, hc7, hd7⟩) | (go_at_call 16; refine (S2.out _ ?_).mono ?_; (first | assumption | exact Below.drew (by assumption)); rintro e w8 ⟨rfl, hb8, hc8, hd8⟩))
      all_goals (go_wp2_with fail; go_meet)
      all_goals (exact ⟨by rw [negX X hX], hb8⟩)
    case rest =>
      rename World => w7
      obtain ⟨rfl, bc⟩ := hcut
      have B7 : Hid (Below w.heap.size w w7) := BW.out.trans (bc.mono BW.out.size)
      have TX7 : Hid (Two w7 w4.heap.size (.int .i64 0) (.int .i64 X)) := TX.out.keep bc
      have TY7 : Hid (Two w7 w5.heap.size (.int .i64 0) (.int .i64 Y)) := TY.out.keep bc
      have TZ7 : Hid (Two w7 w6.heap.size (.int .i64 0) (.int .i64 Z)) := TZ.out.keep bc
      have RA7 : Hid (Row w7 ga 0 ma ra) := RA.out.keep bc
      have RB7 : Hid (Row w7 gb 0 mb rb) := RB.out.keep bc
      have RC7 : Hid (Row w7 gc 0 mc rc) := RC.out.keep bc
      have RE7 : Hid (Row w7 ge 0 me re) := RE.out.keep bc
      clear bc BW TX TY TZ RA RB RC RE S1 S2 q1 q2 y1 F1
      go_upto_region 10 with fail
      have hT1 : X ≤ 0 → Y ≤ 0 → Z ≤ 0 := by
        have := ordL_trans ra rb rc
        rw [HX.out, HY.out, HZ.out] at this
        exact this
      have hT2 : Z = 0 → X + Y = 0 := by
        have := ordL_sum ra rb rc
        rw [HX.out, HY.out, HZ.out] at this
        exact this
      have HT1 := hidden hT1
      have HT2 := hidden hT2
      clear hT1 hT2
      go_cut [73] (fun t wc => t = .bool false ∧ wc = w7)
      case first =>
        obtain ⟨y1, q1, q2⟩ := id TX7.out
        obtain ⟨y2, q3, q4⟩ := id TY7.out
        obtain ⟨y3, q5, q6⟩ := id TZ7.out
        have hx3 : X = -1 ∨ X = 0 ∨ X = 1 := by omega
        have hy3 : Y = -1 ∨ Y = 0 ∨ Y = 1 := by omega
        have hz3 : Z = -1 ∨ Z = 0 ∨ Z = 1 := by omega
        clear TX7 TY7 TZ7 RA7 RB7 RC7 RE7 HX HY HZ hX hY hZ B7
        rcases hx3 with rfl | rfl | rfl
        all_goals (rcases hy3 with rfl | rfl | rfl)
        all_goals (rcases hz3 with rfl | rfl | rfl)
        all_goals (first | (exfalso; have h1 := HT1.out; have h2 := HT2.out; omega) | (clear HT1 HT2; go_wp2_with fail; go_meet; exact ⟨rfl, rfl⟩))
      case rest =>
        rename World => w8
        obtain ⟨rfl, rfl⟩ := hcut
        go_upto_region 12 with fail
        go_cut [92] (fun t wc => t = .bool false ∧ Below w8.heap.size w8 wc)
        case first =>
          generalize hbe : begB rc re = bE
          have HBE := hidden hbe
          have HOE := hidden (begB_ord rc re)
          clear hbe
          go_wp2_with fail
          refine (implBegins_any _ _ _ _ _ _ _ _ rc re _ RC7.out RE7.out hdc).mono ?_
          rw [HBE.out]
          rintro e w' ⟨rfl, rfl⟩
          go_wp2_with fail
          refine (specBegins_any _ _ _ _ _ _ _ _ rc re _ RC7.out RE7.out).mono ?_
          rw [HBE.out]
          rintro e w9 ⟨rfl, hb9⟩
          have B9 := hidden hb9
          have RC9 := hidden (RC7.out.keep hb9)
          have RE9 := hidden (RE7.out.keep hb9)
          clear hb9
          have hself : (bE != bE) = false := by simp
          go_wp2_with fail
          refine (implBegins_any _ _ _ _ _ _ _ _ rc re _ RC9.out RE9.out hdc).mono ?_
          rw [HBE.out]
          rintro e w' ⟨rfl, rfl⟩
          cases bE
          · go_wp2_with fail
            go_meet
            exact ⟨rfl, B9.out⟩
          · have ho := HOE.out HBE.out
            generalize hq : ordL re rc = V at ho
            have HQ := hidden hq
            clear hq
            have ho' : decide (0 < V) = false := by simp; omega
            have F1 := fld26
            go_wp2_with fail
            refine (cmpS RE9.out RC9.out hme hmc).mono ?_
            rw [HQ.out]
            rintro e wa ⟨rfl, hba⟩
            have BA := hidden (B9.out.trans (hba.mono B9.out.size))
            clear hba
            go_wp2_with fail
            go_meet
            exact ⟨rfl, BA.out⟩
        case rest =>
          rename World => w9
          obtain ⟨rfl, hb9⟩ := hcut
          have B9 := hidden (B7.out.trans (hb9.mono B7.out.size))
          have TX9 := hidden (TX7.out.keep hb9)
          have RA9 := hidden (RA7.out.keep hb9)
          have RB9 := hidden (RB7.out.keep hb9)
          clear hb9 B7 TX7 TY7 TZ7 RA7 RB7 RC7 RE7 HT1 HT2 HY HZ
          go_upto_region 14 with fail
          obtain ⟨y1, q1, q2⟩ := id TX9.out
          have hga9 : ga < w9.heap.size := RA9.out.blk
          have L20 := hidden (show ∀ w', (∃ q, w' = w9.drewN q) → Calls Try.prog 20 #[.slice (some ⟨ga, 0, none⟩) ma da, .slice (some ⟨gb, 0, none⟩) mb db] w' fun e w'' => e = .returned (.bool (X == 0)) ∧ ∃ q, w'' = w9.drewN q by
            rintro w' ⟨q, rfl⟩
            refine (lwBytes_any _ _ _ _ _ _ _ _ ra rb _ (RA9.out.keep (below_drewN (Below.refl _ _) q)) (RB9.out.keep (below_drewN (Below.refl _ _) q))).mono ?_
            rw [← eq_iff_ordL, HX.out]
            rintro e w'' ⟨rfl, rfl⟩
            exact ⟨rfl, q, rfl⟩)
          go_region_law (first | (go_simp; go_at_call 20; refine (L20.out _ ?_).mono ?_; exact ⟨_, rfl⟩; rintro e wl ⟨rfl, ql, rfl⟩) | (go_simp; go_at_call_of 18 (Value.slice none 0 0); refine (implBegins_nil _ _ _ _ _).mono ?_; rintro e wl ⟨rfl, rfl⟩) | (go_simp; go_at_call_of 18 (g2); refine (implBegins_any _ _ _ _ _ _ _ _ (ra ++ rb) ra _ O2.out RA2.out hcap).mono ?_; rw [begB_append]; rintro e wl ⟨rfl, rfl⟩) | (refine step_own ?_ _ _ 22 rfl w9.heap.size 5 _ (.int .u8 0) 1 1 Try.underlying22 rfl rfl rfl rfl rfl (by decide) (.slice (some ⟨g1, 0, none⟩) ma d1) ma (ra.map (Value.int .u8)) rfl O1.out ⟨gb, 0, none⟩ mb db (rb.map (Value.int .u8)) rfl ?_ (rowCells RB1.out) (byteNews rb) ?_ ?_ ?_ ?_; go_simp; (rw [List.length_map, RB1.out.len]; omega); (unfold maxLen; omega); omega; exact B1.out.size; intro v2 wr hown2 hgr2 hnil2; obtain ⟨g2, d2, hv2, O2', B2'⟩ := app_out hown2 hnil2 (by simp) B1.out hgr2 hg1; rw [hv2]; have O2 := hidden (app_row O2' RA1.out.byt RB1.out.byt hma hmb); have hcap := app_cap O2'; have RA2 := hidden (RA1.out.grown (g := g1) hgr2 (by omega)); have B2 := hidden B2'; clear hown2 hgr2 hnil2 hv2 O2' B2') | (refine step_own ?_ _ _ 22 rfl w9.heap.size 5 _ (.int .u8 0) 1 1 Try.underlying22 rfl rfl rfl rfl rfl (by decide) (.slice (some ⟨w9.heap.size, 0, none⟩) 0 0) 0 [] rfl (World.ownsRow_made (w9.drewN ql) #[] 0 (Nat.le_refl _) (Nat.zero_le _) rfl) ⟨ga, 0, none⟩ ma da (ra.map (Value.int .u8)) rfl ?_ (rowCells ((RA9.out.keep (below_drewN (Below.refl _ _) ql)).keep (alloc_below _ _))) (byteNews ra) ?_ ?_ ?_ ?_; go_simp; (rw [List.length_map, RA9.out.len]; omega); (unfold maxLen; omega); omega; simp; intro v1 wq hown1 hgr1 hnil1; obtain ⟨g1, d1, hv1, O1', B1', hg1⟩ := app_one hown1 hnil1 hgr1 ma; rw [hv1]; have O1 := hidden O1'; have B1 := hidden B1'; have RA1 := hidden (RA9.out.keep B1'); have RB1 := hidden (RB9.out.keep B1'); clear hown1 hgr1 hnil1 hv1 O1' B1'))
          all_goals (go_wp2_with fail; go_ret; exact ⟨rfl, B9.out.trans (B2.out.mono B9.out.size)⟩)

end Go.Proofs.Ytcjpmpbepmjgkaa
