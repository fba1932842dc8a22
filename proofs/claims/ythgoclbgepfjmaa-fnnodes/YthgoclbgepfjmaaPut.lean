/- Contracts: a number is put into a rising list, and the variables of a term are told, as the model does it. -/
import Derived.Test.YthgoclbgepfjmaaVarMath
namespace Go.Proofs.Ythgoclbgepfjmaa
open Go.RowKit

theorem oneValI (x : Int) : ∀ u ∈ [Value.int .i64 x], u.oneCell' = true := by intro u hu; simp at hu; rw [hu]; rfl

theorem one_srcI (W : World) (v : Value) (t : TypeId) : ∀ (j : Nat) (u : Value), [v][j]? = some u → (W.alloc (.cells #[v] t)).cell? ((⟨W.heap.size, 0, none⟩ : Addr).add j) = some u := by
  intro j u hj
  match j, hj with
  | 0, hj => simp at hj; subst hj; simp [Addr.add, go_sem]

/-- A list of numbers in memory of its own. -/
structure OwnL (w : World) (B g d : Nat) (l : List Int) : Prop where
  base : B ≤ g
  own : w.ownsRow B 2 1 (.slice (some ⟨g, 0, none⟩) l.length d) l.length (l.map (fun x => Value.int .i64 x))

theorem OwnL.ownI {w : World} {B g d : Nat} {l : List Int} (h : OwnL w B g d l) : OwnI w B g l.length d (fun i => l.getD i 0) l.length :=
  ⟨_, h.own, fun i hi => by simp [List.getElem?_eq_getElem hi]⟩

theorem OwnL.lt {w : World} {B g d : Nat} {l : List Int} (h : OwnL w B g d l) : g < w.heap.size := h.ownI.lt

theorem ownL_open {w w1 : World} {B : Nat} {v' : Value} {l : List Int} {k : Nat} {xs : List Value} (h : w1.ownsRow B 2 1 v' k xs) (hk : k = l.length) (hx : xs = l.map (fun x => Value.int .i64 x)) (hnil : ¬ v' = .slice none 0 0) (hb : Below B w w1) : ∃ g d, v' = .slice (some ⟨g, 0, none⟩) l.length d ∧ OwnL w1 B g d l ∧ Below B w w1 := by
  subst hk hx
  rcases h.2 with ⟨hv, _⟩ | ⟨g, d, cur, hv, hg, _⟩
  · exact absurd hv hnil
  · subst hv; exact ⟨g, d, rfl, ⟨hg, h⟩, hb⟩

set_option maxRecDepth 20000 in
set_option maxHeartbeats 3200000 in
theorem l1Put_any (b off c : Nat) (l : List Int) (v : Int) (w : World) (h : Ints w b off l.length (fun i => l.getD i 0)) (hl : l.length ≤ 24) :
    Calls Try.prog 95 #[.slice (some ⟨b, off, none⟩) l.length c, .int .i64 v] w fun e w' => ∃ g d, e = .returned (.slice (some ⟨g, 0, none⟩) (vput l v).length d) ∧ OwnL w' w.heap.size g d (vput l v) ∧ Below w.heap.size w w' := by
  have HO := hidden (show OwnL (w.alloc (.cells #[] 2)) w.heap.size w.heap.size 0 [] from ⟨Nat.le_refl _, World.ownsRow_made w #[] 0 (Nat.le_refl _) (Nat.zero_le _) rfl⟩)
  have H := hidden h
  obtain ⟨n, hn⟩ : ∃ n, n = l.length := ⟨_, rfl⟩
  rw [← hn] at hl ⊢
  have HN := hidden hn
  clear h hn
  go_enter Try.func95, Try.ntmps95
  go_wp2
  go_loopw [5, 6, 7] (fun o z i wr => ∃ (k g d : Nat) (out : List Int) (done : Bool), k ≤ n ∧ i = .int .i64 k ∧ z = .bool done ∧ o = .slice (some ⟨g, 0, none⟩) out.length d ∧ out.length ≤ 2 * k ∧ Hid (out ++ (if done = true then l.drop k else vput (l.drop k) v) = vput l v) ∧ Hid (OwnL wr w.heap.size g d out ∧ Below w.heap.size w wr)) (fun _ _ i _ => n - (intOf i).toNat)
  case atStart => exact ⟨0, _, _, [], false, Nat.zero_le _, rfl, rfl, rfl, Nat.zero_le _, hidden (by simp), hidden ⟨HO.out, alloc_below _ _⟩⟩
  case round =>
    clear HO
    obtain ⟨k, g, d, out, done, hk, rfl, rfl, rfl, hout, HV, HI⟩ := hrel
    by_cases hlt : k < n
    · have hkl : k < l.length := by rw [← HN.out]; exact hlt
      obtain ⟨x, hx⟩ : ∃ x, x = l[k]'hkl := ⟨_, rfl⟩
      have HX := hidden hx
      have hdrop : l.drop k = x :: l.drop (k + 1) := by rw [hx]; exact List.drop_eq_getElem_cons hkl
      have HD := hidden hdrop
      have c1 : wr.cell? ⟨b, off + k, none⟩ = some (.int .i64 x) := by
        have := (H.out.keep HI.out.2).cell k hkl
        rw [this, hx]; simp [List.getElem?_eq_getElem hkl]
      clear hx hdrop
      have O1 := hidden HI.out.1.own
      have B1 := hidden HI.out.2
      have G1 := HI.out.1.base
      have W1 := hidden HI.out.2.size
      clear HI
      cases done
      · by_cases hv : v ≤ x
        · have hv' : decide (v ≤ x) = true := by simpa using hv
          by_cases he : x = v
          · have HV2 := hidden (show (out ++ [x]) ++ (if true = true then l.drop (k + 1) else vput (l.drop (k + 1)) v) = vput l v by
              rw [← HV.out, HD.out]; simp [vput, he])
            have he' : (x != v) = false := by simpa using he
            clear he hv
            go_wp2_with (first | (at_builtin; refine wpList_append_own _ rfl _ _ 44 rfl w.heap.size 2 _ (.int .i64 0) 1 8 Try.underlying44 rfl rfl rfl rfl rfl (by decide) _ _ _ rfl (O1.out.alloc _) ⟨wr.heap.size, 0, none⟩ 1 1 [.int .i64 x] rfl rfl (one_srcI _ _ _) (oneValI _) (by unfold maxLen; omega) (by omega) (by have := W1.out; simp; omega) ?_) | go_in)
            intro v' w1 hown hgrow hnil
            obtain ⟨g2, d2, rfl, O2, B2⟩ := ownL_open (l := out ++ [x]) hown (by simp) (by simp) (by simpa using hnil) ((B1.out.alloc W1.out _).grown hgrow (by have := W1.out; simp; omega) (by intro q hq; simp [Value.ownBlock] at hq; omega))
            have H2 := hidden (And.intro O2 B2)
            clear hown hgrow hnil c1 O1 B1 G1 W1 O2 B2
            have hl2 : (out ++ [x]).length = out.length + 1 := by simp
            generalize out ++ [x] = out2 at *
            go_wp2
            go_roundw
            case rel => exact ⟨k + 1, g2, d2, out2, true, by omega, by go_num, rfl, rfl, by omega, HV2, H2⟩
            case measure => simp [intOf]; omega
          · have HV2 := hidden (show (out ++ [v]) ++ [x] ++ (if true = true then l.drop (k + 1) else vput (l.drop (k + 1)) v) = vput l v by
              rw [← HV.out, HD.out]; simp [vput, hv, he])
            have he' : (x != v) = true := by simpa using he
            clear he hv
            go_wp2_with (first | (at_builtin; refine wpList_append_own _ rfl _ _ 44 rfl w.heap.size 2 _ (.int .i64 0) 1 8 Try.underlying44 rfl rfl rfl rfl rfl (by decide) _ _ _ rfl (O1.out.alloc _) ⟨wr.heap.size, 0, none⟩ 1 1 [.int .i64 v] rfl rfl (one_srcI _ _ _) (oneValI _) (by unfold maxLen; omega) (by omega) (by have := W1.out; simp; omega) ?_) | go_in)
            intro v' w1 hown hgrow hnil
            obtain ⟨g2, d2, rfl, O2, B2⟩ := ownL_open (l := out ++ [v]) hown (by simp) (by simp) (by simpa using hnil) ((B1.out.alloc W1.out _).grown hgrow (by have := W1.out; simp; omega) (by intro q hq; simp [Value.ownBlock] at hq; omega))
            have c2 : w1.cell? ⟨b, off + k, none⟩ = some (.int .i64 x) := by
              have := (H.out.keep B2).cell k hkl
              rw [this, HX.out]; simp [List.getElem?_eq_getElem hkl]
            have O2' := hidden O2.own
            have G2 := O2.base
            have W2 := hidden B2.size
            have B2' := hidden B2
            clear hown hgrow hnil c1 O1 B1 G1 W1 O2 B2
            have hl2 : (out ++ [v]).length = out.length + 1 := by simp
            generalize out ++ [v] = out2 at *
            go_wp2_with (first | (at_builtin; refine wpList_append_own _ rfl _ _ 44 rfl w.heap.size 2 _ (.int .i64 0) 1 8 Try.underlying44 rfl rfl rfl rfl rfl (by decide) _ _ _ rfl (O2'.out.alloc _) ⟨w1.heap.size, 0, none⟩ 1 1 [.int .i64 x] rfl rfl (one_srcI _ _ _) (oneValI _) (by unfold maxLen; omega) (by omega) (by have := W2.out; simp; omega) ?_) | go_in)
            intro v' w2 hown hgrow hnil
            obtain ⟨g3, d3, rfl, O3, B3⟩ := ownL_open (l := out2 ++ [x]) hown (by simp; omega) (by simp) (by simpa using hnil) ((B2'.out.alloc W2.out _).grown hgrow (by have := W2.out; simp; omega) (by intro q hq; simp [Value.ownBlock] at hq; omega))
            have H3 := hidden (And.intro O3 B3)
            clear hown hgrow hnil c2 O2' B2' G2 W2 O3 B3
            have hl3 : (out2 ++ [x]).length = out2.length + 1 := by simp
            generalize out2 ++ [x] = out3 at *
            go_wp2
            go_roundw
            case rel => exact ⟨k + 1, g3, d3, out3, true, by omega, by go_num, rfl, rfl, by omega, HV2, H3⟩
            case measure => simp [intOf]; omega
        · have hv' : decide (v ≤ x) = false := by simpa using hv
          have HV2 := hidden (show (out ++ [x]) ++ (if false = true then l.drop (k + 1) else vput (l.drop (k + 1)) v) = vput l v by
              rw [← HV.out, HD.out]; simp [vput, hv])
          clear hv
          go_wp2_with (first | (at_builtin; refine wpList_append_own _ rfl _ _ 44 rfl w.heap.size 2 _ (.int .i64 0) 1 8 Try.underlying44 rfl rfl rfl rfl rfl (by decide) _ _ _ rfl (O1.out.alloc _) ⟨wr.heap.size, 0, none⟩ 1 1 [.int .i64 x] rfl rfl (one_srcI _ _ _) (oneValI _) (by unfold maxLen; omega) (by omega) (by have := W1.out; simp; omega) ?_) | go_in)
          intro v' w1 hown hgrow hnil
          obtain ⟨g2, d2, rfl, O2, B2⟩ := ownL_open (l := out ++ [x]) hown (by simp) (by simp) (by simpa using hnil) ((B1.out.alloc W1.out _).grown hgrow (by have := W1.out; simp; omega) (by intro q hq; simp [Value.ownBlock] at hq; omega))
          have H2 := hidden (And.intro O2 B2)
          clear hown hgrow hnil c1 O1 B1 G1 W1 O2 B2
          have hl2 : (out ++ [x]).length = out.length + 1 := by simp
          generalize out ++ [x] = out2 at *
          go_wp2
          go_roundw
          case rel => exact ⟨k + 1, g2, d2, out2, false, by omega, by go_num, rfl, rfl, by omega, HV2, H2⟩
          case measure => simp [intOf]; omega
      · have HV2 := hidden (show (out ++ [x]) ++ (if true = true then l.drop (k + 1) else vput (l.drop (k + 1)) v) = vput l v by
              rw [← HV.out, HD.out]; simp)
        go_wp2_with (first | (at_builtin; refine wpList_append_own _ rfl _ _ 44 rfl w.heap.size 2 _ (.int .i64 0) 1 8 Try.underlying44 rfl rfl rfl rfl rfl (by decide) _ _ _ rfl (O1.out.alloc _) ⟨wr.heap.size, 0, none⟩ 1 1 [.int .i64 x] rfl rfl (one_srcI _ _ _) (oneValI _) (by unfold maxLen; omega) (by omega) (by have := W1.out; simp; omega) ?_) | go_in)
        intro v' w1 hown hgrow hnil
        obtain ⟨g2, d2, rfl, O2, B2⟩ := ownL_open (l := out ++ [x]) hown (by simp) (by simp) (by simpa using hnil) ((B1.out.alloc W1.out _).grown hgrow (by have := W1.out; simp; omega) (by intro q hq; simp [Value.ownBlock] at hq; omega))
        have H2 := hidden (And.intro O2 B2)
        clear hown hgrow hnil c1 O1 B1 G1 W1 O2 B2
        have hl2 : (out ++ [x]).length = out.length + 1 := by simp
        generalize out ++ [x] = out2 at *
        go_wp2
        go_roundw
        case rel => exact ⟨k + 1, g2, d2, out2, true, by omega, by go_num, rfl, rfl, by omega, HV2, H2⟩
        case measure => simp [intOf]; omega
    · obtain rfl : k = n := by omega
      have hdrop : l.drop k = [] := by rw [HN.out]; simp
      cases done
      · have HV2 := hidden (show out ++ [v] = vput l v by rw [← HV.out, hdrop]; simp [vput])
        have O1 := hidden HI.out.1.own
        have B1 := hidden HI.out.2
        have G1 := HI.out.1.base
        have W1 := hidden HI.out.2.size
        clear HI hdrop
        go_wp2_with (first | (at_builtin; refine wpList_append_own _ rfl _ _ 44 rfl w.heap.size 2 _ (.int .i64 0) 1 8 Try.underlying44 rfl rfl rfl rfl rfl (by decide) _ _ _ rfl (O1.out.alloc _) ⟨wr.heap.size, 0, none⟩ 1 1 [.int .i64 v] rfl rfl (one_srcI _ _ _) (oneValI _) (by unfold maxLen; omega) (by omega) (by have := W1.out; simp; omega) ?_) | go_in)
        intro v' w1 hown hgrow hnil
        obtain ⟨g2, d2, rfl, O2, B2⟩ := ownL_open (l := out ++ [v]) hown (by simp) (by simp) (by simpa using hnil) ((B1.out.alloc W1.out _).grown hgrow (by have := W1.out; simp; omega) (by intro q hq; simp [Value.ownBlock] at hq; omega))
        have H2 := hidden (And.intro O2 B2)
        clear hown hgrow hnil O1 B1 G1 W1 O2 B2
        rw [HV2.out] at H2 ⊢
        go_wp2
        go_ret
        exact ⟨g2, d2, rfl, H2.out.1, H2.out.2⟩
      · have HV2 := hidden (show out = vput l v by rw [← HV.out, hdrop]; simp)
        clear hdrop
        rw [HV2.out] at HI ⊢
        go_wp2
        go_ret
        exact ⟨g, d, rfl, HI.out.1, HI.out.2⟩

set_option maxRecDepth 20000 in
set_option maxHeartbeats 1600000 in
theorem l3Vars_any (b off m c : Nat) (T : Nat → Int) (w : World) (h : Ints w b off m T) (hm : m ≤ 24) (hv : ∀ i, i < m → T i < 0 → -12 ≤ T i) :
    Calls Try.prog 82 #[.slice (some ⟨b, off, none⟩) m c] w fun e w' => ∃ g d, e = .returned (.slice (some ⟨g, 0, none⟩) (vl T m).length d) ∧ OwnL w' w.heap.size g d (vl T m) ∧ Below w.heap.size w w' := by
  have HO := hidden (show OwnL (w.alloc (.cells #[] 2)) w.heap.size w.heap.size 0 [] from ⟨Nat.le_refl _, World.ownsRow_made w #[] 0 (Nat.le_refl _) (Nat.zero_le _) rfl⟩)
  have H := hidden h
  have HV := hidden hv
  clear h hv
  go_enter Try.func82, Try.ntmps82
  go_wp2
  go_loopw [3, 4] (fun o i wr => ∃ (k g d : Nat), k ≤ m ∧ i = .int .i64 k ∧ o = .slice (some ⟨g, 0, none⟩) (vl T k).length d ∧ Hid (OwnL wr w.heap.size g d (vl T k) ∧ Below w.heap.size w wr)) (fun _ i _ => m - (intOf i).toNat)
  case atStart => exact ⟨0, _, _, Nat.zero_le _, rfl, rfl, hidden ⟨HO.out, alloc_below _ _⟩⟩
  case round =>
    clear HO
    obtain ⟨k, g, d, hk, rfl, rfl, HI⟩ := hrel
    by_cases hlt : k < m
    · have c1 := (H.out.keep HI.out.2).cell k hlt
      have hln := vl_length T k
      by_cases hx : T k < 0
      · have h12 := HV.out k hlt hx
        have HE := hidden (show vl T (k + 1) = vput (vl T k) (-1 - T k) by simp only [vl, if_pos hx])
        have PC := hidden (l1Put_any g 0 d (vl T k) (-1 - T k) wr HI.out.1.ownI.ints (by omega))
        generalize T k = x at *
        generalize vl T k = l at *
        go_wp2_with fail
        with_reducible refine PC.out.mono ?_
        rintro e w1 ⟨g2, d2, rfl, ho, hb⟩
        have H2 := hidden (show OwnL w1 w.heap.size g2 d2 (vput l (-1 - x)) ∧ Below w.heap.size w w1 from by
          have hsz := HI.out.2.size
          refine ⟨⟨Nat.le_trans hsz ho.base, ho.own.1, ho.own.2.imp id ?_⟩, keepB HI.out.2 hb⟩
          rintro ⟨g', cap, cur, h1, h2, h3, h4⟩
          exact ⟨g', cap, cur, h1, Nat.le_trans hsz h2, h3, h4⟩)
        clear ho hb c1 PC HI
        rw [← HE.out] at H2 ⊢
        go_wp2
        go_roundw
        case rel => exact ⟨k + 1, g2, d2, by omega, by go_num, rfl, H2⟩
        case measure => simp [intOf]; omega
      · have HE := hidden (show vl T (k + 1) = vl T k by simp only [vl, if_neg hx])
        have hx' : decide (T k < 0) = false := by simpa using hx
        generalize T k = x at *
        clear hx
        rw [← HE.out] at HI ⊢
        go_wp2
        go_roundw
        case rel => exact ⟨k + 1, g, d, by omega, by go_num, rfl, HI⟩
        case measure => simp [intOf]; omega
    · obtain rfl : k = m := by omega
      go_wp2
      go_ret
      exact ⟨g, d, rfl, HI.out.1, HI.out.2⟩

end Go.Proofs.Ythgoclbgepfjmaa
