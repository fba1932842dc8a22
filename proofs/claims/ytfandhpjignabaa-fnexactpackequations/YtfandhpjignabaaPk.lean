/- Contracts: a term as bytes: the model's l5Pack and PackTerm, the program's packNodes and PackTerm. -/
import Derived.Test.YtfandhpjignabaaTermF
import Derived.Test.YtfandhpjignabaaBytesRes
namespace Go.Proofs.Ytfandhpjignabaa
open Go.RowKit

/-- The byte of a node. -/
def bytN (x : Int) : Int := if x < 0 then 31 - x else x + 1
/-- The bytes of the first k nodes. -/
def packT (T : Nat → Int) : Nat → List Int
  | 0 => []
  | k + 1 => packT T k ++ [bytN (T k)]
def packV (T : Nat → Int) (k : Nat) : List Value := (packT T k).map (Value.int .u8)

theorem packT_len (T : Nat → Int) : ∀ k, (packT T k).length = k
  | 0 => rfl
  | k + 1 => by simp [packT, packT_len T k]
theorem packV_len (T : Nat → Int) (k : Nat) : (packV T k).length = k := by simp [packV, packT_len]
theorem packV_succ (T : Nat → Int) (k : Nat) : packV T (k + 1) = packV T k ++ [.int .u8 (bytN (T k))] := by simp [packV, packT]

theorem node_range {x : Int} {n : Nat} (hn : n ≤ 6) (h : nodeB x n = true) : -12 ≤ x ∧ x ≤ 5 := by
  rcases nodeB_cases h with ⟨j, e, hj⟩ | h
  · omega
  · omega
theorem bytN_range {x : Int} (h : -12 ≤ x ∧ x ≤ 5) : 1 ≤ bytN x ∧ bytN x ≤ 43 := by unfold bytN; split <;> omega

theorem packT_byt {T : Nat → Int} : ∀ m, (∀ i, i < m → -12 ≤ T i ∧ T i ≤ 5) → ∀ x ∈ packT T m, 0 ≤ x ∧ x ≤ 255
  | 0, _, x, hx => by simp [packT] at hx
  | m + 1, h, x, hx => by
    simp only [packT, List.mem_append, List.mem_singleton] at hx
    rcases hx with hx | rfl
    · exact packT_byt m (fun i hi => h i (by omega)) x hx
    · have := bytN_range (h m (by omega)); omega

theorem Nods.rng {n m : Nat} {A T : Nat → Int} (h : Nods n A m T) : ∀ i, i < m → -12 ≤ T i ∧ T i ≤ 5 := fun i hi => node_range h.few (h.node i hi)

theorem own_row {w w1 : World} {B : Nat} {v' : Value} {xs : List Value} {k : Nat} (h : w1.ownsRow B 5 1 v' k xs) (hnil : ¬ v' = .slice none 0 0) (hb : Below B w w1) : ∃ g d, v' = .slice (some ⟨g, 0, none⟩) k d ∧ B ≤ g ∧ OwnR w1 B g k d xs ∧ Below B w w1 := by
  rcases h.2 with ⟨hv, _⟩ | ⟨g, d, cur, hv, hg, _⟩
  · exact absurd hv hnil
  · subst hv; exact ⟨g, d, rfl, hg, h, hb⟩

set_option maxRecDepth 20000 in
set_option maxHeartbeats 1600000 in
theorem l5Pack_any (b off m c : Nat) (T : Nat → Int) (w : World) (h : Ints w b off m T) (hm : m ≤ 24) (hT : ∀ i, i < m → -12 ≤ T i ∧ T i ≤ 5) :
    Calls Try.prog 84 #[.slice (some ⟨b, off, none⟩) m c] w fun e w' => ∃ g d, e = .returned (.slice (some ⟨g, 0, none⟩) m d) ∧ w.heap.size ≤ g ∧ OwnR w' w.heap.size g m d (packV T m) ∧ Below w.heap.size w w' := by
  have HT := hidden hT
  have H := hidden h
  have HO := hidden (World.ownsRow_made (base := w.heap.size) (e := 5) (size := 1) w #[] 0 (Nat.le_refl _) (Nat.zero_le _) rfl)
  clear hT h
  go_enter Try.func84, Try.ntmps84
  go_wp2
  go_loopw [3, 4] (fun o i wr => ∃ k g d, k ≤ m ∧ i = .int .i64 (k : Nat) ∧ o = .slice (some ⟨g, 0, none⟩) k d ∧ Hid (w.heap.size ≤ g ∧ OwnR wr w.heap.size g k d (packV T k) ∧ Below w.heap.size w wr)) (fun _ i _ => m - (intOf i).toNat)
  case atStart => exact ⟨0, _, _, Nat.zero_le _, rfl, rfl, hidden ⟨Nat.le_refl _, HO.out, alloc_below _ _⟩⟩
  case round =>
    obtain ⟨k, g, d, hk, rfl, rfl, HI⟩ := hrel
    by_cases hlt : k < m
    · have c1 := (H.out.keep HI.out.2.2).cell k hlt
      have ht := HT.out k hlt
      have HST := hidden (packV_succ T k)
      have O1 := hidden HI.out.2.1
      have B1 := hidden HI.out.2.2
      have G1 := HI.out.1
      have W1 := hidden HI.out.2.2.size
      have HX := hidden (show bytN (T k) = if T k < 0 then 31 - T k else T k + 1 from rfl)
      clear HI
      generalize T k = x at *
      by_cases hx : x < 0
      · have HXX := hidden (show 31 - x = bytN x by rw [HX.out, if_pos hx])
        have a3 : IntKind.u8.wrap (31 - x) = 31 - x := by rw [IntKind.wrap_u8']; omega
        go_wp2_with (first | (at_builtin; refine wpList_append_own _ rfl _ _ 25 rfl w.heap.size 5 _ (.int .u8 0) 1 1 Try.underlying25 rfl rfl rfl rfl rfl (by decide) _ _ _ rfl (World.ownsRow.alloc O1.out _) ⟨wr.heap.size, 0, none⟩ 1 1 [.int .u8 (31 - x)] rfl rfl (one_src _ _ _) (oneVal _ rfl) (by unfold maxLen; omega) (by omega) (by have := W1.out; simp; omega) ?_) | go_in)
        intro v' w1 hown hgrow hnil
        obtain ⟨g2, d2, rfl, G2, O2, B2⟩ := own_row hown (by simpa using hnil) ((B1.out.alloc W1.out _).grown hgrow (by have := W1.out; simp; omega) (by intro q hq; simp [Value.ownBlock] at hq; omega))
        rw [HXX.out, ← HST.out] at O2
        have H4 := hidden (And.intro G2 (And.intro O2 B2))
        clear hown hgrow hnil c1 O1 B1 G1 W1 O2 B2 G2 HXX HX HST
        go_wp2
        exact ⟨⟨k + 1, g2, d2, by omega, by go_num, rfl, H4⟩, by simp [intOf]; omega⟩
      · have HXX := hidden (show x + 1 = bytN x by rw [HX.out, if_neg hx])
        have a3 : IntKind.u8.wrap (x + 1) = x + 1 := by rw [IntKind.wrap_u8']; omega
        go_wp2_with (first | (at_builtin; refine wpList_append_own _ rfl _ _ 25 rfl w.heap.size 5 _ (.int .u8 0) 1 1 Try.underlying25 rfl rfl rfl rfl rfl (by decide) _ _ _ rfl (World.ownsRow.alloc O1.out _) ⟨wr.heap.size, 0, none⟩ 1 1 [.int .u8 (x + 1)] rfl rfl (one_src _ _ _) (oneVal _ rfl) (by unfold maxLen; omega) (by omega) (by have := W1.out; simp; omega) ?_) | go_in)
        intro v' w1 hown hgrow hnil
        obtain ⟨g2, d2, rfl, G2, O2, B2⟩ := own_row hown (by simpa using hnil) ((B1.out.alloc W1.out _).grown hgrow (by have := W1.out; simp; omega) (by intro q hq; simp [Value.ownBlock] at hq; omega))
        rw [HXX.out, ← HST.out] at O2
        have H4 := hidden (And.intro G2 (And.intro O2 B2))
        clear hown hgrow hnil c1 O1 B1 G1 W1 O2 B2 G2 HXX HX HST
        go_wp2
        exact ⟨⟨k + 1, g2, d2, by omega, by go_num, rfl, H4⟩, by simp [intOf]; omega⟩
    · obtain rfl : m = k := by omega
      go_wp2
      go_ret
      exact ⟨g, d, rfl, HI.out.1, HI.out.2.1, HI.out.2.2⟩

set_option maxRecDepth 20000 in
set_option maxHeartbeats 400000 in
theorem variableOfB_any (x : Int) (w : World) (h : -9223372036854775808 ≤ -1 - x ∧ -1 - x ≤ 9223372036854775807) :
    Calls Try.prog 104 #[.int .i64 x] w fun e w' => e = .returned (.int .i64 (-1 - x)) ∧ Below w.heap.size w w' := by
  go_enter Try.func104, Try.ntmps104
  go_wp2
  go_ret
  exact ⟨rfl, Below.refl _ _⟩

set_option maxRecDepth 20000 in
set_option maxHeartbeats 400000 in
theorem byteOf_any (x : Int) (w : World) (h : -12 ≤ x ∧ x ≤ 5) :
    Calls Try.prog 87 #[.int .i64 x] w fun e w' => e = .returned (.int .u8 (bytN x)) ∧ Below w.heap.size w w' := by
  go_enter Try.func87, Try.ntmps87
  go_wp2_with fail
  with_reducible refine (isVariable_any _ _).mono ?_
  rintro e w1 ⟨rfl, hb⟩
  have B := hidden hb
  clear hb
  by_cases hx : x < 0
  · have hv : varB x = true := by simp [varB]; omega
    rw [hv]
    clear hv
    have HX := hidden (show bytN x = 32 + (-1 - x) by unfold bytN; rw [if_pos hx]; omega)
    go_wp2_with fail
    with_reducible refine (variableOfB_any _ _ (by omega)).mono ?_
    rintro e w2 ⟨rfl, hb⟩
    have B2 := hidden (keepB B.out hb)
    clear hb
    have a3 : IntKind.u8.wrap (32 + (-1 - x)) = 32 + (-1 - x) := by rw [IntKind.wrap_u8']; omega
    go_wp2
    go_ret
    exact ⟨by rw [HX.out]; rfl, B2.out⟩
  · have hv : varB x = false := by simp [varB]; omega
    rw [hv]
    clear hv
    have HX := hidden (show bytN x = 1 + x by unfold bytN; rw [if_neg hx]; omega)
    have a3 : IntKind.u8.wrap (1 + x) = 1 + x := by rw [IntKind.wrap_u8']; omega
    go_wp2
    go_ret
    exact ⟨by rw [HX.out]; rfl, B.out⟩

end Go.Proofs.Ytfandhpjignabaa
