/- Contracts: the map of names that the program makes, and what it tells. -/
import Derived.Test.YtbdgnpjbmlcchaaFault
import Derived.Maps.OwnSet
namespace Go.Proofs.Ytbdgnpjbmlcchaa
open Go.RowKit Go.Maps

def keyL (s : ByteArray) : Lit := .string s.data.toList

/-- The map behind the first k symbols. -/
def mapTo (N : Nat → ByteArray) : Nat → DataW Unit
  | 0 => .map []
  | k + 1 => (mapTo N k).put (keyL (N k)) (.lit (.int .i64 (k : Int)))

theorem keyL_inj {a b : ByteArray} (h : keyL a = keyL b) : a = b := by
  simp [keyL] at h
  obtain ⟨⟨x⟩⟩ := a
  obtain ⟨⟨y⟩⟩ := b
  simp at h
  rw [h]

theorem keyL_key (a : ByteArray) : WideAt.IsKeyLit (keyL a) := by simp [keyL, WideAt.IsKeyLit]

theorem mapTo_tidy (N : Nat → ByteArray) : ∀ k, Tidy (mapTo N k)
  | 0 => tidy_empty
  | k + 1 => (mapTo_tidy N k).put (keyL_key _) _

theorem mapTo_has (N : Nat → ByteArray) (s : ByteArray) : ∀ k, Maps.has (mapTo N k) (keyL s) = true ↔ ∃ i, i < k ∧ N i = s
  | 0 => by simp [mapTo, Maps.has]
  | k + 1 => by
    by_cases e : s = N k
    · subst e
      simp only [mapTo, has_put_same (mapTo_tidy N k).isMap (keyL_key _), true_iff]
      exact ⟨k, by omega, rfl⟩
    · rw [mapTo, has_put_other (fun h => e (keyL_inj h)), mapTo_has N s k]
      constructor
      · rintro ⟨i, hi, h⟩; exact ⟨i, by omega, h⟩
      · rintro ⟨i, hi, h⟩
        refine ⟨i, ?_, h⟩
        by_cases ei : i = k
        · subst ei; exact absurd h.symm e
        · omega

theorem mapTo_size (N : Nat → ByteArray) : ∀ k, Maps.size (mapTo N k) ≤ k ∧ (Maps.size (mapTo N k) = k ↔ ¬ dup k N)
  | 0 => by
    refine ⟨by simp [mapTo, Maps.size], ?_⟩
    simp only [mapTo, Maps.size, List.length_nil, true_iff]
    rintro ⟨i, hi, _⟩; omega
  | k + 1 => by
    obtain ⟨h1, h2⟩ := mapTo_size N k
    rw [mapTo, size_put (mapTo_tidy N k)]
    by_cases hh : Maps.has (mapTo N k) (keyL (N k)) = true
    · rw [if_pos hh]
      refine ⟨by omega, ⟨fun h => by omega, fun h => ?_⟩⟩
      obtain ⟨i, hi, e⟩ := (mapTo_has N (N k) k).1 hh
      exact absurd ⟨k, by omega, i, hi, e.symm⟩ h
    · rw [if_neg hh]
      refine ⟨by omega, ⟨fun h hd => ?_, fun h => ?_⟩⟩
      · obtain ⟨i, hi, j, hj, e⟩ := hd
        by_cases ei : i = k
        · subst ei; exact hh ((mapTo_has N (N i) i).2 ⟨j, hj, e.symm⟩)
        · exact h2.1 (by omega) ⟨i, by omega, j, hj, e⟩
      · have := h2.2 (fun ⟨i, hi, j, hj, e⟩ => h ⟨i, by omega, j, hj, e⟩)
        omega

theorem mapTo_at (N : Nat → ByteArray) {i : Nat} (z : DataW Unit) : ∀ k, ¬ dup k N → i < k → (mapTo N k).atKey (keyL (N i)) z = .lit (.int .i64 (i : Int))
  | 0, _, h => by omega
  | k + 1, hd, h => by
    by_cases e : i = k
    · subst e; rw [mapTo, atKey_put_same (mapTo_tidy N i).isMap (keyL_key _)]
    · rw [mapTo, atKey_put_other (fun h' => hd ⟨k, by omega, i, by omega, (keyL_inj h').symm⟩)]
      exact mapTo_at N z k (fun ⟨i, hi, j, hj, e⟩ => hd ⟨i, by omega, j, hj, e⟩) (by omega)

theorem law9 : Keyed Try.prog 9 := string_keyed Try.underlying9
theorem zero2 (w : World) : (zeroValue 2).run Try.prog w = .ok (.int .i64 0) w := by kernel_rfl

theorem makeMap75 (k : Int) (w : World) : (Instr.makeMap 117 (some (.int .i64 k))).run Try.prog w = .ok (.map (some w.heap.size)) (w.alloc (.map #[] 0)) := by
  simp [Instr.makeMap, run_underlying Try.underlying117, asInt, asIntOf, Result.andThen]

theorem One.grown {w w' : World} {b g : Nat} {v : Value} (h : One w b v) (hg : w.grownBy w' (some g)) (hne : b ≠ g) : One w' b v :=
  ⟨Nat.lt_of_lt_of_le h.blk hg.size, hg.cell h.c0 (by simpa using hne)⟩

set_option maxRecDepth 20000 in
set_option maxHeartbeats 800000 in
theorem byName_any (b off n c : Nat) (N : Nat → ByteArray) (A : Nat → Int) (w : World) (h : Syms w b off n N A) (hk : Kept n N A) :
    Calls Try.prog 80 #[.agg #[.slice (some ⟨b, off, none⟩) n c]] w fun e w' => ∃ M, e = .returned (.map (some M)) ∧ w.heap.size ≤ M ∧ w'.ownsMap Try.prog 9 (plainElem (H := Unit) Try.prog 2) M n (mapTo N n) ∧ Below w.heap.size w w' := by
  have hmm := makeMap75
  have hm := hk.most
  go_enter Try.func80, Try.ntmps80
  go_wp2
  clear hmm
  go_loopw [13] (fun i wr => ∃ k : Nat, k ≤ n ∧ i = .int .i64 k ∧ Hid (wr.ownsMap Try.prog 9 (plainElem (H := Unit) Try.prog 2) (w.heap.size + 1) k (mapTo N k) ∧ Below w.heap.size w wr)) (fun i _ => n - (intOf i).toNat)
  case atStart =>
    refine ⟨0, Nat.zero_le _, rfl, hidden ⟨?_, (alloc_below _ _).alloc (by simp) _⟩⟩
    have := World.ownsMap_made (w.alloc (.cells #[.slice (some ⟨b, off, none⟩) n c] 34)) Try.prog 9 (plainElem (H := Unit) Try.prog 2)
    rw [World.size_alloc] at this
    exact this
  case round =>
    obtain ⟨k, hk', rfl, HI⟩ := hrel
    by_cases hlt : k < n
    · have hs := h.later HI.out.2 h.blk
      have c1 := hs.name k hlt
      have c2 := hs.arity k hlt
      have HM := hidden (fun o => HI.out.1.alloc o)
      have HKey := hidden (show keyOf Try.prog 9 (.string (N k)) = some (keyL (N k)) from WideMaps.keyOf_string_mk Try.underlying9 (hk.big k hlt))
      have HB := hidden (fun o => HI.out.2.alloc HI.out.2.size o)
      clear hs HI
      go_wp2_with (first | (at_mapUpdate; refine wpList_mapUpdate_own _ rfl _ _ _ 117 rfl 9 2 law9 Try.underlying117 _ (w.heap.size + 1) k _ rfl (HM.out _) (by unfold maxLen; omega) _ _ _ rfl rfl HKey.out _ [] (plainElem_int Try.underlying2 (WalkArith.wf_i64 (by omega))) ?_) | go_in)
      intro w1 hown1 hgrow1
      have H1 := hidden hown1
      have B1 := hidden ((HB.out _).grown hgrow1 (by have := (HB.out (.cells #[.string (N k), .int .i64 (A k)] 70)).size; exact this) (fun j hj => by cases hj; omega))
      clear hown1 hgrow1 HM HB c1 c2
      go_wp2
      go_roundw
      case rel => exact ⟨k + 1, by omega, by go_num, hidden ⟨H1.out, B1.out⟩⟩
      case measure => simp [intOf]; omega
    · obtain rfl : n = k := by omega
      go_wp2
      go_ret
      exact ⟨_, rfl, by omega, HI.out.1, HI.out.2⟩

end Go.Proofs.Ytbdgnpjbmlcchaa
