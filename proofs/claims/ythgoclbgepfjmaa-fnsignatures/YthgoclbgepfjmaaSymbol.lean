/- Contracts: the number of a symbol, as the model and as the program tells it. -/
import Derived.Test.YthgoclbgepfjmaaArity
namespace Go.Proofs.Ythgoclbgepfjmaa
open Go.RowKit Go.Maps

def named (n : Nat) (N : Nat → ByteArray) (s : ByteArray) : Prop := ∃ i, i < n ∧ N i = s

open Classical in
/-- The first symbol with that name, or -1. -/
noncomputable def findF (n : Nat) (N : Nat → ByteArray) (s : ByteArray) : Int := if h : ∃ i : Nat, i < n ∧ N i = s ∧ ∀ j, j < i → N j ≠ s then (h.choose : Int) else -1

theorem findF_at {n : Nat} {N : Nat → ByteArray} {s : ByteArray} {i : Nat} (hi : i < n) (e : N i = s) (hj : ∀ j, j < i → N j ≠ s) : findF n N s = i := by
  have h : ∃ i : Nat, i < n ∧ N i = s ∧ ∀ j, j < i → N j ≠ s := ⟨i, hi, e, hj⟩
  rw [findF, dif_pos h]
  obtain ⟨_, h2, h3⟩ := h.choose_spec
  congr 1
  apply Nat.le_antisymm
  · exact Nat.le_of_not_lt fun hlt => h3 i hlt e
  · exact Nat.le_of_not_lt fun hlt => hj _ hlt h2

theorem findF_none {n : Nat} {N : Nat → ByteArray} {s : ByteArray} (h : ∀ j, j < n → N j ≠ s) : findF n N s = -1 := by
  rw [findF, dif_neg]
  rintro ⟨i, hi, e, _⟩
  exact h i hi e

theorem ok_nodup {n : Nat} {N : Nat → ByteArray} {A : Nat → Int} (h : faultF n N A = 0) : ¬ dup n N := by
  intro hd
  unfold faultF at h
  by_cases hn : n < 1 ∨ 6 < n
  · rw [if_pos hn] at h; omega
  · rw [if_neg hn] at h
    by_cases hb : fb N A n = 0
    · rw [if_pos hb, if_pos hd] at h; omega
    · rw [if_neg hb] at h; exact hb h

/-- What SymbolOf answers: code and value. -/
noncomputable def syC (n : Nat) (N : Nat → ByteArray) (A : Nat → Int) (s : ByteArray) : Int := if faultF n N A = 0 then (if findF n N s < 0 then 4 else 0) else faultF n N A
noncomputable def syV (n : Nat) (N : Nat → ByteArray) (A : Nat → Int) (s : ByteArray) : Int := if faultF n N A = 0 then (if findF n N s < 0 then 0 else findF n N s) else 0

theorem sy_fault {n : Nat} {N : Nat → ByteArray} {A : Nat → Int} {s : ByteArray} (h : faultF n N A ≠ 0) : syC n N A s = faultF n N A ∧ syV n N A s = 0 := by simp [syC, syV, h]
theorem sy_none {n : Nat} {N : Nat → ByteArray} {A : Nat → Int} {s : ByteArray} (h : faultF n N A = 0) (hx : findF n N s < 0) : syC n N A s = 4 ∧ syV n N A s = 0 := by simp [syC, syV, h, hx]
theorem sy_ok {n : Nat} {N : Nat → ByteArray} {A : Nat → Int} {s : ByteArray} (h : faultF n N A = 0) (hx : ¬ findF n N s < 0) : syC n N A s = 0 ∧ syV n N A s = findF n N s := by simp only [syC, syV, if_pos h, if_neg hx]; simp

theorem lit_inj {i z : Int} (h : (DataW.lit (.int .i64 i) : DataW Unit) = .lit (.int .i64 z)) : z = i := by cases h; rfl

/-- The map of names tells the same. -/
theorem find_map {n : Nat} {N : Nat → ByteArray} {A : Nat → Int} {s : ByteArray} (h : faultF n N A = 0) :
    (findF n N s < 0 ∧ Maps.has (mapTo N n) (keyL s) = false) ∨ (∃ i : Nat, findF n N s = i ∧ Maps.has (mapTo N n) (keyL s) = true ∧ ∀ z, (mapTo N n).atKey (keyL s) z = .lit (.int .i64 (i : Int))) := by
  have hd := ok_nodup h
  by_cases hx : ∃ i, i < n ∧ N i = s
  · obtain ⟨i, hi, rfl⟩ := hx
    refine Or.inr ⟨i, findF_at hi rfl (fun j hj e => hd ⟨i, hi, j, hj, e.symm⟩), (mapTo_has N _ n).2 ⟨i, hi, rfl⟩, fun z => mapTo_at N z n hd hi⟩
  · refine Or.inl ⟨?_, ?_⟩
    · rw [findF_none (fun j hj e => hx ⟨j, hj, e⟩)]; omega
    · cases hh : Maps.has (mapTo N n) (keyL s)
      · rfl
      · exact absurd ((mapTo_has N s n).1 hh) hx

set_option maxRecDepth 20000 in
set_option maxHeartbeats 1600000 in
theorem implSymbol_any (b off n c : Nat) (N : Nat → ByteArray) (A : Nat → Int) (x : ByteArray) (w : World) (h : Syms w b off n N A) (hk : Kept n N A) (hx : x.size ≤ maxLen) :
    Calls Try.prog 16 #[.agg #[.slice (some ⟨b, off, none⟩) n c], .string x] w fun e w' => e = .returned (.agg #[.int .i64 (syC n N A x), .int .i64 (syV n N A x)]) ∧ Below w.heap.size w w' := by
  have D := hidden ((One.new w (.slice (some ⟨b, off, none⟩) n c) 26).keep (alloc_below _ (.cells #[.int .i64 0, .int .i64 0] 38)))
  have R := hidden (Res.new (w.alloc (.cells #[.slice (some ⟨b, off, none⟩) n c] 26)) (.int .i64 0) (.int .i64 0) 38)
  have B := hidden (keepB (alloc_below w (.cells #[.slice (some ⟨b, off, none⟩) n c] 26)) (alloc_below _ (.cells #[.int .i64 0, .int .i64 0] 38)))
  have Q := hidden (h.keep B.out)
  have HK := hidden hk
  have HKey := hidden (show keyOf Try.prog 9 (.string x) = some (keyL x) from WideMaps.keyOf_string_mk Try.underlying9 hx)
  rw [World.size_alloc] at R
  clear h hk hx
  go_enter Try.func16, Try.ntmps16
  go_wp2_with fail
  refine (implFault_all _ _ _ _ N A _ Q.out HK.out).mono ?_
  rintro e w1 ⟨rfl, hb⟩
  replace D := hidden (D.out.keep hb)
  replace R := hidden (R.out.keep hb)
  replace B := hidden (keepB B.out hb)
  replace Q := hidden (Q.out.keep hb)
  clear hb
  by_cases hf : faultF n N A = 0
  · have HF := hidden hf
    rw [hf]
    clear hf
    have d0 := D.out.c0
    go_wp2_with fail
    refine (byName_any b off n c N A _ Q.out HK.out).mono ?_
    rintro e w2 ⟨M, rfl, hM, hown, hb⟩
    replace R := hidden (R.out.keep hb)
    replace B := hidden (keepB B.out hb)
    have HO := hidden hown
    clear hb D Q d0 hown
    obtain ⟨_, q0, q1, f0, f1⟩ := id R.out
    obtain ⟨v, ps, hrun, hv⟩ := HO.out.look_ok law9 Try.underlying77 (zero2 _) (plainElem_int Try.underlying2 (a := 0) (by decide)) HKey.out
    obtain ⟨z, rfl, hz, -⟩ := plainElem_int_inv Try.underlying2 hv
    have hz1 : (mapTo N n).atKey (keyL x) (.lit (.int .i64 0)) = .lit (.int .i64 z) := congrArg Prod.fst hz
    clear hz hv HO HKey
    rcases find_map (s := x) HF.out with ⟨hx, hh⟩ | ⟨i, hx, hh, ha⟩
    · have HA := hidden (sy_none HF.out hx)
      rw [hh] at hrun
      clear hz1 hx hh
      go_wp2
      exact bodyPost_ret (v := .agg #[.int .i64 4, .int .i64 0]) (by simp [results, Try.results16, go_sem, q0, q1]) rfl ⟨by rw [HA.out.1, HA.out.2], (B.out.setCell (by simp) _).setCell (by simp) _⟩
    · have HA := hidden (sy_ok (s := x) HF.out (by omega))
      rw [ha] at hz1
      have e : z = i := lit_inj hz1
      rw [hh] at hrun
      have HX := hidden (e.trans hx.symm)
      clear hz1 ha hh e hx
      go_wp2
      exact bodyPost_ret (v := .agg #[.int .i64 0, .int .i64 z]) (by simp [results, Try.results16, go_sem, q0, q1]) rfl ⟨by rw [HA.out.1, HA.out.2, HX.out], (B.out.setCell (by simp) _).setCell (by simp) _⟩
  · have HA := hidden (sy_fault (s := x) hf)
    have hf' : (faultF n N A != 0) = true := by simpa using hf
    obtain ⟨_, q0, q1, f0, f1⟩ := id R.out
    generalize faultF n N A = z at *
    clear hf
    go_wp2
    exact bodyPost_ret (v := .agg #[.int .i64 z, .int .i64 0]) (by simp [results, Try.results16, go_sem, q0, q1]) rfl ⟨by rw [HA.out.1, HA.out.2], (B.out.setCell (by simp) _).setCell (by simp) _⟩

end Go.Proofs.Ythgoclbgepfjmaa
