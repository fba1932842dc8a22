/- Contracts: the variables of a term: VarsOf, as the model and as the program tells them. -/
import Derived.Test.YtjahldlcbgdllaaVarsI
namespace Go.Proofs.Ytjahldlcbgdllaa
open Go.RowKit

theorem Nods.var {n m : Nat} {A T : Nat → Int} (h : Nods n A m T) : ∀ i, i < m → T i < 0 → -12 ≤ T i := fun i hi hx => by
  rcases nodeB_cases (h.node i hi) with ⟨j, e, _⟩ | hv <;> omega

theorem OwnL.res {w : World} {B B' g d : Nat} {l : List Int} (h : OwnL w B g d l) (hB : B' ≤ g) (a a' : Addr) (u u' : Value) (h1 : g ≠ a.block) (h2 : g ≠ a'.block) : OwnI ((w.setCell a u).setCell a' u') B' g l.length d (fun i => l.getD i 0) l.length :=
  ((h.ownI.other a u h1).other a' u' h2).base hB

set_option maxRecDepth 20000 in
set_option maxHeartbeats 1600000 in
theorem specVars_any (b off n c b' off' m c' : Nat) (N : Nat → ByteArray) (A T : Nat → Int) (w : World) (h : Syms w b off n N A) (h' : Ints w b' off' m T) (hk : Kept n N A) (hm : m ≤ 1048576) :
    Calls Try.prog 35 #[.agg #[.slice (some ⟨b, off, none⟩) n c], .slice (some ⟨b', off', none⟩) m c'] w fun e w' => ListAns w (termF n N A m T) (vl T m).length (fun i => (vl T m).getD i 0) e w' ∧ Below w.heap.size w w' := by
  have D := hidden ((One.new w (.slice (some ⟨b, off, none⟩) n c) 30).keep (alloc_below _ (.cells #[.int .i64 0, .slice none 0 0] 53)))
  have R := hidden (Res.new (w.alloc (.cells #[.slice (some ⟨b, off, none⟩) n c] 30)) (.int .i64 0) (.slice none 0 0) 53)
  have B := hidden (keepB (alloc_below w (.cells #[.slice (some ⟨b, off, none⟩) n c] 30)) (alloc_below _ (.cells #[.int .i64 0, .slice none 0 0] 53)))
  have Q := hidden (h.keep B.out)
  have I := hidden (h'.keep B.out)
  have HK := hidden hk
  rw [World.size_alloc] at R
  clear h h' hk
  go_enter Try.func35, Try.ntmps35
  go_wp2_with fail
  with_reducible refine (specTerm_any _ _ _ _ _ _ _ _ N A T _ Q.out I.out HK.out hm).mono ?_
  rintro e w1 ⟨rfl, hb⟩
  replace R := hidden (R.out.keep hb)
  replace B := hidden (keepB B.out hb)
  replace I := hidden (I.out.keep hb)
  clear hb Q D
  by_cases hf : termF n N A m T = 0
  · have HF := hidden hf
    rw [hf]
    clear hf
    go_wp2_with fail
    with_reducible refine (l3Vars_any _ _ _ _ T _ I.out (term_right HF.out).nods.most (term_right HF.out).nods.var).mono ?_
    rintro e w2 ⟨g, d, rfl, ho, hb⟩
    have O := hidden ho
    have hgb := ho.base
    have hR := R.out.blk
    have hBs := B.out.size
    replace R := hidden (R.out.keep hb)
    replace B := hidden (keepB B.out hb)
    clear hb I ho
    obtain ⟨_, q0, q1, f0, f1⟩ := id R.out
    have HA := hidden (show ∀ (w' : World), OwnI w' w.heap.size g (vl T m).length d (fun i => (vl T m).getD i 0) (vl T m).length → ListAns w (termF n N A m T) (vl T m).length (fun i => (vl T m).getD i 0) (.returned (.agg #[.int .i64 0, .slice (some ⟨g, 0, none⟩) (vl T m).length d])) w' from fun w' h => Or.inr ⟨HF.out, g, d, rfl, by omega, h⟩)
    have OR := hidden (fun a a' u u' => O.out.res (B' := w.heap.size) (by omega) a a' u u')
    clear O
    generalize hkk : (vl T m).length = k at *
    have HKE := hidden hkk
    clear hkk
    go_wp2
    exact bodyPost_ret (v := .agg #[.int .i64 0, .slice (some ⟨g, 0, none⟩) k d]) (by simp [results, Try.results35, go_sem, q0, q1]) rfl ⟨by rw [HKE.out]; exact HA.out _ (OR.out _ _ _ _ (by simp; omega) (by simp; omega)), (B.out.setCell (by simp) _).setCell (by simp) _⟩
  · have HN := hidden hf
    have hf' : (termF n N A m T != 0) = true := by simpa using hf
    generalize hz : termF n N A m T = z at *
    have HZ := hidden hz
    clear hf hz
    obtain ⟨_, q0, q1, f0, f1⟩ := id R.out
    go_wp2
    exact bodyPost_ret (v := .agg #[.int .i64 z, .slice none 0 0]) (by simp [results, Try.results35, go_sem, q0, q1]) rfl ⟨Or.inl ⟨by rw [HZ.out]; exact HN.out, by rw [HZ.out]⟩, (B.out.setCell (by simp) _).setCell (by simp) _⟩

/-- What VarsOf answers: as ListAns, but no list where there is no variable. -/
def VarsAns (w : World) (C : Int) (l : List Int) (e : Ending) (w' : World) : Prop :=
  (C ≠ 0 ∧ e = .returned (.agg #[.int .i64 C, .slice none 0 0])) ∨ (C = 0 ∧ l = [] ∧ e = .returned (.agg #[.int .i64 0, .slice none 0 0])) ∨
  (C = 0 ∧ l ≠ [] ∧ ∃ g d, e = .returned (.agg #[.int .i64 0, .slice (some ⟨g, 0, none⟩) l.length d]) ∧ w.heap.size ≤ g ∧ OwnI w' w.heap.size g l.length d (fun i => l.getD i 0) l.length)

set_option maxRecDepth 20000 in
set_option maxHeartbeats 1600000 in
theorem implVars_any (b off n c b' off' m c' : Nat) (N : Nat → ByteArray) (A T : Nat → Int) (w : World) (h : Syms w b off n N A) (h' : Ints w b' off' m T) (hk : Kept n N A) (hm : m ≤ 1048576) :
    Calls Try.prog 36 #[.agg #[.slice (some ⟨b, off, none⟩) n c], .slice (some ⟨b', off', none⟩) m c'] w fun e w' => VarsAns w (termF n N A m T) (vl T m) e w' ∧ Below w.heap.size w w' := by
  have D := hidden ((One.new w (.slice (some ⟨b, off, none⟩) n c) 30).keep (alloc_below _ (.cells #[.int .i64 0, .slice none 0 0] 53)))
  have R := hidden (Res.new (w.alloc (.cells #[.slice (some ⟨b, off, none⟩) n c] 30)) (.int .i64 0) (.slice none 0 0) 53)
  have B := hidden (keepB (alloc_below w (.cells #[.slice (some ⟨b, off, none⟩) n c] 30)) (alloc_below _ (.cells #[.int .i64 0, .slice none 0 0] 53)))
  have Q := hidden (h.keep B.out)
  have I := hidden (h'.keep B.out)
  have HK := hidden hk
  rw [World.size_alloc] at R
  clear h h' hk
  go_enter Try.func36, Try.ntmps36
  go_wp2_with fail
  with_reducible refine (implTerm_any _ _ _ _ _ _ _ _ N A T _ Q.out I.out HK.out hm).mono ?_
  rintro e w1 ⟨rfl, hb⟩
  replace R := hidden (R.out.keep hb)
  replace B := hidden (keepB B.out hb)
  replace I := hidden (I.out.keep hb)
  clear hb Q D
  by_cases hf : termF n N A m T = 0
  · have HF := hidden hf
    have HV := hidden (vl_flt m (term_right hf).nods.var)
    rw [hf]
    clear hf
    go_wp2_with fail
    with_reducible refine (variablesIn_any _ _ n _ _ A T _ I.out (term_right HF.out).nods).mono ?_
    rw [← HV.out]
    rintro e w2 ⟨ha, hb⟩
    have hR := R.out.blk
    have hBs := B.out.size
    replace R := hidden (R.out.keep hb)
    replace B := hidden (keepB B.out hb)
    clear hb I
    obtain ⟨_, q0, q1, f0, f1⟩ := id R.out
    rcases ha with ⟨hl, rfl⟩ | ⟨hl, g, d, rfl, ho⟩
    · have HL := hidden hl
      clear hl
      go_wp2
      exact bodyPost_ret (v := .agg #[.int .i64 0, .slice none 0 0]) (by simp [results, Try.results36, go_sem, q0, q1]) rfl ⟨Or.inr (Or.inl ⟨HF.out, HL.out, rfl⟩), (B.out.setCell (by simp) _).setCell (by simp) _⟩
    · have O := hidden ho
      have hgb := ho.base
      have HL := hidden hl
      have HA := hidden (show ∀ (w' : World), OwnI w' w.heap.size g (vl T m).length d (fun i => (vl T m).getD i 0) (vl T m).length → VarsAns w (termF n N A m T) (vl T m) (.returned (.agg #[.int .i64 0, .slice (some ⟨g, 0, none⟩) (vl T m).length d])) w' from fun w' h => Or.inr (Or.inr ⟨HF.out, HL.out, g, d, rfl, by omega, h⟩))
      have OR := hidden (fun a a' u u' => O.out.res (B' := w.heap.size) (by omega) a a' u u')
      clear O ho hl HV
      generalize (vl T m).length = k at *
      go_wp2
      exact bodyPost_ret (v := .agg #[.int .i64 0, .slice (some ⟨g, 0, none⟩) k d]) (by simp [results, Try.results36, go_sem, q0, q1]) rfl ⟨HA.out _ (OR.out _ _ _ _ (by simp; omega) (by simp; omega)), (B.out.setCell (by simp) _).setCell (by simp) _⟩
  · have HN := hidden hf
    have hf' : (termF n N A m T != 0) = true := by simpa using hf
    generalize hz : termF n N A m T = z at *
    have HZ := hidden hz
    clear hf hz
    obtain ⟨_, q0, q1, f0, f1⟩ := id R.out
    go_wp2
    exact bodyPost_ret (v := .agg #[.int .i64 z, .slice none 0 0]) (by simp [results, Try.results36, go_sem, q0, q1]) rfl ⟨Or.inl ⟨by rw [HZ.out]; exact HN.out, by rw [HZ.out]⟩, (B.out.setCell (by simp) _).setCell (by simp) _⟩

set_option maxHeartbeats 400000 in
theorem eqInt64S_mixed (g d : Nat) (w : World) :
    Calls Try.prog 18 #[.slice none 0 0, .slice (some ⟨g, 0, none⟩) 0 d] w fun e w' => e = .returned (.bool true) ∧ w' = w := by
  go_enter Try.func18, Try.ntmps18
  go_wp2
  refine wp_loop_rounds 1 ?_
  rw [rounds_succ]
  go_wp2
  go_ret
  exact ⟨rfl, rfl⟩

set_option maxHeartbeats 800000 in
theorem eqInts_mixed (z : Int) (g d : Nat) (w : World) :
    Calls Try.prog 37 #[.agg #[.int .i64 z, .slice none 0 0], .agg #[.int .i64 z, .slice (some ⟨g, 0, none⟩) 0 d]] w fun e w' => e = .returned (.bool true) ∧ Below w.heap.size w w' := by
  go_enter Try.func37, Try.ntmps37
  go_wp2_with fail
  refine (eqInt64S_mixed _ _ _).mono ?_
  rintro e w' ⟨rfl, rfl⟩
  go_wp2
  go_ret
  exact ⟨rfl, keepB (alloc_below w _) (alloc_below _ _)⟩

end Go.Proofs.Ytjahldlcbgdllaa
