/- Contracts: the text of a term, as the model tells it. -/
import Derived.Test.YtkaoafdemckagaaTxt
import Derived.Laws.BytesArg
import Derived.Deep.RegionHeld3
namespace Go.Proofs.Ytkaoafdemckagaa
open Go.RowKit

theorem byte_str (W : World) (x : Int) : (convert 87 9 (.slice (some ⟨W.heap.size, 0, none⟩) 1 1)).run Try.prog (W.alloc (.cells #[.int .u8 x] 5)) = .ok (.string (bs [UInt8.ofNat x.toNat])) (W.alloc (.cells #[.int .u8 x] 5)) := by
  refine run_convert_bytes_arg (P := Try.prog) _ 87 5 Try.underlying87 Try.underlying5 W.heap.size 0 1 1 [x] rfl ?_ 9 Try.underlying9
  intro i hi
  obtain rfl : i = 0 := by omega
  simp [go_sem]

set_option maxRecDepth 20000 in
set_option maxHeartbeats 800000 in
theorem l4Text_var (B b' off' m c' p : Nat) (N : Nat → ByteArray) (A T : Nat → Int) (w : World) (hp : p < m) (h' : Ints w b' off' m T) (hx : -12 ≤ T p ∧ T p ≤ -1) :
    Calls Try.prog 37 #[.pointer (some ⟨B, 0, none⟩), .slice (some ⟨b', off', none⟩) m c', .int .i64 p] w fun e w' => e = .returned (.string (bs (txt N A T m p))) ∧ Below w.heap.size w w' := by
  have HR := hidden (txt_var (N := N) (A := A) hp (show T p < 0 by omega))
  have c1 := h'.cell p hp
  generalize T p = x at *
  have k1 := byte_str w (64 - x)
  go_enter Try.func37, Try.ntmps37
  go_wp2
  go_ret
  exact ⟨by rw [HR.out]; rfl, alloc_below _ _⟩

/-- What stands ahead of the k-th argument's end. -/
def preT (nm : List UInt8) (t : Nat → List UInt8) : Nat → List UInt8
  | 0 => nm ++ [40]
  | k + 1 => (if k = 0 then preT nm t k else preT nm t k ++ [44]) ++ t k

theorem txt_pre {N : Nat → ByteArray} {A T : Nat → Int} {m p j ar en : Nat} (hp : p < m) (h : T p = j) (ha : aOf A T p = ar) (h1 : ar ≠ 0) (h2 : ar ≤ 2) (hs : skip (aOf A T) m (p + 1) ar = some en) :
    txt N A T m p = preT (N j).data.toList (fun k => txt N A T m (argP (aOf A T) m p k)) ar ++ [41] := by
  obtain ⟨r, _, e1, _, _⟩ := skip_arg hs (i := 0) (by omega)
  match ar, h1, h2 with
  | 1, _, _ => rw [txt_one hp h ha e1]; simp [preT, argP_some e1]
  | 2, _, _ =>
    obtain ⟨r2, _, e2, _, _⟩ := skip_arg hs (i := 1) (by omega)
    rw [txt_two hp h ha e1 e2]; simp [preT, argP_some e1, argP_some e2]

theorem preT_le {nm : List UInt8} {t : Nat → List UInt8} {M : Nat} (h0 : nm.length ≤ 4) (ht : ∀ k, (t k).length ≤ M) : ∀ k, (preT nm t k).length ≤ 5 + k * (M + 1)
  | 0 => by simp [preT]; omega
  | k + 1 => by
    have h1 := preT_le h0 ht k
    have h2 := ht k
    rw [preT, Nat.add_mul]
    split <;> simp only [List.length_append, List.length_cons, List.length_nil] <;> omega

set_option maxRecDepth 20000 in
set_option maxHeartbeats 1600000 in
theorem l4Text_any (B b off n c b' off' m c' : Nat) (N : Nat → ByteArray) (A T : Nat → Int) (hg : Trm n A m T) (hf : faultF n N A = 0) : ∀ (d p : Nat), m - p ≤ d → p < m → ∀ w : World, One w B (.slice (some ⟨b, off, none⟩) n c) → Syms w b off n N A → Ints w b' off' m T →
    Calls Try.prog 37 #[.pointer (some ⟨B, 0, none⟩), .slice (some ⟨b', off', none⟩) m c', .int .i64 p] w fun e w' => e = .returned (.string (bs (txt N A T m p))) ∧ Below w.heap.size w w' := by
  intro d
  induction d with
  | zero => intro p hd hp; omega
  | succ d ih =>
    intro p hd hlt w h0 h h'
    rcases nodeB_cases (hg.nods.node p hlt) with ⟨j, e, hj⟩ | hv
    rotate_left
    · exact l4Text_var B b' off' m c' p N A T w hlt h' hv
    have IH := hidden ih
    have H0 := hidden h0
    have H := hidden h
    have H' := hidden h'
    have HG := hidden hg
    have HF := hidden hf
    have HA := hg.nods.ar j hj
    have hm := hg.nods.most
    have hj6 : j < 6 := by have := hg.nods.few; omega
    have hn6 := hg.nods.few
    obtain ⟨ar, har⟩ : ∃ ar : Nat, A j = ar := ⟨(A j).toNat, by omega⟩
    have EA := hidden (show aOf A T p = ar by rw [aOf_sym e, har]; rfl)
    have ar2 : ar ≤ 2 := by omega
    have c1 := h'.cell p hlt
    rw [e] at c1
    have ET := hidden e
    have c2 := h.name j hj
    have c3 := h.arity j hj
    rw [har] at c3
    have c0 := h0.c0
    obtain ⟨en, hen, _, _⟩ := skip_inner hg.whole hlt
    have HS := hidden (show skip (aOf A T) m (p + 1) ar = some en by rw [← EA.out, ← skip_one _ hlt]; exact hen)
    clear ih h0 h h' hg HA e har hen hf
    have hj0 : decide ((j : Int) < 0) = false := by simp
    go_enter Try.func37, Try.ntmps37
    go_wp2_with fail
    have n0 := World.new_ne w ⟨B, 0, none⟩ c0
    have n1 := World.new_ne w ⟨b', off' + p, none⟩ c1
    have n2 := World.new_ne w ⟨b, off + j * 2, none⟩ c2
    have n3 := World.new_ne w ⟨b, off + j * 2 + 1, none⟩ c3
    go_cut [7] (fun t wc => t = .pointer (some ⟨w.heap.size, 0, none⟩) ∧ Two wc w.heap.size (.string (N j)) (.int .i64 ar) ∧ Below w.heap.size w wc)
    case first =>
      go_region_held3 (fun wz => wz.cell? ⟨B, 0, none⟩ = some (.slice (some ⟨b, off, none⟩) n c) ∧ wz.cell? ⟨b', off' + p, none⟩ = some (.int .i64 (j : Int)) ∧ wz.cell? ⟨b, off + j * 2, none⟩ = some (.string (N j)) ∧ wz.cell? ⟨b, off + j * 2 + 1, none⟩ = some (.int .i64 (ar : Int))) (first | exact ⟨by assumption, by assumption, by assumption, by assumption⟩ | go_keep) (fail)
      all_goals (go_wp2_with fail; go_meet)
      all_goals exact ⟨rfl, (Two.new _ _ _ _).keep (Below.refl _ _).drew, (alloc_below _ _).drew⟩
    case rest =>
      rename World => w1
      obtain ⟨rfl, x, hb⟩ := hcut
      have X := hidden x
      replace H0 := hidden (H0.out.keep hb)
      replace H := hidden (H.out.keep hb)
      replace H' := hidden (H'.out.keep hb)
      have B1 := hidden hb
      clear hb x c0 c1 c2 c3 n0 n1 n2 n3
      have x0 := X.out.c0
      have x1 := X.out.c1
      have hnz : (N j).size ≤ 4 := name_small HF.out hj
      by_cases hz : ar = 0
      · have HR := hidden (txt_con (N := N) hlt ET.out (by rw [EA.out, hz]))
        subst hz
        go_wp2
        go_ret
        exact ⟨by rw [HR.out, bs_data]; rfl, B1.out⟩
      · have HR := hidden (txt_pre (N := N) hlt ET.out EA.out hz ar2 HS.out)
        have hz' : ((ar : Int) == 0) = false := by simpa using hz
        clear hz
        obtain ⟨t, ht⟩ : ∃ t, t = fun k => txt N A T m (argP (aOf A T) m p k) := ⟨_, rfl⟩
        have TL := hidden (show ∀ k, (t k).length ≤ 2300000000000 from fun k => by rw [ht]; exact txt_short HF.out HG.out _)
        have TP := hidden (show ∀ k r, skip (aOf A T) m (p + 1) k = some r → t k = txt N A T m r from fun k r h => by rw [ht]; show txt N A T m (argP (aOf A T) m p k) = _; rw [argP_some h])
        rw [← ht] at HR
        clear ht
        obtain ⟨nm, hnm⟩ : ∃ nm, nm = (N j).data.toList := ⟨_, rfl⟩
        rw [← hnm] at HR
        have PL := hidden (show ∀ k, k ≤ 2 → (bs (preT nm t k)).size ≤ 4700000000000 from fun k hk => by
          have h1 := preT_le (nm := nm) (t := t) (M := 2300000000000) (by rw [hnm, Array.length_toList]; exact hnz) TL.out k
          rw [bs_size]
          have : k * (2300000000000 + 1) ≤ 2 * (2300000000000 + 1) := Nat.mul_le_mul_right _ hk
          omega)
        have P0 := hidden (show N j ++ ⟨#[40]⟩ = bs (preT nm t 0) by
          rw [preT, hnm, ← bs_append, bs_data]; rfl)
        clear hnm
        go_wp2
        rw [P0.out]
        go_loopw [8, 9, 10] (fun o q i wr => ∃ (k r : Nat), k ≤ ar ∧ r ≤ m ∧ p < r ∧ o = .string (bs (preT nm t k)) ∧ q = .int .i64 r ∧ i = .int .i64 k ∧ Hid (skip (aOf A T) m (p + 1) k = some r) ∧ Hid (Below w1.heap.size w1 wr)) (fun _ _ i _ => ar - (intOf i).toNat)
        case atStart => exact ⟨0, p + 1, Nat.zero_le _, by omega, by omega, rfl, by go_num, rfl, hidden (skip_zero _ _ _), hidden (Below.refl _ _)⟩
        case round =>
          obtain ⟨k, r, hk, hr, hpr, rfl, rfl, rfl, HK, HB⟩ := hrel
          clear x0 x1
          have x1 := (X.out.keep HB.out).c1
          have hpl := PL.out k (by omega)
          by_cases hkl : k < ar
          · obtain ⟨r', r2, e1, e2, e3⟩ := skip_arg HS.out hkl
            obtain rfl : r = r' := by rw [HK.out] at e1; exact Option.some.inj e1
            have hr2 := (skip_le e2).2 (by omega)
            have hrm : r < m := by omega
            have HE2 := hidden (endV_some e2)
            have HK2 := hidden e3
            have HT := hidden (TP.out k r HK.out)
            have htl : (bs (t k)).size ≤ 2300000000000 := by rw [bs_size]; exact TL.out k
            clear e1 e2 e3 HK
            by_cases hk0 : k = 0
            · have HN := hidden (show bs (preT nm t k) ++ bs (t k) = bs (preT nm t (k + 1)) by rw [bs_append, preT, if_pos hk0])
              subst hk0
              generalize bs (preT nm t 0) = u at *
              go_wp2_with fail
              with_reducible refine (IH.out r (by omega) hrm _ (H0.out.keep HB.out) (H.out.keep HB.out) (H'.out.keep HB.out)).mono ?_
              rintro e w2 ⟨rfl, hb⟩
              rw [← HT.out]
              replace HB := hidden (keepB HB.out hb)
              clear hb x1
              generalize bs (t 0) = v at *
              go_wp2_with fail
              with_reducible refine (l3End_any _ _ _ _ _ _ _ _ _ N A T HG.out.nods m r (by omega) hr _ (H0.out.keep HB.out) (H.out.keep HB.out) (H'.out.keep HB.out)).mono ?_
              rintro e w3 ⟨rfl, hb⟩
              replace HB := hidden (keepB HB.out hb)
              rw [HE2.out]
              clear hb
              go_wp2
              go_roundw
              case rel => exact ⟨1, r2, by omega, by omega, by omega, by rw [HN.out], rfl, by go_num, HK2, HB⟩
              case measure => simp [intOf]; omega
            · have HN := hidden (show (bs (preT nm t k) ++ ⟨#[44]⟩) ++ bs (t k) = bs (preT nm t (k + 1)) by rw [preT, if_neg hk0, ← bs_append, ← bs_append]; rfl)
              obtain rfl : k = 1 := by omega
              clear hk0
              generalize bs (preT nm t 1) = u at *
              go_wp2_with fail
              with_reducible refine (IH.out r (by omega) hrm _ (H0.out.keep HB.out) (H.out.keep HB.out) (H'.out.keep HB.out)).mono ?_
              rintro e w2 ⟨rfl, hb⟩
              rw [← HT.out]
              replace HB := hidden (keepB HB.out hb)
              clear hb x1
              generalize bs (t 1) = v at *
              go_wp2_with fail
              with_reducible refine (l3End_any _ _ _ _ _ _ _ _ _ N A T HG.out.nods m r (by omega) hr _ (H0.out.keep HB.out) (H.out.keep HB.out) (H'.out.keep HB.out)).mono ?_
              rintro e w3 ⟨rfl, hb⟩
              replace HB := hidden (keepB HB.out hb)
              rw [HE2.out]
              clear hb
              go_wp2
              go_roundw
              case rel => exact ⟨2, r2, by omega, by omega, by omega, by rw [HN.out], rfl, by go_num, HK2, HB⟩
              case measure => simp [intOf]; omega
          · obtain rfl : k = ar := by omega
            have HN := hidden (show bs (preT nm t k) ++ ⟨#[41]⟩ = bs (txt N A T m p) by rw [HR.out, ← bs_append]; rfl)
            clear HR
            generalize bs (preT nm t k) = u at *
            go_wp2
            go_ret
            exact ⟨by rw [← HN.out]; rfl, B1.out.trans (HB.out.mono B1.out.size)⟩

end Go.Proofs.Ytkaoafdemckagaa
