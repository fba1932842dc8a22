/- Contracts: a number's text, as the model and as the program makes it. -/
import Derived.Test.YtcjpmpbepmjgkaaDoorRows
import Derived.Test.YtcjpmpbepmjgkaaDoorShelf
import Derived.WalkKit
import Derived.WalkSpells
import Derived.WalkLawsBesides
import Derived.Below
import Derived.Outline
import Derived.Laws.OwnMore
import Derived.Laws.BytesArg
import Derived.Deep.RegionWith
import Derived.Lib.ItoaMem
import Derived.Laws.BitsAllLaws
namespace Go.Proofs.YtcjpmpbepmjgkaaDoor
open Go.RowKit

theorem hidden {p : Prop} (h : p) : Hid p := h

theorem one_byte (W : World) (x : Int) : (convert 22 9 (.slice (some ⟨W.heap.size, 0, none⟩) 1 1)).run Tryd.prog (W.alloc (.cells #[.int .u8 x] 5)) = .ok (.string ⟨#[UInt8.ofNat x.toNat]⟩) (W.alloc (.cells #[.int .u8 x] 5)) := by
  refine run_convert_bytes_arg (P := Tryd.prog) _ 22 5 Tryd.underlying22 Tryd.underlying5 W.heap.size 0 1 1 [x] rfl ?_ 9 Tryd.underlying9
  intro i hi
  obtain rfl : i = 0 := by omega
  simp [go_sem]

theorem one_drew (W : World) (x : Int) : (convert 22 9 (.slice (some ⟨W.heap.size, 0, none⟩) 1 1)).run Tryd.prog (W.alloc (.cells #[.int .u8 x] 5)).drew = .ok (.string ⟨#[UInt8.ofNat x.toNat]⟩) (W.alloc (.cells #[.int .u8 x] 5)).drew := by
  refine run_convert_bytes_arg (P := Tryd.prog) _ 22 5 Tryd.underlying22 Tryd.underlying5 W.heap.size 0 1 1 [x] rfl ?_ 9 Tryd.underlying9
  intro i hi
  obtain rfl : i = 0 := by omega
  simp [go_sem]

theorem digit_on (l : List UInt8) (k : Nat) : (⟨l.toArray⟩ ++ ⟨#[48 + UInt8.ofNat k]⟩ : ByteArray) = ⟨(l ++ [UInt8.ofNat (48 + k)]).toArray⟩ := by
  apply ByteArray.ext
  rw [ByteArray.data_append]
  simp [UInt8.ofNat_add]

theorem later_below {w w1 : World} {o : Obj} (hb : Below (w.alloc o).drew.heap.size (w.alloc o).drew w1) : Below w.heap.size w w1 :=
  (((Below.refl _ w).alloc (Nat.le_refl _) o).drew).trans (hb.mono (by show w.heap.size ≤ (w.alloc o).heap.size; simp))

theorem one_later {w w1 : World} {x : Int} (hb : Below (w.alloc (.cells #[.int .u8 x] 5)).drew.heap.size (w.alloc (.cells #[.int .u8 x] 5)).drew w1) :
    (convert 22 9 (.slice (some ⟨w.heap.size, 0, none⟩) 1 1)).run Tryd.prog w1 = .ok (.string ⟨#[UInt8.ofNat x.toNat]⟩) w1 := by
  refine run_convert_bytes_arg (P := Tryd.prog) _ 22 5 Tryd.underlying22 Tryd.underlying5 w.heap.size 0 1 1 [x] rfl ?_ 9 Tryd.underlying9
  intro i hi
  obtain rfl : i = 0 := by omega
  rw [hb.cell (p := ⟨w.heap.size, 0 + 0, none⟩) (by show w.heap.size < (w.alloc _).heap.size; simp)]
  simp [go_sem]

set_option maxHeartbeats 800000 in
theorem l1Digits_one (n : Nat) (hlt : n < 10) (w : World) : Calls Tryd.prog 18 #[.int .i64 n] w fun e w' => e = .returned (.string ⟨(Lib.decDigits n).toArray⟩) ∧ Below w.heap.size w w' := by
  have k1 := one_byte
  have HD := hidden (Lib.decDigits_one hlt)
  go_enter Tryd.func18, Tryd.ntmps18
  go_wp2
  go_ret
  rw [HD.out]
  exact ⟨rfl, (Below.refl _ _).alloc (Nat.le_refl _) _⟩

theorem nDigits_le : ∀ (k u : Nat), u < 10 ^ (k + 1) → Lib.nDigits u ≤ k + 1
  | 0, u, h => by rw [Lib.nDigits, dif_pos (by simpa using h)]; exact Nat.le_refl _
  | k + 1, u, h => by
    rw [Lib.nDigits]
    split
    · omega
    · have := nDigits_le k (u / 10) (by rw [Nat.pow_succ] at h; omega)
      omega

theorem wrap_small (n : Nat) (h : n < 1000000) : IntKind.i64.wrap (n : Int) = (n : Int) := by
  have e : (n : Int) % 2 ^ 64 = n := Int.emod_eq_of_lt (by omega) (by omega)
  simp only [IntKind.wrap, IntKind.bits, IntKind.signed, e]
  rw [if_neg]
  simp
  omega

theorem wrap_int (x : Int) (h0 : 0 ≤ x) (h : x < 1000000) : IntKind.i64.wrap x = x := by
  obtain ⟨k, rfl⟩ := Int.eq_ofNat_of_zero_le h0
  exact wrap_small k (by omega)

set_option maxHeartbeats 800000 in
theorem l1Digits_any : ∀ (m n : Nat), n ≤ m → n ≤ 999999 → ∀ w : World, Calls Tryd.prog 18 #[.int .i64 n] w fun e w' => e = .returned (.string ⟨(Lib.decDigits n).toArray⟩) ∧ Below w.heap.size w w' := by
  intro m
  induction m with
  | zero =>
    intro n hn hx w
    exact l1Digits_one n (by omega) w
  | succ m ih =>
    intro n hn hx w
    by_cases hlt : n < 10
    · exact l1Digits_one n hlt w
    · have IH := hidden (show ∀ (x : Int), x = (n : Int) / 10 → ∀ w', Calls Tryd.prog 18 #[.int .i64 x] w' fun e w'' => e = .returned (.string ⟨(Lib.decDigits (n / 10)).toArray⟩) ∧ Below w'.heap.size w' w'' by
        rintro x rfl w'
        exact ih (n / 10) (by omega) (by omega) w')
      have HD := hidden (show Lib.decDigits n = Lib.decDigits (n / 10) ++ [UInt8.ofNat (48 + n % 10)] by
        rw [Lib.decDigits, dif_neg hlt])
      have hmod : n % 10 < 10 := Nat.mod_lt _ (by omega)
      clear ih
      have hz : (⟨(Lib.decDigits (n / 10)).toArray⟩ : ByteArray).size ≤ 6 := by
        show (Lib.decDigits (n / 10)).toArray.size ≤ 6
        rw [List.size_toArray, Lib.decDigits_length]
        exact nDigits_le 5 _ (by omega)
      generalize hS : (⟨(Lib.decDigits (n / 10)).toArray⟩ : ByteArray) = S at IH hz
      have HS := hidden hS
      clear hS
      have k1 := one_byte
      have k1d := one_drew
      have a1 : IntKind.i64.wrap ((n : Int) / 10) = (n : Int) / 10 := wrap_int _ (by omega) (by omega)
      have a2 : ((n : Int)).tmod 10 = (n : Int) % 10 := Int.tmod_eq_emod_of_nonneg (by omega)
      have a3 : IntKind.i64.wrap (48 + (n : Int) % 10) = 48 + (n : Int) % 10 := wrap_int _ (by omega) (by omega)
      have a4 : IntKind.u8.wrap (48 + (n : Int) % 10) = 48 + (n : Int) % 10 := by rw [IntKind.wrap_u8']; omega
      go_enter Tryd.func18, Tryd.ntmps18
      go_wp2_with fail
      go_region_with (first | (go_at_call 18; refine (IH.out _ ?_ w.drew).mono ?_; (first | rfl | omega); rintro e w1 ⟨rfl, hb⟩; have b1 : Below w.heap.size w w1 := ((Below.refl _ w).drew).trans hb; clear hb) | (go_at_call 18; refine (IH.out _ ?_ (w.alloc (.cells #[.int .u8 (48 + (n : Int) % 10)] 5)).drew).mono ?_; (first | rfl | omega); rintro e w1 ⟨rfl, hb⟩; have kc := one_later hb; have b1 : Below w.heap.size w w1 := later_below hb; clear hb))
      all_goals go_wp2
      all_goals go_ret
      all_goals (refine ⟨?_, ?_⟩)
      all_goals (first | exact b1 | exact b1.alloc b1.size _ | (show Ending.returned (Value.string _) = _; rw [HD.out, ← HS.out, digit_on]))

end Go.Proofs.YtcjpmpbepmjgkaaDoor
