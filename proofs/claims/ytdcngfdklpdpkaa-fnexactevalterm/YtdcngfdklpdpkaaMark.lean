/- Contracts: the marks that the laws lay on what they handed in: texts, symbols, numbers. -/
import Derived.Test.YtdcngfdklpdpkaaRank
import Derived.Laws.BytesArg
import Derived.Laws.BitsAllLaws
namespace Go.Proofs.Ytdcngfdklpdpkaa
open Go.RowKit

def dig (k : Nat) : ByteArray := ⟨#[UInt8.ofNat (48 + k % 10)]⟩

def mtTail (k : Nat) (out : ByteArray) : ByteArray := if _h : k = 0 then out else mtTail (k / 10) (dig k ++ out)
termination_by k
decreasing_by omega

/-- The text of a mark. -/
def mt (k : Nat) : ByteArray := ⟨#[109]⟩ ++ mtTail k ByteArray.empty

theorem mtTail_step {k : Nat} (h : k ≠ 0) (out : ByteArray) : mtTail k out = mtTail (k / 10) (dig k ++ out) := by
  rw [mtTail, dif_neg h]
theorem mtTail_zero (out : ByteArray) : mtTail 0 out = out := by rw [mtTail, dif_pos rfl]

theorem one_byte (W : World) (x : Int) : (convert 144 9 (.slice (some ⟨W.heap.size, 0, none⟩) 1 1)).run Try.prog (W.alloc (.cells #[.int .u8 x] 5)) = .ok (.string ⟨#[UInt8.ofNat x.toNat]⟩) (W.alloc (.cells #[.int .u8 x] 5)) := by
  refine run_convert_bytes_arg (P := Try.prog) _ 144 5 Try.underlying144 Try.underlying5 W.heap.size 0 1 1 [x] rfl ?_ 9 Try.underlying9
  intro i hi
  obtain rfl : i = 0 := by omega
  simp [go_sem]

set_option maxRecDepth 20000 in
set_option maxHeartbeats 800000 in
theorem markText_any (k : Nat) (w : World) (h0 : 0 < k) (h : k < 100000000000000) :
    Calls Try.prog 83 #[.int .i64 (k : Int)] w fun e w' => e = .returned (.string (mt k)) ∧ Below w.heap.size w w' := by
  have k1 := one_byte
  go_enter Try.func83, Try.ntmps83
  go_wp2
  go_loopw [0, 3] (fun a o wr => ∃ (q : Nat) (out : ByteArray) (j : Nat), a = .int .i64 (q : Int) ∧ o = .string out ∧ q < 100000000000000 ∧ out.size ≤ 14 ∧ Hid (mtTail q out = mtTail k ByteArray.empty ∧ q < 10 ^ j ∧ out.size + j ≤ 14 ∧ Below w.heap.size w wr)) (fun a _ _ => (intOf a).toNat)
  case atStart => exact ⟨k, _, 14, rfl, rfl, by omega, by show 0 ≤ 14; omega, hidden ⟨rfl, by omega, by show 0 + 14 ≤ 14; omega, Below.refl _ _⟩⟩
  case round =>
    obtain ⟨q, out, j, rfl, rfl, hq, ho, HI⟩ := hrel
    by_cases hz : q = 0
    · subst hz
      have HR := hidden (show mt k = ⟨#[109]⟩ ++ out by rw [mt, ← HI.out.1, mtTail_zero])
      go_wp2
      go_ret
      exact ⟨by rw [HR.out]; rfl, HI.out.2.2.2⟩
    · have hq0 : 0 < q := by omega
      have a2 : ((q : Int)).tmod 10 = (q : Int) % 10 := Int.tmod_eq_emod_of_nonneg (by omega)
      have a5 : ((q : Int)).tdiv 10 = (q : Int) / 10 := Int.tdiv_eq_ediv_of_nonneg (by omega)
      have a3 : IntKind.u8.wrap (48 + (q : Int) % 10) = 48 + (q : Int) % 10 := by rw [IntKind.wrap_u8']; omega
      go_wp2
      obtain ⟨e1, e2, e3, e4⟩ := HI.out
      obtain ⟨j', rfl⟩ : ∃ j', j = j' + 1 := ⟨j - 1, by
        have : j ≠ 0 := by rintro rfl; simp at e2; omega
        omega⟩
      have hsz : (({ data := #[48 + UInt8.ofNat (q % 10)] } : ByteArray) ++ out).size = out.size + 1 := by
        rw [ByteArray.size_append]
        show 1 + out.size = _
        omega
      refine ⟨⟨q / 10, _, j', by simp, rfl, by omega, by rw [hsz]; omega, hidden ⟨?_, ?_, by rw [hsz]; omega, e4.alloc e4.size _⟩⟩, by simp [intOf]; omega⟩
      · rw [← e1, mtTail_step hz, dig, UInt8.ofNat_add]
        rfl
      · rw [Nat.pow_succ] at e2; omega

/-- The marks on symbols. -/
def mkN (k : Nat) (i : Nat) : ByteArray := mt (k + 2 * i)
def mkA (k : Nat) (i : Nat) : Int := ((k + 2 * i + 1 : Nat) : Int)

theorem below_grown {w w' : World} (h : Below w.heap.size w w') (r : Option Nat) : w.grownBy w' r := ⟨h.os, h.tape, h.output, h.size, fun i hi _ => h.block i hi⟩
theorem grownBy_refl (w : World) (r : Option Nat) : w.grownBy w r := ⟨rfl, rfl, rfl, Nat.le_refl _, fun _ _ _ => rfl⟩
theorem grownBy_trans {a b c : World} {r : Option Nat} (h : a.grownBy b r) (k : b.grownBy c r) : a.grownBy c r :=
  ⟨k.os.trans h.os, k.tape.trans h.tape, k.output.trans h.output, Nat.le_trans h.size k.size, fun i hi hr => (k.block i (Nat.lt_of_lt_of_le hi h.size) hr).trans (h.block i hi hr)⟩

set_option maxRecDepth 20000 in
set_option maxHeartbeats 800000 in
theorem markSymbolS_any (B g n c k : Nat) (N : Nat → ByteArray) (A : Nat → Int) (w : World) (h : OwnS w B g n c N A n) (hn : n ≤ 1048576) (hk0 : 0 < k) (hk : k ≤ 1099511627776) :
    Calls Try.prog 51 #[.slice (some ⟨g, 0, none⟩) n c, .int .i64 (k : Int)] w fun e w' => e = .returned (.int .i64 ((k + 2 * n : Nat) : Int)) ∧ OwnS w' B g n c (mkN k) (mkA k) n ∧ w.grownBy w' (some g) := by
  have HO := hidden (show OwnS w B g n c (mkN k) (mkA k) 0 by obtain ⟨xs, ho, _⟩ := h; exact ⟨xs, ho, fun i hi => by omega⟩)
  clear h
  go_enter Try.func51, Try.ntmps51
  go_wp2
  go_loopw [1, 5] (fun a i wr => ∃ j : Nat, j ≤ n ∧ i = .int .i64 j ∧ a = .int .i64 ((k + 2 * j : Nat) : Int) ∧ Hid (OwnS wr B g n c (mkN k) (mkA k) j ∧ w.grownBy wr (some g))) (fun _ i _ => n - (intOf i).toNat)
  case atStart => exact ⟨0, Nat.zero_le _, rfl, by simp, hidden ⟨HO.out, grownBy_refl _ _⟩⟩
  case round =>
    obtain ⟨j, hj, rfl, rfl, HI⟩ := hrel
    by_cases hlt : j < n
    · go_wp2_with fail
      refine (markText_any (k + 2 * j) _ (by omega) (by omega)).mono ?_
      rintro e w1 ⟨rfl, hb⟩
      have o1 := HI.out.1.keep hb
      have G1 := hidden (grownBy_trans HI.out.2 (below_grown hb (some g)))
      obtain ⟨⟨u0, p0⟩, ⟨u1, p1⟩, f0, f1, o3, g3⟩ := o1.put hlt
      have H3 := hidden (And.intro o3 (grownBy_trans G1.out g3))
      rw [show mkN k j = mt (k + 2 * j) from rfl, show mkA k j = ((k + 2 * j + 1 : Nat) : Int) from rfl, Nat.zero_add] at H3
      rw [show mkN k j = mt (k + 2 * j) from rfl, Nat.zero_add] at p1 f1
      rw [Nat.zero_add] at p0 f0
      clear o3 g3 G1 HI o1 hb
      generalize mt (k + 2 * j) = S at *
      go_wp2
      rw [show ((k + 2 * j + 1 : Nat) : Int) = (k : Int) + 2 * j + 1 by omega] at H3
      exact ⟨⟨j + 1, by omega, by go_num, by congr 1, H3⟩, by simp [intOf]; omega⟩
    · obtain rfl : n = j := by omega
      go_wp2
      go_ret
      exact ⟨rfl, HI.out.1, HI.out.2⟩

set_option maxRecDepth 20000 in
set_option maxHeartbeats 800000 in
theorem markSignature_any (B g n c k : Nat) (N : Nat → ByteArray) (A : Nat → Int) (w : World) (h : OwnS w B g n c N A n) (hn : n ≤ 1048576) (hk0 : 0 < k) (hk : k ≤ 1099511627776) :
    Calls Try.prog 19 #[.agg #[.slice (some ⟨g, 0, none⟩) n c], .int .i64 (k : Int)] w fun e w' => e = .returned (.int .i64 ((k + 2 * n : Nat) : Int)) ∧ OwnS w' B g n c (mkN k) (mkA k) n ∧ w.grownBy w' (some g) := by
  go_enter Try.func19, Try.ntmps19
  go_wp2_with fail
  refine (markSymbolS_any B g n c k N A _ (h.keep (alloc_below _ _)) hn hk0 hk).mono ?_
  rintro e w1 ⟨rfl, ho, hg⟩
  have H1 := hidden (And.intro ho (grownBy_trans (World.grownBy_alloc w _ (some g)) hg))
  clear ho hg
  go_wp2
  go_ret
  exact ⟨rfl, H1.out.1, H1.out.2⟩

/-- The marks on numbers. -/
def mkI (k : Nat) (i : Nat) : Int := ((k + i : Nat) : Int)

set_option maxRecDepth 20000 in
set_option maxHeartbeats 800000 in
theorem markInt64S_any (B g n c k : Nat) (L : Nat → Int) (w : World) (h : OwnI w B g n c L n) (hn : n ≤ 1048576) (hk : k ≤ 1099511627776) :
    Calls Try.prog 105 #[.slice (some ⟨g, 0, none⟩) n c, .int .i64 (k : Int)] w fun e w' => e = .returned (.int .i64 ((k + n : Nat) : Int)) ∧ OwnI w' B g n c (mkI k) n ∧ w.grownBy w' (some g) := by
  have HO := hidden (show OwnI w B g n c (mkI k) 0 by obtain ⟨xs, ho, _⟩ := h; exact ⟨xs, ho, fun i hi => by omega⟩)
  clear h
  go_enter Try.func105, Try.ntmps105
  go_wp2
  go_loopw [1, 5] (fun a i wr => ∃ j : Nat, j ≤ n ∧ i = .int .i64 j ∧ a = .int .i64 ((k + j : Nat) : Int) ∧ Hid (OwnI wr B g n c (mkI k) j ∧ w.grownBy wr (some g))) (fun _ i _ => n - (intOf i).toNat)
  case atStart => exact ⟨0, Nat.zero_le _, rfl, by simp, hidden ⟨HO.out, grownBy_refl _ _⟩⟩
  case round =>
    obtain ⟨j, hj, rfl, rfl, HI⟩ := hrel
    by_cases hlt : j < n
    · obtain ⟨⟨u0, p0⟩, f0, o3, g3⟩ := HI.out.1.put hlt ((k : Int) + j) (by simp [mkI])
      have H3 := hidden (And.intro o3 (grownBy_trans HI.out.2 g3))
      clear o3 g3 HI
      go_wp2
      exact ⟨⟨j + 1, by omega, by go_num, by congr 1, H3⟩, by simp [intOf]; omega⟩
    · obtain rfl : n = j := by omega
      go_wp2
      go_ret
      exact ⟨rfl, HI.out.1, HI.out.2⟩

set_option maxRecDepth 20000 in
set_option maxHeartbeats 800000 in
theorem heldInt64S_any (b n c k : Nat) (w : World) (h : Ints w b 0 n (mkI k)) (hn : n ≤ 1048576) (hk : k ≤ 1099511627776) :
    Calls Try.prog 106 #[.slice (some ⟨b, 0, none⟩) n c, .int .i64 (k : Int)] w fun e w' => e = .returned (.int .i64 ((k + n : Nat) : Int)) ∧ Below w.heap.size w w' := by
  go_enter Try.func106, Try.ntmps106
  go_wp2
  go_loopw [1, 5] (fun a i wr => ∃ j : Nat, j ≤ n ∧ i = .int .i64 j ∧ a = .int .i64 ((k + j : Nat) : Int) ∧ ∃ q, wr = w.drewN q) (fun _ i _ => n - (intOf i).toNat)
  case atStart => exact ⟨0, Nat.zero_le _, rfl, by simp, 0, rfl⟩
  case round =>
    obtain ⟨j, hj, rfl, rfl, q, rfl⟩ := hrel
    by_cases hlt : j < n
    · have c1 : w.cell? ⟨b, j, none⟩ = some (.int .i64 ((k : Int) + j)) := by
        have := h.cell j hlt
        rw [Nat.zero_add] at this
        rw [this]; simp [mkI]
      go_wp2
      exact ⟨⟨j + 1, by omega, by go_num, by congr 1, _, rfl⟩, by simp [intOf]; omega⟩
    · obtain rfl : n = j := by omega
      go_wp2
      go_ret
      exact ⟨rfl, below_drewN (Below.refl _ _) _⟩

end Go.Proofs.Ytdcngfdklpdpkaa
