/- Contracts: the marks that the laws lay on what they handed in: texts, symbols, numbers. -/
import Derived.Test.YtbdgnpjbmlcchaaRank
import Derived.Laws.BytesArg
import Derived.Laws.BitsAllLaws
namespace Go.Proofs.Ytbdgnpjbmlcchaa
open Go.RowKit

def dig (k : Nat) : ByteArray := ⟨#[UInt8.ofNat (48 + k % 10)]⟩

def mtTail (k : Nat) (out : ByteArray) : ByteArray := if _h : k = 0 then out else mtTail (k / 10) (dig k ++ out)
termination_by k
decreasing_by omega

/-- The text of a mark. -/
def mt (k : Nat) : ByteArray := ⟨#[109]⟩ ++ mtTail k ByteArray.empty

theorem mtTail_step {k : Nat} (h : k ≠ 0) (out : ByteArray) : mtTail k out = mtTail (k / 10) (dig k ++ out) := by
  rw [mtTail, dif_neg h]
theorem mtTail_zero (out : ByteArray) : mtTail 0 out = out := by rw [mtTail, dif_pos rfl]

/-- The marks on symbols. -/
def mkN (k : Nat) (i : Nat) : ByteArray := mt (k + 2 * i)
def mkA (k : Nat) (i : Nat) : Int := ((k + 2 * i + 1 : Nat) : Int)

theorem below_grown {w w' : World} (h : Below w.heap.size w w') (r : Option Nat) : w.grownBy w' r := ⟨h.os, h.tape, h.output, h.size, fun i hi _ => h.block i hi⟩
theorem grownBy_refl (w : World) (r : Option Nat) : w.grownBy w r := ⟨rfl, rfl, rfl, Nat.le_refl _, fun _ _ _ => rfl⟩
theorem grownBy_trans {a b c : World} {r : Option Nat} (h : a.grownBy b r) (k : b.grownBy c r) : a.grownBy c r :=
  ⟨k.os.trans h.os, k.tape.trans h.tape, k.output.trans h.output, Nat.le_trans h.size k.size, fun i hi hr => (k.block i (Nat.lt_of_lt_of_le hi h.size) hr).trans (h.block i hi hr)⟩

/-- The marks on numbers. -/
def mkI (k : Nat) (i : Nat) : Int := ((k + i : Nat) : Int)

end Go.Proofs.Ytbdgnpjbmlcchaa
