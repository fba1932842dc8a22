/-
  No cell of these rows narrows 'for every input' (looked for: loops, veiled, ifaces, maps, wideKeys, modest, calm, conditions, laid).
  DERIVED. THE GIVEN ROWS OF THIS SEAT. 3 by the template 'for every input the law returns true; each argument reads behind the call as it read before'; 0 by the template 'total and deterministic' (their statements: YtflhfhmhdhokoaaGreatTotals.lean).
  GIVEN WITH THE SEED: the statements are not yours to turn. If you find one false, say at which input.
  Laid BY PROGRAM, IN A SANDBOX (cutbox-rows.mjs): the forced cells as the released guide's own fill.sh prints them over the translation 35b11461289209f3… (all of the seat's roots in one cut). By AI agents, Wed Nov 11 2026. No macro, syntax, notation, axiom, sorry.
-/
import Derived.Test.YtflhfhmhdhokoaaGreatChecked
import GoSem.Claim
import GoSem.ClaimJoined
import GoSem.ClaimMapViews
import Derived.JoinedTies
import Derived.KernelRfl
namespace Go.Proofs.YtflhfhmhdhokoaaGreat
/- THE CELL 'sum', in the pinned program and in every row, IS THE sha256 OF THE DUMP (.gsa) THAT YtflhfhmhdhokoaaGreatProg.lean LOADS. Nothing in Lean hashes anything: it is a label: what it is worth is what the hold of that sum in a sandbox is worth. -/
noncomputable def Tryz.pinned : Pinned := { name := "ytflhfhmhdhokoaagreat", sum := "35b11461289209f37b20fd23df494bf32f16399af08cc701d56f66875dd6f502", checked := Tryz.checked }
namespace Rows
def none {H : Type} : Left H := { results := [], args := [] }

/-- 'laws.FnExactNormalForm': WHATEVER THE INPUT: true; the input reads as it did. -/
def fnExactNormalFormSpec : ChangeSpec := { name := "fnExactNormalForm", fn := fun _ => fun
  | [d1, d2, d3, d4] => { results := [.lit (.bool true)], args := [d1, d2, d3, d4] }
  | _ => none }
def fnExactNormalFormRow : OpenClaim := { program := "ytflhfhmhdhokoaagreat", sum := "35b11461289209f37b20fd23df494bf32f16399af08cc701d56f66875dd6f502", func := "loop.example/g00653/laws.FnExactNormalForm", spec := "fnExactNormalForm", unfollowed := true, recurses := true, apart := false }
def FnExactNormalFormSaid : Prop := fnExactNormalFormRow.holds Tryz.pinned (OpenSpec.ofChange fnExactNormalFormSpec)

/-- ITS FALSE NEIGHBOUR: 'it returns false'. Refute it at one input. -/
def fnExactNormalFormWrong : ChangeSpec := { name := "fnExactNormalForm", fn := fun _ => fun
  | [d1, d2, d3, d4] => { results := [.lit (.bool false)], args := [d1, d2, d3, d4] }
  | _ => none }
def FnExactNormalFormWrongFalsely : Prop := fnExactNormalFormRow.holds Tryz.pinned (OpenSpec.ofChange fnExactNormalFormWrong)

/-- 'laws.FnExactAllPeaks': WHATEVER THE INPUT: true; the input reads as it did. -/
def fnExactAllPeaksSpec : ChangeSpec := { name := "fnExactAllPeaks", fn := fun _ => fun
  | [d1, d2] => { results := [.lit (.bool true)], args := [d1, d2] }
  | _ => none }
def fnExactAllPeaksRow : OpenClaim := { program := "ytflhfhmhdhokoaagreat", sum := "35b11461289209f37b20fd23df494bf32f16399af08cc701d56f66875dd6f502", func := "loop.example/g00653/laws.FnExactAllPeaks", spec := "fnExactAllPeaks", unfollowed := true, recurses := true, apart := false }
def FnExactAllPeaksSaid : Prop := fnExactAllPeaksRow.holds Tryz.pinned (OpenSpec.ofChange fnExactAllPeaksSpec)

/-- ITS FALSE NEIGHBOUR: 'it returns false'. Refute it at one input. -/
def fnExactAllPeaksWrong : ChangeSpec := { name := "fnExactAllPeaks", fn := fun _ => fun
  | [d1, d2] => { results := [.lit (.bool false)], args := [d1, d2] }
  | _ => none }
def FnExactAllPeaksWrongFalsely : Prop := fnExactAllPeaksRow.holds Tryz.pinned (OpenSpec.ofChange fnExactAllPeaksWrong)

/-- 'laws.FnExactUnjoinedOf': WHATEVER THE INPUT: true; the input reads as it did. -/
def fnExactUnjoinedOfSpec : ChangeSpec := { name := "fnExactUnjoinedOf", fn := fun _ => fun
  | [d1, d2, d3] => { results := [.lit (.bool true)], args := [d1, d2, d3] }
  | _ => none }
def fnExactUnjoinedOfRow : OpenClaim := { program := "ytflhfhmhdhokoaagreat", sum := "35b11461289209f37b20fd23df494bf32f16399af08cc701d56f66875dd6f502", func := "loop.example/g00653/laws.FnExactUnjoinedOf", spec := "fnExactUnjoinedOf", unfollowed := true, recurses := true, apart := false }
def FnExactUnjoinedOfSaid : Prop := fnExactUnjoinedOfRow.holds Tryz.pinned (OpenSpec.ofChange fnExactUnjoinedOfSpec)

/-- ITS FALSE NEIGHBOUR: 'it returns false'. Refute it at one input. -/
def fnExactUnjoinedOfWrong : ChangeSpec := { name := "fnExactUnjoinedOf", fn := fun _ => fun
  | [d1, d2, d3] => { results := [.lit (.bool false)], args := [d1, d2, d3] }
  | _ => none }
def FnExactUnjoinedOfWrongFalsely : Prop := fnExactUnjoinedOfRow.holds Tryz.pinned (OpenSpec.ofChange fnExactUnjoinedOfWrong)

/- THE SECOND FORM. 'bulk': how many values and letters a reading holds, each counted each time it is reached (what is shared counts as often as it is met; a slice's spare places count too). A statement '..UptoSaid' is the law's where the arguments, and the package variables that the reading takes, are together of bulk at most 1048576: NARROWER than '..Said'. Prove '..Said' where nothing that the law and all that it calls make is longer than what came in: it says more and counts as full. Else prove '..UptoSaid'. A law counts once. -/
mutual
def uptoBulk {H : Type} : DataW H → Nat
  | .lit (.string bytes) => bytes.length + 1
  | .lit _ => 1
  | .nil => 1
  | .ptr d => uptoBulk d + 1
  | .slice elems spare => uptoBulkAll elems + uptoBulkAll spare + 1
  | .agg parts => uptoBulkAll parts + 1
  | .iface _ d => uptoBulk d + 1
  | .map entries => uptoBulkEntries entries + 1
  | .held _ => 1
def uptoBulkAll {H : Type} : List (DataW H) → Nat
  | [] => 0
  | d :: r => uptoBulk d + uptoBulkAll r
def uptoBulkEntries {H : Type} : List (Lit × DataW H) → Nat
  | [] => 0
  | x :: r => uptoBulkEntry x + uptoBulkEntries r
def uptoBulkEntry {H : Type} : Lit × DataW H → Nat
  | (.string bytes, d) => bytes.length + uptoBulk d + 1
  | (_, d) => uptoBulk d + 1
 end
def uptoSmall : (H : Type) → List (DataW H) → Bool := fun _ ds => decide (uptoBulkAll ds ≤ 1048576)
def OpenSpec.upto (s : _root_.Go.ChangeSpec) : _root_.Go.OpenSpec := { _root_.Go.OpenSpec.ofChange s with cond := some uptoSmall }

/-- 'laws.FnExactNormalForm', WHERE WHAT IT READS IS OF BULK AT MOST 1048576: true; the input reads as it did. -/
def fnExactNormalFormUptoRow : OpenClaim := { program := "ytflhfhmhdhokoaagreat", sum := "35b11461289209f37b20fd23df494bf32f16399af08cc701d56f66875dd6f502", func := "loop.example/g00653/laws.FnExactNormalForm", spec := "fnExactNormalForm", unfollowed := true, recurses := true, apart := false, narrowed := true }
def FnExactNormalFormUptoSaid : Prop := fnExactNormalFormUptoRow.holds Tryz.pinned (OpenSpec.upto fnExactNormalFormSpec)

/-- 'laws.FnExactAllPeaks', WHERE WHAT IT READS IS OF BULK AT MOST 1048576: true; the input reads as it did. -/
def fnExactAllPeaksUptoRow : OpenClaim := { program := "ytflhfhmhdhokoaagreat", sum := "35b11461289209f37b20fd23df494bf32f16399af08cc701d56f66875dd6f502", func := "loop.example/g00653/laws.FnExactAllPeaks", spec := "fnExactAllPeaks", unfollowed := true, recurses := true, apart := false, narrowed := true }
def FnExactAllPeaksUptoSaid : Prop := fnExactAllPeaksUptoRow.holds Tryz.pinned (OpenSpec.upto fnExactAllPeaksSpec)

/-- 'laws.FnExactUnjoinedOf', WHERE WHAT IT READS IS OF BULK AT MOST 1048576: true; the input reads as it did. -/
def fnExactUnjoinedOfUptoRow : OpenClaim := { program := "ytflhfhmhdhokoaagreat", sum := "35b11461289209f37b20fd23df494bf32f16399af08cc701d56f66875dd6f502", func := "loop.example/g00653/laws.FnExactUnjoinedOf", spec := "fnExactUnjoinedOf", unfollowed := true, recurses := true, apart := false, narrowed := true }
def FnExactUnjoinedOfUptoSaid : Prop := fnExactUnjoinedOfUptoRow.holds Tryz.pinned (OpenSpec.upto fnExactUnjoinedOfSpec)

end Rows
end Go.Proofs.YtflhfhmhdhokoaaGreat
