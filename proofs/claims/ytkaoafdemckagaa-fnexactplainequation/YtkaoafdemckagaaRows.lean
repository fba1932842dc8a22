/-
  No cell of these rows narrows 'for every input' (looked for: loops, veiled, ifaces, maps, wideKeys, modest, calm, conditions, laid).
  DERIVED. THE GIVEN ROWS OF THIS SEAT. 5 by the template 'for every input the law returns true; each argument reads behind the call as it read before'; 0 by the template 'total and deterministic' (their statements: YtkaoafdemckagaaTotals.lean).
  GIVEN WITH THE SEED: the statements are not yours to turn. If you find one false, say at which input.
  Laid BY PROGRAM, IN A SANDBOX (cutbox-rows.mjs): the forced cells as the released guide's own fill.sh prints them over the translation dfc4d397a04103ec… (all of the seat's roots in one cut). By AI agents, Wed Nov 11 2026. No macro, syntax, notation, axiom, sorry.
-/
import Derived.Test.YtkaoafdemckagaaChecked
import GoSem.Claim
import GoSem.ClaimJoined
import GoSem.ClaimMapViews
import Derived.JoinedTies
import Derived.KernelRfl
namespace Go.Proofs.Ytkaoafdemckagaa
/- THE CELL 'sum', in the pinned program and in every row, IS THE sha256 OF THE DUMP (.gsa) THAT YtkaoafdemckagaaProg.lean LOADS. Nothing in Lean hashes anything: it is a label: what it is worth is what the hold of that sum in a sandbox is worth. -/
noncomputable def Try.pinned : Pinned := { name := "ytkaoafdemckagaa", sum := "dfc4d397a04103ececc235cdafbc2e6b67ac04cdb176d1013d0a09f161f4c753", checked := Try.checked }
namespace Rows
def none {H : Type} : Left H := { results := [], args := [] }

/-- 'laws.FnExactTermText': WHATEVER THE INPUT: true; the input reads as it did. -/
def fnExactTermTextSpec : ChangeSpec := { name := "fnExactTermText", fn := fun _ => fun
  | [d1, d2] => { results := [.lit (.bool true)], args := [d1, d2] }
  | _ => none }
def fnExactTermTextRow : OpenClaim := { program := "ytkaoafdemckagaa", sum := "dfc4d397a04103ececc235cdafbc2e6b67ac04cdb176d1013d0a09f161f4c753", func := "loop.example/g00653/laws.FnExactTermText", spec := "fnExactTermText", inPlace := ["internal/abi.NoEscape", "internal/bytealg.MakeNoZero"], unfollowed := true, recurses := true, apart := false }
def FnExactTermTextSaid : Prop := fnExactTermTextRow.holds Try.pinned (OpenSpec.ofChange fnExactTermTextSpec)

/-- ITS FALSE NEIGHBOUR: 'it returns false'. Refute it at one input. -/
def fnExactTermTextWrong : ChangeSpec := { name := "fnExactTermText", fn := fun _ => fun
  | [d1, d2] => { results := [.lit (.bool false)], args := [d1, d2] }
  | _ => none }
def FnExactTermTextWrongFalsely : Prop := fnExactTermTextRow.holds Try.pinned (OpenSpec.ofChange fnExactTermTextWrong)

/-- 'laws.FnExactEquationFault': WHATEVER THE INPUT: true; the input reads as it did. -/
def fnExactEquationFaultSpec : ChangeSpec := { name := "fnExactEquationFault", fn := fun _ => fun
  | [d1, d2] => { results := [.lit (.bool true)], args := [d1, d2] }
  | _ => none }
def fnExactEquationFaultRow : OpenClaim := { program := "ytkaoafdemckagaa", sum := "dfc4d397a04103ececc235cdafbc2e6b67ac04cdb176d1013d0a09f161f4c753", func := "loop.example/g00653/laws.FnExactEquationFault", spec := "fnExactEquationFault", unfollowed := true, recurses := true, apart := false }
def FnExactEquationFaultSaid : Prop := fnExactEquationFaultRow.holds Try.pinned (OpenSpec.ofChange fnExactEquationFaultSpec)

/-- ITS FALSE NEIGHBOUR: 'it returns false'. Refute it at one input. -/
def fnExactEquationFaultWrong : ChangeSpec := { name := "fnExactEquationFault", fn := fun _ => fun
  | [d1, d2] => { results := [.lit (.bool false)], args := [d1, d2] }
  | _ => none }
def FnExactEquationFaultWrongFalsely : Prop := fnExactEquationFaultRow.holds Try.pinned (OpenSpec.ofChange fnExactEquationFaultWrong)

/-- 'laws.FnExactEquationText': WHATEVER THE INPUT: true; the input reads as it did. -/
def fnExactEquationTextSpec : ChangeSpec := { name := "fnExactEquationText", fn := fun _ => fun
  | [d1, d2] => { results := [.lit (.bool true)], args := [d1, d2] }
  | _ => none }
def fnExactEquationTextRow : OpenClaim := { program := "ytkaoafdemckagaa", sum := "dfc4d397a04103ececc235cdafbc2e6b67ac04cdb176d1013d0a09f161f4c753", func := "loop.example/g00653/laws.FnExactEquationText", spec := "fnExactEquationText", inPlace := ["internal/abi.NoEscape", "internal/bytealg.MakeNoZero"], unfollowed := true, recurses := true, apart := false }
def FnExactEquationTextSaid : Prop := fnExactEquationTextRow.holds Try.pinned (OpenSpec.ofChange fnExactEquationTextSpec)

/-- ITS FALSE NEIGHBOUR: 'it returns false'. Refute it at one input. -/
def fnExactEquationTextWrong : ChangeSpec := { name := "fnExactEquationText", fn := fun _ => fun
  | [d1, d2] => { results := [.lit (.bool false)], args := [d1, d2] }
  | _ => none }
def FnExactEquationTextWrongFalsely : Prop := fnExactEquationTextRow.holds Try.pinned (OpenSpec.ofChange fnExactEquationTextWrong)

/-- 'laws.FnExactPlainEquation': WHATEVER THE INPUT: true; the input reads as it did. -/
def fnExactPlainEquationSpec : ChangeSpec := { name := "fnExactPlainEquation", fn := fun _ => fun
  | [d1, d2] => { results := [.lit (.bool true)], args := [d1, d2] }
  | _ => none }
def fnExactPlainEquationRow : OpenClaim := { program := "ytkaoafdemckagaa", sum := "dfc4d397a04103ececc235cdafbc2e6b67ac04cdb176d1013d0a09f161f4c753", func := "loop.example/g00653/laws.FnExactPlainEquation", spec := "fnExactPlainEquation", unfollowed := true, recurses := true, apart := false }
def FnExactPlainEquationSaid : Prop := fnExactPlainEquationRow.holds Try.pinned (OpenSpec.ofChange fnExactPlainEquationSpec)

/-- ITS FALSE NEIGHBOUR: 'it returns false'. Refute it at one input. -/
def fnExactPlainEquationWrong : ChangeSpec := { name := "fnExactPlainEquation", fn := fun _ => fun
  | [d1, d2] => { results := [.lit (.bool false)], args := [d1, d2] }
  | _ => none }
def FnExactPlainEquationWrongFalsely : Prop := fnExactPlainEquationRow.holds Try.pinned (OpenSpec.ofChange fnExactPlainEquationWrong)

/-- 'laws.FnExactSameEquations': WHATEVER THE INPUT: true; the input reads as it did. -/
def fnExactSameEquationsSpec : ChangeSpec := { name := "fnExactSameEquations", fn := fun _ => fun
  | [d1, d2] => { results := [.lit (.bool true)], args := [d1, d2] }
  | _ => none }
def fnExactSameEquationsRow : OpenClaim := { program := "ytkaoafdemckagaa", sum := "dfc4d397a04103ececc235cdafbc2e6b67ac04cdb176d1013d0a09f161f4c753", func := "loop.example/g00653/laws.FnExactSameEquations", spec := "fnExactSameEquations", unfollowed := true, recurses := true, apart := false }
def FnExactSameEquationsSaid : Prop := fnExactSameEquationsRow.holds Try.pinned (OpenSpec.ofChange fnExactSameEquationsSpec)

/-- ITS FALSE NEIGHBOUR: 'it returns false'. Refute it at one input. -/
def fnExactSameEquationsWrong : ChangeSpec := { name := "fnExactSameEquations", fn := fun _ => fun
  | [d1, d2] => { results := [.lit (.bool false)], args := [d1, d2] }
  | _ => none }
def FnExactSameEquationsWrongFalsely : Prop := fnExactSameEquationsRow.holds Try.pinned (OpenSpec.ofChange fnExactSameEquationsWrong)

/- THE SECOND FORM. 'bulk': how many values and letters a reading holds, each counted each time it is reached (what is shared counts as often as it is met; a slice's spare places count too). A statement '..UptoSaid' is the law's where the arguments, and the package variables that the reading takes, are together of bulk at most 1048576: NARROWER than '..Said'. Prove '..Said' where nothing that the law and all that it calls make is longer than what came in: it says more and counts as full. Else prove '..UptoSaid'. A law counts once. -/
mutual
def uptoBulk {H : Type} : DataW H → Nat
  | .lit (.string bytes) => bytes.length + 1
  | .lit _ => 1
  | .nil => 1
  | .ptr d => uptoBulk d + 1
  | .slice elems spare => uptoBulkAll elems + uptoBulkAll spare + 1
  | .agg parts => uptoBulkAll parts + 1
  | .iface _ d => uptoBulk d + 1
  | .map entries => uptoBulkEntries entries + 1
  | .held _ => 1
def uptoBulkAll {H : Type} : List (DataW H) → Nat
  | [] => 0
  | d :: r => uptoBulk d + uptoBulkAll r
def uptoBulkEntries {H : Type} : List (Lit × DataW H) → Nat
  | [] => 0
  | x :: r => uptoBulkEntry x + uptoBulkEntries r
def uptoBulkEntry {H : Type} : Lit × DataW H → Nat
  | (.string bytes, d) => bytes.length + uptoBulk d + 1
  | (_, d) => uptoBulk d + 1
 end
def uptoSmall : (H : Type) → List (DataW H) → Bool := fun _ ds => decide (uptoBulkAll ds ≤ 1048576)
def OpenSpec.upto (s : _root_.Go.ChangeSpec) : _root_.Go.OpenSpec := { _root_.Go.OpenSpec.ofChange s with cond := some uptoSmall }

/-- 'laws.FnExactTermText', WHERE WHAT IT READS IS OF BULK AT MOST 1048576: true; the input reads as it did. -/
def fnExactTermTextUptoRow : OpenClaim := { program := "ytkaoafdemckagaa", sum := "dfc4d397a04103ececc235cdafbc2e6b67ac04cdb176d1013d0a09f161f4c753", func := "loop.example/g00653/laws.FnExactTermText", spec := "fnExactTermText", inPlace := ["internal/abi.NoEscape", "internal/bytealg.MakeNoZero"], unfollowed := true, recurses := true, apart := false, narrowed := true }
def FnExactTermTextUptoSaid : Prop := fnExactTermTextUptoRow.holds Try.pinned (OpenSpec.upto fnExactTermTextSpec)

/-- 'laws.FnExactEquationFault', WHERE WHAT IT READS IS OF BULK AT MOST 1048576: true; the input reads as it did. -/
def fnExactEquationFaultUptoRow : OpenClaim := { program := "ytkaoafdemckagaa", sum := "dfc4d397a04103ececc235cdafbc2e6b67ac04cdb176d1013d0a09f161f4c753", func := "loop.example/g00653/laws.FnExactEquationFault", spec := "fnExactEquationFault", unfollowed := true, recurses := true, apart := false, narrowed := true }
def FnExactEquationFaultUptoSaid : Prop := fnExactEquationFaultUptoRow.holds Try.pinned (OpenSpec.upto fnExactEquationFaultSpec)

/-- 'laws.FnExactEquationText', WHERE WHAT IT READS IS OF BULK AT MOST 1048576: true; the input reads as it did. -/
def fnExactEquationTextUptoRow : OpenClaim := { program := "ytkaoafdemckagaa", sum := "dfc4d397a04103ececc235cdafbc2e6b67ac04cdb176d1013d0a09f161f4c753", func := "loop.example/g00653/laws.FnExactEquationText", spec := "fnExactEquationText", inPlace := ["internal/abi.NoEscape", "internal/bytealg.MakeNoZero"], unfollowed := true, recurses := true, apart := false, narrowed := true }
def FnExactEquationTextUptoSaid : Prop := fnExactEquationTextUptoRow.holds Try.pinned (OpenSpec.upto fnExactEquationTextSpec)

/-- 'laws.FnExactPlainEquation', WHERE WHAT IT READS IS OF BULK AT MOST 1048576: true; the input reads as it did. -/
def fnExactPlainEquationUptoRow : OpenClaim := { program := "ytkaoafdemckagaa", sum := "dfc4d397a04103ececc235cdafbc2e6b67ac04cdb176d1013d0a09f161f4c753", func := "loop.example/g00653/laws.FnExactPlainEquation", spec := "fnExactPlainEquation", unfollowed := true, recurses := true, apart := false, narrowed := true }
def FnExactPlainEquationUptoSaid : Prop := fnExactPlainEquationUptoRow.holds Try.pinned (OpenSpec.upto fnExactPlainEquationSpec)

/-- 'laws.FnExactSameEquations', WHERE WHAT IT READS IS OF BULK AT MOST 1048576: true; the input reads as it did. -/
def fnExactSameEquationsUptoRow : OpenClaim := { program := "ytkaoafdemckagaa", sum := "dfc4d397a04103ececc235cdafbc2e6b67ac04cdb176d1013d0a09f161f4c753", func := "loop.example/g00653/laws.FnExactSameEquations", spec := "fnExactSameEquations", unfollowed := true, recurses := true, apart := false, narrowed := true }
def FnExactSameEquationsUptoSaid : Prop := fnExactSameEquationsUptoRow.holds Try.pinned (OpenSpec.upto fnExactSameEquationsSpec)

end Rows
end Go.Proofs.Ytkaoafdemckagaa
