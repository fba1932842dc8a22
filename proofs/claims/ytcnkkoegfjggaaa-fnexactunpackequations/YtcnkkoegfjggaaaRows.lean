/-
  No cell of these rows narrows 'for every input' (looked for: loops, veiled, ifaces, maps, wideKeys, modest, calm, conditions, laid).
  DERIVED. THE GIVEN ROWS OF THIS SEAT. 4 by the template 'for every input the law returns true; each argument reads behind the call as it read before'; 0 by the template 'total and deterministic' (their statements: YtcnkkoegfjggaaaTotals.lean).
  GIVEN WITH THE SEED: the statements are not yours to turn. If you find one false, say at which input.
  Laid BY PROGRAM, IN A SANDBOX (cutbox-rows.mjs): the forced cells as the released guide's own fill.sh prints them over the translation 52c52b84030d404d… (all of the seat's roots in one cut). By AI agents, Wed Nov 11 2026. No macro, syntax, notation, axiom, sorry.
-/
import Derived.Test.YtcnkkoegfjggaaaChecked
import GoSem.Claim
import GoSem.ClaimJoined
import GoSem.ClaimMapViews
import Derived.JoinedTies
import Derived.KernelRfl
namespace Go.Proofs.Ytcnkkoegfjggaaa
/- THE CELL 'sum', in the pinned program and in every row, IS THE sha256 OF THE DUMP (.gsa) THAT YtcnkkoegfjggaaaProg.lean LOADS. Nothing in Lean hashes anything: it is a label: what it is worth is what the hold of that sum in a sandbox is worth. -/
noncomputable def Try.pinned : Pinned := { name := "ytcnkkoegfjggaaa", sum := "52c52b84030d404dc85556fd20eb50326e0e332b4cf149ffb3236ed49f4201f1", checked := Try.checked }
namespace Rows
def none {H : Type} : Left H := { results := [], args := [] }

/-- 'laws.FnExactSubtermAt': WHATEVER THE INPUT: true; the input reads as it did. -/
def fnExactSubtermAtSpec : ChangeSpec := { name := "fnExactSubtermAt", fn := fun _ => fun
  | [d1, d2, d3] => { results := [.lit (.bool true)], args := [d1, d2, d3] }
  | _ => none }
def fnExactSubtermAtRow : OpenClaim := { program := "ytcnkkoegfjggaaa", sum := "52c52b84030d404dc85556fd20eb50326e0e332b4cf149ffb3236ed49f4201f1", func := "loop.example/g00653/laws.FnExactSubtermAt", spec := "fnExactSubtermAt", unfollowed := true, recurses := true, apart := false }
def FnExactSubtermAtSaid : Prop := fnExactSubtermAtRow.holds Try.pinned (OpenSpec.ofChange fnExactSubtermAtSpec)

/-- ITS FALSE NEIGHBOUR: 'it returns false'. Refute it at one input. -/
def fnExactSubtermAtWrong : ChangeSpec := { name := "fnExactSubtermAt", fn := fun _ => fun
  | [d1, d2, d3] => { results := [.lit (.bool false)], args := [d1, d2, d3] }
  | _ => none }
def FnExactSubtermAtWrongFalsely : Prop := fnExactSubtermAtRow.holds Try.pinned (OpenSpec.ofChange fnExactSubtermAtWrong)

/-- 'laws.FnExactUnpackTerm': WHATEVER THE INPUT: true; the input reads as it did. -/
def fnExactUnpackTermSpec : ChangeSpec := { name := "fnExactUnpackTerm", fn := fun _ => fun
  | [d1, d2] => { results := [.lit (.bool true)], args := [d1, d2] }
  | _ => none }
def fnExactUnpackTermRow : OpenClaim := { program := "ytcnkkoegfjggaaa", sum := "52c52b84030d404dc85556fd20eb50326e0e332b4cf149ffb3236ed49f4201f1", func := "loop.example/g00653/laws.FnExactUnpackTerm", spec := "fnExactUnpackTerm", unfollowed := true, recurses := true, apart := false }
def FnExactUnpackTermSaid : Prop := fnExactUnpackTermRow.holds Try.pinned (OpenSpec.ofChange fnExactUnpackTermSpec)

/-- ITS FALSE NEIGHBOUR: 'it returns false'. Refute it at one input. -/
def fnExactUnpackTermWrong : ChangeSpec := { name := "fnExactUnpackTerm", fn := fun _ => fun
  | [d1, d2] => { results := [.lit (.bool false)], args := [d1, d2] }
  | _ => none }
def FnExactUnpackTermWrongFalsely : Prop := fnExactUnpackTermRow.holds Try.pinned (OpenSpec.ofChange fnExactUnpackTermWrong)

/-- 'laws.FnExactCutKey': WHATEVER THE INPUT: true; the input reads as it did. -/
def fnExactCutKeySpec : ChangeSpec := { name := "fnExactCutKey", fn := fun _ => fun
  | [d1, d2] => { results := [.lit (.bool true)], args := [d1, d2] }
  | _ => none }
def fnExactCutKeyRow : OpenClaim := { program := "ytcnkkoegfjggaaa", sum := "52c52b84030d404dc85556fd20eb50326e0e332b4cf149ffb3236ed49f4201f1", func := "loop.example/g00653/laws.FnExactCutKey", spec := "fnExactCutKey", unfollowed := true, recurses := true, apart := false }
def FnExactCutKeySaid : Prop := fnExactCutKeyRow.holds Try.pinned (OpenSpec.ofChange fnExactCutKeySpec)

/-- ITS FALSE NEIGHBOUR: 'it returns false'. Refute it at one input. -/
def fnExactCutKeyWrong : ChangeSpec := { name := "fnExactCutKey", fn := fun _ => fun
  | [d1, d2] => { results := [.lit (.bool false)], args := [d1, d2] }
  | _ => none }
def FnExactCutKeyWrongFalsely : Prop := fnExactCutKeyRow.holds Try.pinned (OpenSpec.ofChange fnExactCutKeyWrong)

/-- 'laws.FnExactUnpackEquations': WHATEVER THE INPUT: true; the input reads as it did. -/
def fnExactUnpackEquationsSpec : ChangeSpec := { name := "fnExactUnpackEquations", fn := fun _ => fun
  | [d1, d2] => { results := [.lit (.bool true)], args := [d1, d2] }
  | _ => none }
def fnExactUnpackEquationsRow : OpenClaim := { program := "ytcnkkoegfjggaaa", sum := "52c52b84030d404dc85556fd20eb50326e0e332b4cf149ffb3236ed49f4201f1", func := "loop.example/g00653/laws.FnExactUnpackEquations", spec := "fnExactUnpackEquations", unfollowed := true, recurses := true, apart := false }
def FnExactUnpackEquationsSaid : Prop := fnExactUnpackEquationsRow.holds Try.pinned (OpenSpec.ofChange fnExactUnpackEquationsSpec)

/-- ITS FALSE NEIGHBOUR: 'it returns false'. Refute it at one input. -/
def fnExactUnpackEquationsWrong : ChangeSpec := { name := "fnExactUnpackEquations", fn := fun _ => fun
  | [d1, d2] => { results := [.lit (.bool false)], args := [d1, d2] }
  | _ => none }
def FnExactUnpackEquationsWrongFalsely : Prop := fnExactUnpackEquationsRow.holds Try.pinned (OpenSpec.ofChange fnExactUnpackEquationsWrong)

/- THE SECOND FORM. 'bulk': how many values and letters a reading holds, each counted each time it is reached (what is shared counts as often as it is met; a slice's spare places count too). A statement '..UptoSaid' is the law's where the arguments, and the package variables that the reading takes, are together of bulk at most 1048576: NARROWER than '..Said'. Prove '..Said' where nothing that the law and all that it calls make is longer than what came in: it says more and counts as full. Else prove '..UptoSaid'. A law counts once. -/
mutual
def uptoBulk {H : Type} : DataW H → Nat
  | .lit (.string bytes) => bytes.length + 1
  | .lit _ => 1
  | .nil => 1
  | .ptr d => uptoBulk d + 1
  | .slice elems spare => uptoBulkAll elems + uptoBulkAll spare + 1
  | .agg parts => uptoBulkAll parts + 1
  | .iface _ d => uptoBulk d + 1
  | .map entries => uptoBulkEntries entries + 1
  | .held _ => 1
def uptoBulkAll {H : Type} : List (DataW H) → Nat
  | [] => 0
  | d :: r => uptoBulk d + uptoBulkAll r
def uptoBulkEntries {H : Type} : List (Lit × DataW H) → Nat
  | [] => 0
  | x :: r => uptoBulkEntry x + uptoBulkEntries r
def uptoBulkEntry {H : Type} : Lit × DataW H → Nat
  | (.string bytes, d) => bytes.length + uptoBulk d + 1
  | (_, d) => uptoBulk d + 1
 end
def uptoSmall : (H : Type) → List (DataW H) → Bool := fun _ ds => decide (uptoBulkAll ds ≤ 1048576)
def OpenSpec.upto (s : _root_.Go.ChangeSpec) : _root_.Go.OpenSpec := { _root_.Go.OpenSpec.ofChange s with cond := some uptoSmall }

/-- 'laws.FnExactSubtermAt', WHERE WHAT IT READS IS OF BULK AT MOST 1048576: true; the input reads as it did. -/
def fnExactSubtermAtUptoRow : OpenClaim := { program := "ytcnkkoegfjggaaa", sum := "52c52b84030d404dc85556fd20eb50326e0e332b4cf149ffb3236ed49f4201f1", func := "loop.example/g00653/laws.FnExactSubtermAt", spec := "fnExactSubtermAt", unfollowed := true, recurses := true, apart := false, narrowed := true }
def FnExactSubtermAtUptoSaid : Prop := fnExactSubtermAtUptoRow.holds Try.pinned (OpenSpec.upto fnExactSubtermAtSpec)

/-- 'laws.FnExactUnpackTerm', WHERE WHAT IT READS IS OF BULK AT MOST 1048576: true; the input reads as it did. -/
def fnExactUnpackTermUptoRow : OpenClaim := { program := "ytcnkkoegfjggaaa", sum := "52c52b84030d404dc85556fd20eb50326e0e332b4cf149ffb3236ed49f4201f1", func := "loop.example/g00653/laws.FnExactUnpackTerm", spec := "fnExactUnpackTerm", unfollowed := true, recurses := true, apart := false, narrowed := true }
def FnExactUnpackTermUptoSaid : Prop := fnExactUnpackTermUptoRow.holds Try.pinned (OpenSpec.upto fnExactUnpackTermSpec)

/-- 'laws.FnExactCutKey', WHERE WHAT IT READS IS OF BULK AT MOST 1048576: true; the input reads as it did. -/
def fnExactCutKeyUptoRow : OpenClaim := { program := "ytcnkkoegfjggaaa", sum := "52c52b84030d404dc85556fd20eb50326e0e332b4cf149ffb3236ed49f4201f1", func := "loop.example/g00653/laws.FnExactCutKey", spec := "fnExactCutKey", unfollowed := true, recurses := true, apart := false, narrowed := true }
def FnExactCutKeyUptoSaid : Prop := fnExactCutKeyUptoRow.holds Try.pinned (OpenSpec.upto fnExactCutKeySpec)

/-- 'laws.FnExactUnpackEquations', WHERE WHAT IT READS IS OF BULK AT MOST 1048576: true; the input reads as it did. -/
def fnExactUnpackEquationsUptoRow : OpenClaim := { program := "ytcnkkoegfjggaaa", sum := "52c52b84030d404dc85556fd20eb50326e0e332b4cf149ffb3236ed49f4201f1", func := "loop.example/g00653/laws.FnExactUnpackEquations", spec := "fnExactUnpackEquations", unfollowed := true, recurses := true, apart := false, narrowed := true }
def FnExactUnpackEquationsUptoSaid : Prop := fnExactUnpackEquationsUptoRow.holds Try.pinned (OpenSpec.upto fnExactUnpackEquationsSpec)

end Rows
end Go.Proofs.Ytcnkkoegfjggaaa
