/-
  No cell of these rows narrows 'for every input' (looked for: loops, veiled, ifaces, maps, wideKeys, modest, calm, conditions, laid).
  DERIVED. THE GIVEN ROWS OF THIS SEAT. 5 by the template 'for every input the law returns true; each argument reads behind the call as it read before'; 0 by the template 'total and deterministic' (their statements: YtfoknnnoaeplaabTotals.lean).
  GIVEN WITH THE SEED: the statements are not yours to turn. If you find one false, say at which input.
  Laid BY PROGRAM, IN A SANDBOX (cutbox-rows.mjs): the forced cells as the released guide's own fill.sh prints them over the translation 9b4a9af5630c5b1d… (all of the seat's roots in one cut). By AI agents, Wed Nov 11 2026. No macro, syntax, notation, axiom, sorry.
-/
import Derived.Test.YtfoknnnoaeplaabChecked
import GoSem.Claim
import GoSem.ClaimJoined
import GoSem.ClaimMapViews
import Derived.JoinedTies
import Derived.KernelRfl
namespace Go.Proofs.Ytfoknnnoaeplaab
/- THE CELL 'sum', in the pinned program and in every row, IS THE sha256 OF THE DUMP (.gsa) THAT YtfoknnnoaeplaabProg.lean LOADS. Nothing in Lean hashes anything: it is a label: what it is worth is what the hold of that sum in a sandbox is worth. -/
noncomputable def Try.pinned : Pinned := { name := "ytfoknnnoaeplaab", sum := "9b4a9af5630c5b1df4632755844239acbee62030e0513ec6b8f608e8eff63eae", checked := Try.checked }
namespace Rows
def none {H : Type} : Left H := { results := [], args := [] }

/-- 'laws.FnExactPackSignature': WHATEVER THE INPUT: true; the input reads as it did. -/
def fnExactPackSignatureSpec : ChangeSpec := { name := "fnExactPackSignature", fn := fun _ => fun
  | [d] => { results := [.lit (.bool true)], args := [d] }
  | _ => none }
def fnExactPackSignatureRow : OpenClaim := { program := "ytfoknnnoaeplaab", sum := "9b4a9af5630c5b1df4632755844239acbee62030e0513ec6b8f608e8eff63eae", func := "loop.example/g00653/laws.FnExactPackSignature", spec := "fnExactPackSignature", unfollowed := true, recurses := true, apart := false }
def FnExactPackSignatureSaid : Prop := fnExactPackSignatureRow.holds Try.pinned (OpenSpec.ofChange fnExactPackSignatureSpec)

/-- ITS FALSE NEIGHBOUR: 'it returns false'. Refute it at one input. -/
def fnExactPackSignatureWrong : ChangeSpec := { name := "fnExactPackSignature", fn := fun _ => fun
  | [d] => { results := [.lit (.bool false)], args := [d] }
  | _ => none }
def FnExactPackSignatureWrongFalsely : Prop := fnExactPackSignatureRow.holds Try.pinned (OpenSpec.ofChange fnExactPackSignatureWrong)

/-- 'laws.FnExactReadSignature': WHATEVER THE INPUT: true; the input reads as it did. -/
def fnExactReadSignatureSpec : ChangeSpec := { name := "fnExactReadSignature", fn := fun _ => fun
  | [d] => { results := [.lit (.bool true)], args := [d] }
  | _ => none }
def fnExactReadSignatureRow : OpenClaim := { program := "ytfoknnnoaeplaab", sum := "9b4a9af5630c5b1df4632755844239acbee62030e0513ec6b8f608e8eff63eae", func := "loop.example/g00653/laws.FnExactReadSignature", spec := "fnExactReadSignature", unfollowed := true, recurses := true, apart := false }
def FnExactReadSignatureSaid : Prop := fnExactReadSignatureRow.holds Try.pinned (OpenSpec.ofChange fnExactReadSignatureSpec)

/-- ITS FALSE NEIGHBOUR: 'it returns false'. Refute it at one input. -/
def fnExactReadSignatureWrong : ChangeSpec := { name := "fnExactReadSignature", fn := fun _ => fun
  | [d] => { results := [.lit (.bool false)], args := [d] }
  | _ => none }
def FnExactReadSignatureWrongFalsely : Prop := fnExactReadSignatureRow.holds Try.pinned (OpenSpec.ofChange fnExactReadSignatureWrong)

/-- 'laws.FnExactOrderFault': WHATEVER THE INPUT: true; the input reads as it did. -/
def fnExactOrderFaultSpec : ChangeSpec := { name := "fnExactOrderFault", fn := fun _ => fun
  | [d1, d2] => { results := [.lit (.bool true)], args := [d1, d2] }
  | _ => none }
def fnExactOrderFaultRow : OpenClaim := { program := "ytfoknnnoaeplaab", sum := "9b4a9af5630c5b1df4632755844239acbee62030e0513ec6b8f608e8eff63eae", func := "loop.example/g00653/laws.FnExactOrderFault", spec := "fnExactOrderFault", unfollowed := true, recurses := true, apart := false }
def FnExactOrderFaultSaid : Prop := fnExactOrderFaultRow.holds Try.pinned (OpenSpec.ofChange fnExactOrderFaultSpec)

/-- ITS FALSE NEIGHBOUR: 'it returns false'. Refute it at one input. -/
def fnExactOrderFaultWrong : ChangeSpec := { name := "fnExactOrderFault", fn := fun _ => fun
  | [d1, d2] => { results := [.lit (.bool false)], args := [d1, d2] }
  | _ => none }
def FnExactOrderFaultWrongFalsely : Prop := fnExactOrderFaultRow.holds Try.pinned (OpenSpec.ofChange fnExactOrderFaultWrong)

/-- 'laws.FnExactRankOf': WHATEVER THE INPUT: true; the input reads as it did. -/
def fnExactRankOfSpec : ChangeSpec := { name := "fnExactRankOf", fn := fun _ => fun
  | [d1, d2, d3] => { results := [.lit (.bool true)], args := [d1, d2, d3] }
  | _ => none }
def fnExactRankOfRow : OpenClaim := { program := "ytfoknnnoaeplaab", sum := "9b4a9af5630c5b1df4632755844239acbee62030e0513ec6b8f608e8eff63eae", func := "loop.example/g00653/laws.FnExactRankOf", spec := "fnExactRankOf", unfollowed := true, recurses := true, apart := false }
def FnExactRankOfSaid : Prop := fnExactRankOfRow.holds Try.pinned (OpenSpec.ofChange fnExactRankOfSpec)

/-- ITS FALSE NEIGHBOUR: 'it returns false'. Refute it at one input. -/
def fnExactRankOfWrong : ChangeSpec := { name := "fnExactRankOf", fn := fun _ => fun
  | [d1, d2, d3] => { results := [.lit (.bool false)], args := [d1, d2, d3] }
  | _ => none }
def FnExactRankOfWrongFalsely : Prop := fnExactRankOfRow.holds Try.pinned (OpenSpec.ofChange fnExactRankOfWrong)

/-- 'laws.FnExactRaiseSymbol': WHATEVER THE INPUT: true; the input reads as it did. -/
def fnExactRaiseSymbolSpec : ChangeSpec := { name := "fnExactRaiseSymbol", fn := fun _ => fun
  | [d1, d2, d3] => { results := [.lit (.bool true)], args := [d1, d2, d3] }
  | _ => none }
def fnExactRaiseSymbolRow : OpenClaim := { program := "ytfoknnnoaeplaab", sum := "9b4a9af5630c5b1df4632755844239acbee62030e0513ec6b8f608e8eff63eae", func := "loop.example/g00653/laws.FnExactRaiseSymbol", spec := "fnExactRaiseSymbol", unfollowed := true, recurses := true, apart := false }
def FnExactRaiseSymbolSaid : Prop := fnExactRaiseSymbolRow.holds Try.pinned (OpenSpec.ofChange fnExactRaiseSymbolSpec)

/-- ITS FALSE NEIGHBOUR: 'it returns false'. Refute it at one input. -/
def fnExactRaiseSymbolWrong : ChangeSpec := { name := "fnExactRaiseSymbol", fn := fun _ => fun
  | [d1, d2, d3] => { results := [.lit (.bool false)], args := [d1, d2, d3] }
  | _ => none }
def FnExactRaiseSymbolWrongFalsely : Prop := fnExactRaiseSymbolRow.holds Try.pinned (OpenSpec.ofChange fnExactRaiseSymbolWrong)

/- THE SECOND FORM. 'bulk': how many values and letters a reading holds, each counted each time it is reached (what is shared counts as often as it is met; a slice's spare places count too). A statement '..UptoSaid' is the law's where the arguments, and the package variables that the reading takes, are together of bulk at most 1048576: NARROWER than '..Said'. Prove '..Said' where nothing that the law and all that it calls make is longer than what came in: it says more and counts as full. Else prove '..UptoSaid'. A law counts once. -/
mutual
def uptoBulk {H : Type} : DataW H → Nat
  | .lit (.string bytes) => bytes.length + 1
  | .lit _ => 1
  | .nil => 1
  | .ptr d => uptoBulk d + 1
  | .slice elems spare => uptoBulkAll elems + uptoBulkAll spare + 1
  | .agg parts => uptoBulkAll parts + 1
  | .iface _ d => uptoBulk d + 1
  | .map entries => uptoBulkEntries entries + 1
  | .held _ => 1
def uptoBulkAll {H : Type} : List (DataW H) → Nat
  | [] => 0
  | d :: r => uptoBulk d + uptoBulkAll r
def uptoBulkEntries {H : Type} : List (Lit × DataW H) → Nat
  | [] => 0
  | x :: r => uptoBulkEntry x + uptoBulkEntries r
def uptoBulkEntry {H : Type} : Lit × DataW H → Nat
  | (.string bytes, d) => bytes.length + uptoBulk d + 1
  | (_, d) => uptoBulk d + 1
 end
def uptoSmall : (H : Type) → List (DataW H) → Bool := fun _ ds => decide (uptoBulkAll ds ≤ 1048576)
def OpenSpec.upto (s : _root_.Go.ChangeSpec) : _root_.Go.OpenSpec := { _root_.Go.OpenSpec.ofChange s with cond := some uptoSmall }

/-- 'laws.FnExactPackSignature', WHERE WHAT IT READS IS OF BULK AT MOST 1048576: true; the input reads as it did. -/
def fnExactPackSignatureUptoRow : OpenClaim := { program := "ytfoknnnoaeplaab", sum := "9b4a9af5630c5b1df4632755844239acbee62030e0513ec6b8f608e8eff63eae", func := "loop.example/g00653/laws.FnExactPackSignature", spec := "fnExactPackSignature", unfollowed := true, recurses := true, apart := false, narrowed := true }
def FnExactPackSignatureUptoSaid : Prop := fnExactPackSignatureUptoRow.holds Try.pinned (OpenSpec.upto fnExactPackSignatureSpec)

/-- 'laws.FnExactReadSignature', WHERE WHAT IT READS IS OF BULK AT MOST 1048576: true; the input reads as it did. -/
def fnExactReadSignatureUptoRow : OpenClaim := { program := "ytfoknnnoaeplaab", sum := "9b4a9af5630c5b1df4632755844239acbee62030e0513ec6b8f608e8eff63eae", func := "loop.example/g00653/laws.FnExactReadSignature", spec := "fnExactReadSignature", unfollowed := true, recurses := true, apart := false, narrowed := true }
def FnExactReadSignatureUptoSaid : Prop := fnExactReadSignatureUptoRow.holds Try.pinned (OpenSpec.upto fnExactReadSignatureSpec)

/-- 'laws.FnExactOrderFault', WHERE WHAT IT READS IS OF BULK AT MOST 1048576: true; the input reads as it did. -/
def fnExactOrderFaultUptoRow : OpenClaim := { program := "ytfoknnnoaeplaab", sum := "9b4a9af5630c5b1df4632755844239acbee62030e0513ec6b8f608e8eff63eae", func := "loop.example/g00653/laws.FnExactOrderFault", spec := "fnExactOrderFault", unfollowed := true, recurses := true, apart := false, narrowed := true }
def FnExactOrderFaultUptoSaid : Prop := fnExactOrderFaultUptoRow.holds Try.pinned (OpenSpec.upto fnExactOrderFaultSpec)

/-- 'laws.FnExactRankOf', WHERE WHAT IT READS IS OF BULK AT MOST 1048576: true; the input reads as it did. -/
def fnExactRankOfUptoRow : OpenClaim := { program := "ytfoknnnoaeplaab", sum := "9b4a9af5630c5b1df4632755844239acbee62030e0513ec6b8f608e8eff63eae", func := "loop.example/g00653/laws.FnExactRankOf", spec := "fnExactRankOf", unfollowed := true, recurses := true, apart := false, narrowed := true }
def FnExactRankOfUptoSaid : Prop := fnExactRankOfUptoRow.holds Try.pinned (OpenSpec.upto fnExactRankOfSpec)

/-- 'laws.FnExactRaiseSymbol', WHERE WHAT IT READS IS OF BULK AT MOST 1048576: true; the input reads as it did. -/
def fnExactRaiseSymbolUptoRow : OpenClaim := { program := "ytfoknnnoaeplaab", sum := "9b4a9af5630c5b1df4632755844239acbee62030e0513ec6b8f608e8eff63eae", func := "loop.example/g00653/laws.FnExactRaiseSymbol", spec := "fnExactRaiseSymbol", unfollowed := true, recurses := true, apart := false, narrowed := true }
def FnExactRaiseSymbolUptoSaid : Prop := fnExactRaiseSymbolUptoRow.holds Try.pinned (OpenSpec.upto fnExactRaiseSymbolSpec)

end Rows
end Go.Proofs.Ytfoknnnoaeplaab
