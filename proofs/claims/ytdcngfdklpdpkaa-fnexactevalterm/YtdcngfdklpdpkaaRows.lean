/-
  No cell of these rows narrows 'for every input' (looked for: loops, veiled, ifaces, maps, wideKeys, modest, calm, conditions, laid).
  DERIVED. THE GIVEN ROWS OF THIS SEAT. 5 by the template 'for every input the law returns true; each argument reads behind the call as it read before'; 0 by the template 'total and deterministic' (their statements: YtdcngfdklpdpkaaTotals.lean).
  GIVEN WITH THE SEED: the statements are not yours to turn. If you find one false, say at which input.
  Laid BY PROGRAM, IN A SANDBOX (cutbox-rows.mjs): the forced cells as the released guide's own fill.sh prints them over the translation acc8a1674830b1fd… (all of the seat's roots in one cut). By AI agents, Wed Nov 11 2026. No macro, syntax, notation, axiom, sorry.
-/
import Derived.Test.YtdcngfdklpdpkaaChecked
import GoSem.Claim
import GoSem.ClaimJoined
import GoSem.ClaimMapViews
import Derived.JoinedTies
import Derived.KernelRfl
namespace Go.Proofs.Ytdcngfdklpdpkaa
/- THE CELL 'sum', in the pinned program and in every row, IS THE sha256 OF THE DUMP (.gsa) THAT YtdcngfdklpdpkaaProg.lean LOADS. Nothing in Lean hashes anything: it is a label: what it is worth is what the hold of that sum in a sandbox is worth. -/
noncomputable def Try.pinned : Pinned := { name := "ytdcngfdklpdpkaa", sum := "acc8a1674830b1fdf0ec1d1d58c9e02d4e374ec64df547862b482d5bc50a0dce", checked := Try.checked }
namespace Rows
def none {H : Type} : Left H := { results := [], args := [] }

/-- 'laws.FnExactAlgebraFault': WHATEVER THE INPUT: true; the input reads as it did. -/
def fnExactAlgebraFaultSpec : ChangeSpec := { name := "fnExactAlgebraFault", fn := fun _ => fun
  | [d1, d2] => { results := [.lit (.bool true)], args := [d1, d2] }
  | _ => none }
def fnExactAlgebraFaultRow : OpenClaim := { program := "ytdcngfdklpdpkaa", sum := "acc8a1674830b1fdf0ec1d1d58c9e02d4e374ec64df547862b482d5bc50a0dce", func := "loop.example/g00653/laws.FnExactAlgebraFault", spec := "fnExactAlgebraFault", unfollowed := true, recurses := true, apart := false }
def FnExactAlgebraFaultSaid : Prop := fnExactAlgebraFaultRow.holds Try.pinned (OpenSpec.ofChange fnExactAlgebraFaultSpec)

/-- ITS FALSE NEIGHBOUR: 'it returns false'. Refute it at one input. -/
def fnExactAlgebraFaultWrong : ChangeSpec := { name := "fnExactAlgebraFault", fn := fun _ => fun
  | [d1, d2] => { results := [.lit (.bool false)], args := [d1, d2] }
  | _ => none }
def FnExactAlgebraFaultWrongFalsely : Prop := fnExactAlgebraFaultRow.holds Try.pinned (OpenSpec.ofChange fnExactAlgebraFaultWrong)

/-- 'laws.FnExactAlgebraOf': WHATEVER THE INPUT: true; the input reads as it did. -/
def fnExactAlgebraOfSpec : ChangeSpec := { name := "fnExactAlgebraOf", fn := fun _ => fun
  | [d1, d2, d3] => { results := [.lit (.bool true)], args := [d1, d2, d3] }
  | _ => none }
def fnExactAlgebraOfRow : OpenClaim := { program := "ytdcngfdklpdpkaa", sum := "acc8a1674830b1fdf0ec1d1d58c9e02d4e374ec64df547862b482d5bc50a0dce", func := "loop.example/g00653/laws.FnExactAlgebraOf", spec := "fnExactAlgebraOf", unfollowed := true, recurses := true, apart := false }
def FnExactAlgebraOfSaid : Prop := fnExactAlgebraOfRow.holds Try.pinned (OpenSpec.ofChange fnExactAlgebraOfSpec)

/-- ITS FALSE NEIGHBOUR: 'it returns false'. Refute it at one input. -/
def fnExactAlgebraOfWrong : ChangeSpec := { name := "fnExactAlgebraOf", fn := fun _ => fun
  | [d1, d2, d3] => { results := [.lit (.bool false)], args := [d1, d2, d3] }
  | _ => none }
def FnExactAlgebraOfWrongFalsely : Prop := fnExactAlgebraOfRow.holds Try.pinned (OpenSpec.ofChange fnExactAlgebraOfWrong)

/-- 'laws.FnExactEvalTerm': WHATEVER THE INPUT: true; the input reads as it did. -/
def fnExactEvalTermSpec : ChangeSpec := { name := "fnExactEvalTerm", fn := fun _ => fun
  | [d1, d2, d3, d4] => { results := [.lit (.bool true)], args := [d1, d2, d3, d4] }
  | _ => none }
def fnExactEvalTermRow : OpenClaim := { program := "ytdcngfdklpdpkaa", sum := "acc8a1674830b1fdf0ec1d1d58c9e02d4e374ec64df547862b482d5bc50a0dce", func := "loop.example/g00653/laws.FnExactEvalTerm", spec := "fnExactEvalTerm", unfollowed := true, recurses := true, apart := false }
def FnExactEvalTermSaid : Prop := fnExactEvalTermRow.holds Try.pinned (OpenSpec.ofChange fnExactEvalTermSpec)

/-- ITS FALSE NEIGHBOUR: 'it returns false'. Refute it at one input. -/
def fnExactEvalTermWrong : ChangeSpec := { name := "fnExactEvalTerm", fn := fun _ => fun
  | [d1, d2, d3, d4] => { results := [.lit (.bool false)], args := [d1, d2, d3, d4] }
  | _ => none }
def FnExactEvalTermWrongFalsely : Prop := fnExactEvalTermRow.holds Try.pinned (OpenSpec.ofChange fnExactEvalTermWrong)

/-- 'laws.FnExactHolds': WHATEVER THE INPUT: true; the input reads as it did. -/
def fnExactHoldsSpec : ChangeSpec := { name := "fnExactHolds", fn := fun _ => fun
  | [d1, d2, d3] => { results := [.lit (.bool true)], args := [d1, d2, d3] }
  | _ => none }
def fnExactHoldsRow : OpenClaim := { program := "ytdcngfdklpdpkaa", sum := "acc8a1674830b1fdf0ec1d1d58c9e02d4e374ec64df547862b482d5bc50a0dce", func := "loop.example/g00653/laws.FnExactHolds", spec := "fnExactHolds", unfollowed := true, recurses := true, apart := false }
def FnExactHoldsSaid : Prop := fnExactHoldsRow.holds Try.pinned (OpenSpec.ofChange fnExactHoldsSpec)

/-- ITS FALSE NEIGHBOUR: 'it returns false'. Refute it at one input. -/
def fnExactHoldsWrong : ChangeSpec := { name := "fnExactHolds", fn := fun _ => fun
  | [d1, d2, d3] => { results := [.lit (.bool false)], args := [d1, d2, d3] }
  | _ => none }
def FnExactHoldsWrongFalsely : Prop := fnExactHoldsRow.holds Try.pinned (OpenSpec.ofChange fnExactHoldsWrong)

/-- 'laws.FnExactAllHold': WHATEVER THE INPUT: true; the input reads as it did. -/
def fnExactAllHoldSpec : ChangeSpec := { name := "fnExactAllHold", fn := fun _ => fun
  | [d1, d2, d3] => { results := [.lit (.bool true)], args := [d1, d2, d3] }
  | _ => none }
def fnExactAllHoldRow : OpenClaim := { program := "ytdcngfdklpdpkaa", sum := "acc8a1674830b1fdf0ec1d1d58c9e02d4e374ec64df547862b482d5bc50a0dce", func := "loop.example/g00653/laws.FnExactAllHold", spec := "fnExactAllHold", unfollowed := true, recurses := true, apart := false }
def FnExactAllHoldSaid : Prop := fnExactAllHoldRow.holds Try.pinned (OpenSpec.ofChange fnExactAllHoldSpec)

/-- ITS FALSE NEIGHBOUR: 'it returns false'. Refute it at one input. -/
def fnExactAllHoldWrong : ChangeSpec := { name := "fnExactAllHold", fn := fun _ => fun
  | [d1, d2, d3] => { results := [.lit (.bool false)], args := [d1, d2, d3] }
  | _ => none }
def FnExactAllHoldWrongFalsely : Prop := fnExactAllHoldRow.holds Try.pinned (OpenSpec.ofChange fnExactAllHoldWrong)

/- THE SECOND FORM. 'bulk': how many values and letters a reading holds, each counted each time it is reached (what is shared counts as often as it is met; a slice's spare places count too). A statement '..UptoSaid' is the law's where the arguments, and the package variables that the reading takes, are together of bulk at most 1048576: NARROWER than '..Said'. Prove '..Said' where nothing that the law and all that it calls make is longer than what came in: it says more and counts as full. Else prove '..UptoSaid'. A law counts once. -/
mutual
def uptoBulk {H : Type} : DataW H → Nat
  | .lit (.string bytes) => bytes.length + 1
  | .lit _ => 1
  | .nil => 1
  | .ptr d => uptoBulk d + 1
  | .slice elems spare => uptoBulkAll elems + uptoBulkAll spare + 1
  | .agg parts => uptoBulkAll parts + 1
  | .iface _ d => uptoBulk d + 1
  | .map entries => uptoBulkEntries entries + 1
  | .held _ => 1
def uptoBulkAll {H : Type} : List (DataW H) → Nat
  | [] => 0
  | d :: r => uptoBulk d + uptoBulkAll r
def uptoBulkEntries {H : Type} : List (Lit × DataW H) → Nat
  | [] => 0
  | x :: r => uptoBulkEntry x + uptoBulkEntries r
def uptoBulkEntry {H : Type} : Lit × DataW H → Nat
  | (.string bytes, d) => bytes.length + uptoBulk d + 1
  | (_, d) => uptoBulk d + 1
 end
def uptoSmall : (H : Type) → List (DataW H) → Bool := fun _ ds => decide (uptoBulkAll ds ≤ 1048576)
def OpenSpec.upto (s : _root_.Go.ChangeSpec) : _root_.Go.OpenSpec := { _root_.Go.OpenSpec.ofChange s with cond := some uptoSmall }

/-- 'laws.FnExactAlgebraFault', WHERE WHAT IT READS IS OF BULK AT MOST 1048576: true; the input reads as it did. -/
def fnExactAlgebraFaultUptoRow : OpenClaim := { program := "ytdcngfdklpdpkaa", sum := "acc8a1674830b1fdf0ec1d1d58c9e02d4e374ec64df547862b482d5bc50a0dce", func := "loop.example/g00653/laws.FnExactAlgebraFault", spec := "fnExactAlgebraFault", unfollowed := true, recurses := true, apart := false, narrowed := true }
def FnExactAlgebraFaultUptoSaid : Prop := fnExactAlgebraFaultUptoRow.holds Try.pinned (OpenSpec.upto fnExactAlgebraFaultSpec)

/-- 'laws.FnExactAlgebraOf', WHERE WHAT IT READS IS OF BULK AT MOST 1048576: true; the input reads as it did. -/
def fnExactAlgebraOfUptoRow : OpenClaim := { program := "ytdcngfdklpdpkaa", sum := "acc8a1674830b1fdf0ec1d1d58c9e02d4e374ec64df547862b482d5bc50a0dce", func := "loop.example/g00653/laws.FnExactAlgebraOf", spec := "fnExactAlgebraOf", unfollowed := true, recurses := true, apart := false, narrowed := true }
def FnExactAlgebraOfUptoSaid : Prop := fnExactAlgebraOfUptoRow.holds Try.pinned (OpenSpec.upto fnExactAlgebraOfSpec)

/-- 'laws.FnExactEvalTerm', WHERE WHAT IT READS IS OF BULK AT MOST 1048576: true; the input reads as it did. -/
def fnExactEvalTermUptoRow : OpenClaim := { program := "ytdcngfdklpdpkaa", sum := "acc8a1674830b1fdf0ec1d1d58c9e02d4e374ec64df547862b482d5bc50a0dce", func := "loop.example/g00653/laws.FnExactEvalTerm", spec := "fnExactEvalTerm", unfollowed := true, recurses := true, apart := false, narrowed := true }
def FnExactEvalTermUptoSaid : Prop := fnExactEvalTermUptoRow.holds Try.pinned (OpenSpec.upto fnExactEvalTermSpec)

/-- 'laws.FnExactHolds', WHERE WHAT IT READS IS OF BULK AT MOST 1048576: true; the input reads as it did. -/
def fnExactHoldsUptoRow : OpenClaim := { program := "ytdcngfdklpdpkaa", sum := "acc8a1674830b1fdf0ec1d1d58c9e02d4e374ec64df547862b482d5bc50a0dce", func := "loop.example/g00653/laws.FnExactHolds", spec := "fnExactHolds", unfollowed := true, recurses := true, apart := false, narrowed := true }
def FnExactHoldsUptoSaid : Prop := fnExactHoldsUptoRow.holds Try.pinned (OpenSpec.upto fnExactHoldsSpec)

/-- 'laws.FnExactAllHold', WHERE WHAT IT READS IS OF BULK AT MOST 1048576: true; the input reads as it did. -/
def fnExactAllHoldUptoRow : OpenClaim := { program := "ytdcngfdklpdpkaa", sum := "acc8a1674830b1fdf0ec1d1d58c9e02d4e374ec64df547862b482d5bc50a0dce", func := "loop.example/g00653/laws.FnExactAllHold", spec := "fnExactAllHold", unfollowed := true, recurses := true, apart := false, narrowed := true }
def FnExactAllHoldUptoSaid : Prop := fnExactAllHoldUptoRow.holds Try.pinned (OpenSpec.upto fnExactAllHoldSpec)

end Rows
end Go.Proofs.Ytdcngfdklpdpkaa
