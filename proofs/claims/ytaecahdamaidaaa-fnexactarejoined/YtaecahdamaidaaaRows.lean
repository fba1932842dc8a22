/-
  No cell of these rows narrows 'for every input' (looked for: loops, veiled, ifaces, maps, wideKeys, modest, calm, conditions, laid).
  DERIVED. THE GIVEN ROWS OF THIS SEAT. 6 by the template 'for every input the law returns true; each argument reads behind the call as it read before'; 0 by the template 'total and deterministic' (their statements: YtaecahdamaidaaaTotals.lean).
  GIVEN WITH THE SEED: the statements are not yours to turn. If you find one false, say at which input.
  Laid BY PROGRAM, IN A SANDBOX (cutbox-rows.mjs): the forced cells as the released guide's own fill.sh prints them over the translation bddb3e97463a88b5… (all of the seat's roots in one cut). By AI agents, Wed Nov 11 2026. No macro, syntax, notation, axiom, sorry.
-/
import Derived.Test.YtaecahdamaidaaaChecked
import GoSem.Claim
import GoSem.ClaimJoined
import GoSem.ClaimMapViews
import Derived.JoinedTies
import Derived.KernelRfl
namespace Go.Proofs.Ytaecahdamaidaaa
/- THE CELL 'sum', in the pinned program and in every row, IS THE sha256 OF THE DUMP (.gsa) THAT YtaecahdamaidaaaProg.lean LOADS. Nothing in Lean hashes anything: it is a label: what it is worth is what the hold of that sum in a sandbox is worth. -/
noncomputable def Try.pinned : Pinned := { name := "ytaecahdamaidaaa", sum := "bddb3e97463a88b59e6e91548194b6a1b0d86fea9022df80b1db5bf6681b4fd4", checked := Try.checked }
namespace Rows
def none {H : Type} : Left H := { results := [], args := [] }

/-- 'laws.FnExactMatchTerm': WHATEVER THE INPUT: true; the input reads as it did. -/
def fnExactMatchTermSpec : ChangeSpec := { name := "fnExactMatchTerm", fn := fun _ => fun
  | [d1, d2, d3] => { results := [.lit (.bool true)], args := [d1, d2, d3] }
  | _ => none }
def fnExactMatchTermRow : OpenClaim := { program := "ytaecahdamaidaaa", sum := "bddb3e97463a88b59e6e91548194b6a1b0d86fea9022df80b1db5bf6681b4fd4", func := "loop.example/g00653/laws.FnExactMatchTerm", spec := "fnExactMatchTerm", unfollowed := true, recurses := true, apart := false }
def FnExactMatchTermSaid : Prop := fnExactMatchTermRow.holds Try.pinned (OpenSpec.ofChange fnExactMatchTermSpec)

/-- ITS FALSE NEIGHBOUR: 'it returns false'. Refute it at one input. -/
def fnExactMatchTermWrong : ChangeSpec := { name := "fnExactMatchTerm", fn := fun _ => fun
  | [d1, d2, d3] => { results := [.lit (.bool false)], args := [d1, d2, d3] }
  | _ => none }
def FnExactMatchTermWrongFalsely : Prop := fnExactMatchTermRow.holds Try.pinned (OpenSpec.ofChange fnExactMatchTermWrong)

/-- 'laws.FnExactRulesFault': WHATEVER THE INPUT: true; the input reads as it did. -/
def fnExactRulesFaultSpec : ChangeSpec := { name := "fnExactRulesFault", fn := fun _ => fun
  | [d1, d2] => { results := [.lit (.bool true)], args := [d1, d2] }
  | _ => none }
def fnExactRulesFaultRow : OpenClaim := { program := "ytaecahdamaidaaa", sum := "bddb3e97463a88b59e6e91548194b6a1b0d86fea9022df80b1db5bf6681b4fd4", func := "loop.example/g00653/laws.FnExactRulesFault", spec := "fnExactRulesFault", unfollowed := true, recurses := true, apart := false }
def FnExactRulesFaultSaid : Prop := fnExactRulesFaultRow.holds Try.pinned (OpenSpec.ofChange fnExactRulesFaultSpec)

/-- ITS FALSE NEIGHBOUR: 'it returns false'. Refute it at one input. -/
def fnExactRulesFaultWrong : ChangeSpec := { name := "fnExactRulesFault", fn := fun _ => fun
  | [d1, d2] => { results := [.lit (.bool false)], args := [d1, d2] }
  | _ => none }
def FnExactRulesFaultWrongFalsely : Prop := fnExactRulesFaultRow.holds Try.pinned (OpenSpec.ofChange fnExactRulesFaultWrong)

/-- 'laws.FnExactFindRedex': WHATEVER THE INPUT: true; the input reads as it did. -/
def fnExactFindRedexSpec : ChangeSpec := { name := "fnExactFindRedex", fn := fun _ => fun
  | [d1, d2, d3] => { results := [.lit (.bool true)], args := [d1, d2, d3] }
  | _ => none }
def fnExactFindRedexRow : OpenClaim := { program := "ytaecahdamaidaaa", sum := "bddb3e97463a88b59e6e91548194b6a1b0d86fea9022df80b1db5bf6681b4fd4", func := "loop.example/g00653/laws.FnExactFindRedex", spec := "fnExactFindRedex", unfollowed := true, recurses := true, apart := false }
def FnExactFindRedexSaid : Prop := fnExactFindRedexRow.holds Try.pinned (OpenSpec.ofChange fnExactFindRedexSpec)

/-- ITS FALSE NEIGHBOUR: 'it returns false'. Refute it at one input. -/
def fnExactFindRedexWrong : ChangeSpec := { name := "fnExactFindRedex", fn := fun _ => fun
  | [d1, d2, d3] => { results := [.lit (.bool false)], args := [d1, d2, d3] }
  | _ => none }
def FnExactFindRedexWrongFalsely : Prop := fnExactFindRedexRow.holds Try.pinned (OpenSpec.ofChange fnExactFindRedexWrong)

/-- 'laws.FnExactRewriteAt': WHATEVER THE INPUT: true; the input reads as it did. -/
def fnExactRewriteAtSpec : ChangeSpec := { name := "fnExactRewriteAt", fn := fun _ => fun
  | [d1, d2, d3, d4, d5] => { results := [.lit (.bool true)], args := [d1, d2, d3, d4, d5] }
  | _ => none }
def fnExactRewriteAtRow : OpenClaim := { program := "ytaecahdamaidaaa", sum := "bddb3e97463a88b59e6e91548194b6a1b0d86fea9022df80b1db5bf6681b4fd4", func := "loop.example/g00653/laws.FnExactRewriteAt", spec := "fnExactRewriteAt", unfollowed := true, recurses := true, apart := false }
def FnExactRewriteAtSaid : Prop := fnExactRewriteAtRow.holds Try.pinned (OpenSpec.ofChange fnExactRewriteAtSpec)

/-- ITS FALSE NEIGHBOUR: 'it returns false'. Refute it at one input. -/
def fnExactRewriteAtWrong : ChangeSpec := { name := "fnExactRewriteAt", fn := fun _ => fun
  | [d1, d2, d3, d4, d5] => { results := [.lit (.bool false)], args := [d1, d2, d3, d4, d5] }
  | _ => none }
def FnExactRewriteAtWrongFalsely : Prop := fnExactRewriteAtRow.holds Try.pinned (OpenSpec.ofChange fnExactRewriteAtWrong)

/-- 'laws.FnExactIsNormal': WHATEVER THE INPUT: true; the input reads as it did. -/
def fnExactIsNormalSpec : ChangeSpec := { name := "fnExactIsNormal", fn := fun _ => fun
  | [d1, d2, d3] => { results := [.lit (.bool true)], args := [d1, d2, d3] }
  | _ => none }
def fnExactIsNormalRow : OpenClaim := { program := "ytaecahdamaidaaa", sum := "bddb3e97463a88b59e6e91548194b6a1b0d86fea9022df80b1db5bf6681b4fd4", func := "loop.example/g00653/laws.FnExactIsNormal", spec := "fnExactIsNormal", unfollowed := true, recurses := true, apart := false }
def FnExactIsNormalSaid : Prop := fnExactIsNormalRow.holds Try.pinned (OpenSpec.ofChange fnExactIsNormalSpec)

/-- ITS FALSE NEIGHBOUR: 'it returns false'. Refute it at one input. -/
def fnExactIsNormalWrong : ChangeSpec := { name := "fnExactIsNormal", fn := fun _ => fun
  | [d1, d2, d3] => { results := [.lit (.bool false)], args := [d1, d2, d3] }
  | _ => none }
def FnExactIsNormalWrongFalsely : Prop := fnExactIsNormalRow.holds Try.pinned (OpenSpec.ofChange fnExactIsNormalWrong)

/-- 'laws.FnExactAreJoined': WHATEVER THE INPUT: true; the input reads as it did. -/
def fnExactAreJoinedSpec : ChangeSpec := { name := "fnExactAreJoined", fn := fun _ => fun
  | [d1, d2, d3, d4, d5] => { results := [.lit (.bool true)], args := [d1, d2, d3, d4, d5] }
  | _ => none }
def fnExactAreJoinedRow : OpenClaim := { program := "ytaecahdamaidaaa", sum := "bddb3e97463a88b59e6e91548194b6a1b0d86fea9022df80b1db5bf6681b4fd4", func := "loop.example/g00653/laws.FnExactAreJoined", spec := "fnExactAreJoined", unfollowed := true, recurses := true, apart := false }
def FnExactAreJoinedSaid : Prop := fnExactAreJoinedRow.holds Try.pinned (OpenSpec.ofChange fnExactAreJoinedSpec)

/-- ITS FALSE NEIGHBOUR: 'it returns false'. Refute it at one input. -/
def fnExactAreJoinedWrong : ChangeSpec := { name := "fnExactAreJoined", fn := fun _ => fun
  | [d1, d2, d3, d4, d5] => { results := [.lit (.bool false)], args := [d1, d2, d3, d4, d5] }
  | _ => none }
def FnExactAreJoinedWrongFalsely : Prop := fnExactAreJoinedRow.holds Try.pinned (OpenSpec.ofChange fnExactAreJoinedWrong)

/- THE SECOND FORM. 'bulk': how many values and letters a reading holds, each counted each time it is reached (what is shared counts as often as it is met; a slice's spare places count too). A statement '..UptoSaid' is the law's where the arguments, and the package variables that the reading takes, are together of bulk at most 1048576: NARROWER than '..Said'. Prove '..Said' where nothing that the law and all that it calls make is longer than what came in: it says more and counts as full. Else prove '..UptoSaid'. A law counts once. -/
mutual
def uptoBulk {H : Type} : DataW H → Nat
  | .lit (.string bytes) => bytes.length + 1
  | .lit _ => 1
  | .nil => 1
  | .ptr d => uptoBulk d + 1
  | .slice elems spare => uptoBulkAll elems + uptoBulkAll spare + 1
  | .agg parts => uptoBulkAll parts + 1
  | .iface _ d => uptoBulk d + 1
  | .map entries => uptoBulkEntries entries + 1
  | .held _ => 1
def uptoBulkAll {H : Type} : List (DataW H) → Nat
  | [] => 0
  | d :: r => uptoBulk d + uptoBulkAll r
def uptoBulkEntries {H : Type} : List (Lit × DataW H) → Nat
  | [] => 0
  | x :: r => uptoBulkEntry x + uptoBulkEntries r
def uptoBulkEntry {H : Type} : Lit × DataW H → Nat
  | (.string bytes, d) => bytes.length + uptoBulk d + 1
  | (_, d) => uptoBulk d + 1
 end
def uptoSmall : (H : Type) → List (DataW H) → Bool := fun _ ds => decide (uptoBulkAll ds ≤ 1048576)
def OpenSpec.upto (s : _root_.Go.ChangeSpec) : _root_.Go.OpenSpec := { _root_.Go.OpenSpec.ofChange s with cond := some uptoSmall }

/-- 'laws.FnExactMatchTerm', WHERE WHAT IT READS IS OF BULK AT MOST 1048576: true; the input reads as it did. -/
def fnExactMatchTermUptoRow : OpenClaim := { program := "ytaecahdamaidaaa", sum := "bddb3e97463a88b59e6e91548194b6a1b0d86fea9022df80b1db5bf6681b4fd4", func := "loop.example/g00653/laws.FnExactMatchTerm", spec := "fnExactMatchTerm", unfollowed := true, recurses := true, apart := false, narrowed := true }
def FnExactMatchTermUptoSaid : Prop := fnExactMatchTermUptoRow.holds Try.pinned (OpenSpec.upto fnExactMatchTermSpec)

/-- 'laws.FnExactRulesFault', WHERE WHAT IT READS IS OF BULK AT MOST 1048576: true; the input reads as it did. -/
def fnExactRulesFaultUptoRow : OpenClaim := { program := "ytaecahdamaidaaa", sum := "bddb3e97463a88b59e6e91548194b6a1b0d86fea9022df80b1db5bf6681b4fd4", func := "loop.example/g00653/laws.FnExactRulesFault", spec := "fnExactRulesFault", unfollowed := true, recurses := true, apart := false, narrowed := true }
def FnExactRulesFaultUptoSaid : Prop := fnExactRulesFaultUptoRow.holds Try.pinned (OpenSpec.upto fnExactRulesFaultSpec)

/-- 'laws.FnExactFindRedex', WHERE WHAT IT READS IS OF BULK AT MOST 1048576: true; the input reads as it did. -/
def fnExactFindRedexUptoRow : OpenClaim := { program := "ytaecahdamaidaaa", sum := "bddb3e97463a88b59e6e91548194b6a1b0d86fea9022df80b1db5bf6681b4fd4", func := "loop.example/g00653/laws.FnExactFindRedex", spec := "fnExactFindRedex", unfollowed := true, recurses := true, apart := false, narrowed := true }
def FnExactFindRedexUptoSaid : Prop := fnExactFindRedexUptoRow.holds Try.pinned (OpenSpec.upto fnExactFindRedexSpec)

/-- 'laws.FnExactRewriteAt', WHERE WHAT IT READS IS OF BULK AT MOST 1048576: true; the input reads as it did. -/
def fnExactRewriteAtUptoRow : OpenClaim := { program := "ytaecahdamaidaaa", sum := "bddb3e97463a88b59e6e91548194b6a1b0d86fea9022df80b1db5bf6681b4fd4", func := "loop.example/g00653/laws.FnExactRewriteAt", spec := "fnExactRewriteAt", unfollowed := true, recurses := true, apart := false, narrowed := true }
def FnExactRewriteAtUptoSaid : Prop := fnExactRewriteAtUptoRow.holds Try.pinned (OpenSpec.upto fnExactRewriteAtSpec)

/-- 'laws.FnExactIsNormal', WHERE WHAT IT READS IS OF BULK AT MOST 1048576: true; the input reads as it did. -/
def fnExactIsNormalUptoRow : OpenClaim := { program := "ytaecahdamaidaaa", sum := "bddb3e97463a88b59e6e91548194b6a1b0d86fea9022df80b1db5bf6681b4fd4", func := "loop.example/g00653/laws.FnExactIsNormal", spec := "fnExactIsNormal", unfollowed := true, recurses := true, apart := false, narrowed := true }
def FnExactIsNormalUptoSaid : Prop := fnExactIsNormalUptoRow.holds Try.pinned (OpenSpec.upto fnExactIsNormalSpec)

/-- 'laws.FnExactAreJoined', WHERE WHAT IT READS IS OF BULK AT MOST 1048576: true; the input reads as it did. -/
def fnExactAreJoinedUptoRow : OpenClaim := { program := "ytaecahdamaidaaa", sum := "bddb3e97463a88b59e6e91548194b6a1b0d86fea9022df80b1db5bf6681b4fd4", func := "loop.example/g00653/laws.FnExactAreJoined", spec := "fnExactAreJoined", unfollowed := true, recurses := true, apart := false, narrowed := true }
def FnExactAreJoinedUptoSaid : Prop := fnExactAreJoinedUptoRow.holds Try.pinned (OpenSpec.upto fnExactAreJoinedSpec)

end Rows
end Go.Proofs.Ytaecahdamaidaaa
