/-
  No cell of these rows narrows 'for every input' (looked for: loops, veiled, ifaces, maps, wideKeys, modest, calm, conditions, laid).
  DERIVED. THE GIVEN ROWS OF THIS SEAT. 7 by the template 'for every input the law returns true; each argument reads behind the call as it read before'; 0 by the template 'total and deterministic' (their statements: YtmoahjkfcfojoaaTotals.lean).
  GIVEN WITH THE SEED: the statements are not yours to turn. If you find one false, say at which input.
  Laid BY PROGRAM, IN A SANDBOX (cutbox-rows.mjs): the forced cells as the released guide's own fill.sh prints them over the translation c699badf21c79009… (all of the seat's roots in one cut). By AI agents, Wed Nov 11 2026. No macro, syntax, notation, axiom, sorry.
-/
import Derived.Test.YtmoahjkfcfojoaaChecked
import GoSem.Claim
import GoSem.ClaimJoined
import GoSem.ClaimMapViews
import Derived.JoinedTies
import Derived.KernelRfl
namespace Go.Proofs.Ytmoahjkfcfojoaa
/- THE CELL 'sum', in the pinned program and in every row, IS THE sha256 OF THE DUMP (.gsa) THAT YtmoahjkfcfojoaaProg.lean LOADS. Nothing in Lean hashes anything: it is a label: what it is worth is what the hold of that sum in a sandbox is worth. -/
noncomputable def Try.pinned : Pinned := { name := "ytmoahjkfcfojoaa", sum := "c699badf21c790096afe647816d8952fd40ee4ca655f54862df6f82803865bad", checked := Try.checked }
namespace Rows
def none {H : Type} : Left H := { results := [], args := [] }

/-- 'laws.FnExactBindingFault': WHATEVER THE INPUT: true; the input reads as it did. -/
def fnExactBindingFaultSpec : ChangeSpec := { name := "fnExactBindingFault", fn := fun _ => fun
  | [d1, d2] => { results := [.lit (.bool true)], args := [d1, d2] }
  | _ => none }
def fnExactBindingFaultRow : OpenClaim := { program := "ytmoahjkfcfojoaa", sum := "c699badf21c790096afe647816d8952fd40ee4ca655f54862df6f82803865bad", func := "loop.example/g00653/laws.FnExactBindingFault", spec := "fnExactBindingFault", unfollowed := true, recurses := true, apart := false }
def FnExactBindingFaultSaid : Prop := fnExactBindingFaultRow.holds Try.pinned (OpenSpec.ofChange fnExactBindingFaultSpec)

/-- ITS FALSE NEIGHBOUR: 'it returns false'. Refute it at one input. -/
def fnExactBindingFaultWrong : ChangeSpec := { name := "fnExactBindingFault", fn := fun _ => fun
  | [d1, d2] => { results := [.lit (.bool false)], args := [d1, d2] }
  | _ => none }
def FnExactBindingFaultWrongFalsely : Prop := fnExactBindingFaultRow.holds Try.pinned (OpenSpec.ofChange fnExactBindingFaultWrong)

/-- 'laws.FnExactApplyBinding': WHATEVER THE INPUT: true; the input reads as it did. -/
def fnExactApplyBindingSpec : ChangeSpec := { name := "fnExactApplyBinding", fn := fun _ => fun
  | [d1, d2, d3] => { results := [.lit (.bool true)], args := [d1, d2, d3] }
  | _ => none }
def fnExactApplyBindingRow : OpenClaim := { program := "ytmoahjkfcfojoaa", sum := "c699badf21c790096afe647816d8952fd40ee4ca655f54862df6f82803865bad", func := "loop.example/g00653/laws.FnExactApplyBinding", spec := "fnExactApplyBinding", unfollowed := true, recurses := true, apart := false }
def FnExactApplyBindingSaid : Prop := fnExactApplyBindingRow.holds Try.pinned (OpenSpec.ofChange fnExactApplyBindingSpec)

/-- ITS FALSE NEIGHBOUR: 'it returns false'. Refute it at one input. -/
def fnExactApplyBindingWrong : ChangeSpec := { name := "fnExactApplyBinding", fn := fun _ => fun
  | [d1, d2, d3] => { results := [.lit (.bool false)], args := [d1, d2, d3] }
  | _ => none }
def FnExactApplyBindingWrongFalsely : Prop := fnExactApplyBindingRow.holds Try.pinned (OpenSpec.ofChange fnExactApplyBindingWrong)

/-- 'laws.FnExactMatchTerm': WHATEVER THE INPUT: true; the input reads as it did. -/
def fnExactMatchTermSpec : ChangeSpec := { name := "fnExactMatchTerm", fn := fun _ => fun
  | [d1, d2, d3] => { results := [.lit (.bool true)], args := [d1, d2, d3] }
  | _ => none }
def fnExactMatchTermRow : OpenClaim := { program := "ytmoahjkfcfojoaa", sum := "c699badf21c790096afe647816d8952fd40ee4ca655f54862df6f82803865bad", func := "loop.example/g00653/laws.FnExactMatchTerm", spec := "fnExactMatchTerm", unfollowed := true, recurses := true, apart := false }
def FnExactMatchTermSaid : Prop := fnExactMatchTermRow.holds Try.pinned (OpenSpec.ofChange fnExactMatchTermSpec)

/-- ITS FALSE NEIGHBOUR: 'it returns false'. Refute it at one input. -/
def fnExactMatchTermWrong : ChangeSpec := { name := "fnExactMatchTerm", fn := fun _ => fun
  | [d1, d2, d3] => { results := [.lit (.bool false)], args := [d1, d2, d3] }
  | _ => none }
def FnExactMatchTermWrongFalsely : Prop := fnExactMatchTermRow.holds Try.pinned (OpenSpec.ofChange fnExactMatchTermWrong)

/-- 'laws.FnExactUnifyTerms': WHATEVER THE INPUT: true; the input reads as it did. -/
def fnExactUnifyTermsSpec : ChangeSpec := { name := "fnExactUnifyTerms", fn := fun _ => fun
  | [d1, d2, d3] => { results := [.lit (.bool true)], args := [d1, d2, d3] }
  | _ => none }
def fnExactUnifyTermsRow : OpenClaim := { program := "ytmoahjkfcfojoaa", sum := "c699badf21c790096afe647816d8952fd40ee4ca655f54862df6f82803865bad", func := "loop.example/g00653/laws.FnExactUnifyTerms", spec := "fnExactUnifyTerms", unfollowed := true, recurses := true, apart := false }
def FnExactUnifyTermsSaid : Prop := fnExactUnifyTermsRow.holds Try.pinned (OpenSpec.ofChange fnExactUnifyTermsSpec)

/-- ITS FALSE NEIGHBOUR: 'it returns false'. Refute it at one input. -/
def fnExactUnifyTermsWrong : ChangeSpec := { name := "fnExactUnifyTerms", fn := fun _ => fun
  | [d1, d2, d3] => { results := [.lit (.bool false)], args := [d1, d2, d3] }
  | _ => none }
def FnExactUnifyTermsWrongFalsely : Prop := fnExactUnifyTermsRow.holds Try.pinned (OpenSpec.ofChange fnExactUnifyTermsWrong)

/-- 'laws.FnExactShiftTerm': WHATEVER THE INPUT: true; the input reads as it did. -/
def fnExactShiftTermSpec : ChangeSpec := { name := "fnExactShiftTerm", fn := fun _ => fun
  | [d1, d2, d3] => { results := [.lit (.bool true)], args := [d1, d2, d3] }
  | _ => none }
def fnExactShiftTermRow : OpenClaim := { program := "ytmoahjkfcfojoaa", sum := "c699badf21c790096afe647816d8952fd40ee4ca655f54862df6f82803865bad", func := "loop.example/g00653/laws.FnExactShiftTerm", spec := "fnExactShiftTerm", unfollowed := true, recurses := true, apart := false }
def FnExactShiftTermSaid : Prop := fnExactShiftTermRow.holds Try.pinned (OpenSpec.ofChange fnExactShiftTermSpec)

/-- ITS FALSE NEIGHBOUR: 'it returns false'. Refute it at one input. -/
def fnExactShiftTermWrong : ChangeSpec := { name := "fnExactShiftTerm", fn := fun _ => fun
  | [d1, d2, d3] => { results := [.lit (.bool false)], args := [d1, d2, d3] }
  | _ => none }
def FnExactShiftTermWrongFalsely : Prop := fnExactShiftTermRow.holds Try.pinned (OpenSpec.ofChange fnExactShiftTermWrong)

/-- 'laws.FnExactThenBinding': WHATEVER THE INPUT: true; the input reads as it did. -/
def fnExactThenBindingSpec : ChangeSpec := { name := "fnExactThenBinding", fn := fun _ => fun
  | [d1, d2, d3] => { results := [.lit (.bool true)], args := [d1, d2, d3] }
  | _ => none }
def fnExactThenBindingRow : OpenClaim := { program := "ytmoahjkfcfojoaa", sum := "c699badf21c790096afe647816d8952fd40ee4ca655f54862df6f82803865bad", func := "loop.example/g00653/laws.FnExactThenBinding", spec := "fnExactThenBinding", unfollowed := true, recurses := true, apart := false }
def FnExactThenBindingSaid : Prop := fnExactThenBindingRow.holds Try.pinned (OpenSpec.ofChange fnExactThenBindingSpec)

/-- ITS FALSE NEIGHBOUR: 'it returns false'. Refute it at one input. -/
def fnExactThenBindingWrong : ChangeSpec := { name := "fnExactThenBinding", fn := fun _ => fun
  | [d1, d2, d3] => { results := [.lit (.bool false)], args := [d1, d2, d3] }
  | _ => none }
def FnExactThenBindingWrongFalsely : Prop := fnExactThenBindingRow.holds Try.pinned (OpenSpec.ofChange fnExactThenBindingWrong)

/-- 'laws.FnExactSameBindings': WHATEVER THE INPUT: true; the input reads as it did. -/
def fnExactSameBindingsSpec : ChangeSpec := { name := "fnExactSameBindings", fn := fun _ => fun
  | [d1, d2] => { results := [.lit (.bool true)], args := [d1, d2] }
  | _ => none }
def fnExactSameBindingsRow : OpenClaim := { program := "ytmoahjkfcfojoaa", sum := "c699badf21c790096afe647816d8952fd40ee4ca655f54862df6f82803865bad", func := "loop.example/g00653/laws.FnExactSameBindings", spec := "fnExactSameBindings", unfollowed := true, recurses := true, apart := false }
def FnExactSameBindingsSaid : Prop := fnExactSameBindingsRow.holds Try.pinned (OpenSpec.ofChange fnExactSameBindingsSpec)

/-- ITS FALSE NEIGHBOUR: 'it returns false'. Refute it at one input. -/
def fnExactSameBindingsWrong : ChangeSpec := { name := "fnExactSameBindings", fn := fun _ => fun
  | [d1, d2] => { results := [.lit (.bool false)], args := [d1, d2] }
  | _ => none }
def FnExactSameBindingsWrongFalsely : Prop := fnExactSameBindingsRow.holds Try.pinned (OpenSpec.ofChange fnExactSameBindingsWrong)

/- THE SECOND FORM. 'bulk': how many values and letters a reading holds, each counted each time it is reached (what is shared counts as often as it is met; a slice's spare places count too). A statement '..UptoSaid' is the law's where the arguments, and the package variables that the reading takes, are together of bulk at most 1048576: NARROWER than '..Said'. Prove '..Said' where nothing that the law and all that it calls make is longer than what came in: it says more and counts as full. Else prove '..UptoSaid'. A law counts once. -/
mutual
def uptoBulk {H : Type} : DataW H → Nat
  | .lit (.string bytes) => bytes.length + 1
  | .lit _ => 1
  | .nil => 1
  | .ptr d => uptoBulk d + 1
  | .slice elems spare => uptoBulkAll elems + uptoBulkAll spare + 1
  | .agg parts => uptoBulkAll parts + 1
  | .iface _ d => uptoBulk d + 1
  | .map entries => uptoBulkEntries entries + 1
  | .held _ => 1
def uptoBulkAll {H : Type} : List (DataW H) → Nat
  | [] => 0
  | d :: r => uptoBulk d + uptoBulkAll r
def uptoBulkEntries {H : Type} : List (Lit × DataW H) → Nat
  | [] => 0
  | x :: r => uptoBulkEntry x + uptoBulkEntries r
def uptoBulkEntry {H : Type} : Lit × DataW H → Nat
  | (.string bytes, d) => bytes.length + uptoBulk d + 1
  | (_, d) => uptoBulk d + 1
 end
def uptoSmall : (H : Type) → List (DataW H) → Bool := fun _ ds => decide (uptoBulkAll ds ≤ 1048576)
def OpenSpec.upto (s : _root_.Go.ChangeSpec) : _root_.Go.OpenSpec := { _root_.Go.OpenSpec.ofChange s with cond := some uptoSmall }

/-- 'laws.FnExactBindingFault', WHERE WHAT IT READS IS OF BULK AT MOST 1048576: true; the input reads as it did. -/
def fnExactBindingFaultUptoRow : OpenClaim := { program := "ytmoahjkfcfojoaa", sum := "c699badf21c790096afe647816d8952fd40ee4ca655f54862df6f82803865bad", func := "loop.example/g00653/laws.FnExactBindingFault", spec := "fnExactBindingFault", unfollowed := true, recurses := true, apart := false, narrowed := true }
def FnExactBindingFaultUptoSaid : Prop := fnExactBindingFaultUptoRow.holds Try.pinned (OpenSpec.upto fnExactBindingFaultSpec)

/-- 'laws.FnExactApplyBinding', WHERE WHAT IT READS IS OF BULK AT MOST 1048576: true; the input reads as it did. -/
def fnExactApplyBindingUptoRow : OpenClaim := { program := "ytmoahjkfcfojoaa", sum := "c699badf21c790096afe647816d8952fd40ee4ca655f54862df6f82803865bad", func := "loop.example/g00653/laws.FnExactApplyBinding", spec := "fnExactApplyBinding", unfollowed := true, recurses := true, apart := false, narrowed := true }
def FnExactApplyBindingUptoSaid : Prop := fnExactApplyBindingUptoRow.holds Try.pinned (OpenSpec.upto fnExactApplyBindingSpec)

/-- 'laws.FnExactMatchTerm', WHERE WHAT IT READS IS OF BULK AT MOST 1048576: true; the input reads as it did. -/
def fnExactMatchTermUptoRow : OpenClaim := { program := "ytmoahjkfcfojoaa", sum := "c699badf21c790096afe647816d8952fd40ee4ca655f54862df6f82803865bad", func := "loop.example/g00653/laws.FnExactMatchTerm", spec := "fnExactMatchTerm", unfollowed := true, recurses := true, apart := false, narrowed := true }
def FnExactMatchTermUptoSaid : Prop := fnExactMatchTermUptoRow.holds Try.pinned (OpenSpec.upto fnExactMatchTermSpec)

/-- 'laws.FnExactUnifyTerms', WHERE WHAT IT READS IS OF BULK AT MOST 1048576: true; the input reads as it did. -/
def fnExactUnifyTermsUptoRow : OpenClaim := { program := "ytmoahjkfcfojoaa", sum := "c699badf21c790096afe647816d8952fd40ee4ca655f54862df6f82803865bad", func := "loop.example/g00653/laws.FnExactUnifyTerms", spec := "fnExactUnifyTerms", unfollowed := true, recurses := true, apart := false, narrowed := true }
def FnExactUnifyTermsUptoSaid : Prop := fnExactUnifyTermsUptoRow.holds Try.pinned (OpenSpec.upto fnExactUnifyTermsSpec)

/-- 'laws.FnExactShiftTerm', WHERE WHAT IT READS IS OF BULK AT MOST 1048576: true; the input reads as it did. -/
def fnExactShiftTermUptoRow : OpenClaim := { program := "ytmoahjkfcfojoaa", sum := "c699badf21c790096afe647816d8952fd40ee4ca655f54862df6f82803865bad", func := "loop.example/g00653/laws.FnExactShiftTerm", spec := "fnExactShiftTerm", unfollowed := true, recurses := true, apart := false, narrowed := true }
def FnExactShiftTermUptoSaid : Prop := fnExactShiftTermUptoRow.holds Try.pinned (OpenSpec.upto fnExactShiftTermSpec)

/-- 'laws.FnExactThenBinding', WHERE WHAT IT READS IS OF BULK AT MOST 1048576: true; the input reads as it did. -/
def fnExactThenBindingUptoRow : OpenClaim := { program := "ytmoahjkfcfojoaa", sum := "c699badf21c790096afe647816d8952fd40ee4ca655f54862df6f82803865bad", func := "loop.example/g00653/laws.FnExactThenBinding", spec := "fnExactThenBinding", unfollowed := true, recurses := true, apart := false, narrowed := true }
def FnExactThenBindingUptoSaid : Prop := fnExactThenBindingUptoRow.holds Try.pinned (OpenSpec.upto fnExactThenBindingSpec)

/-- 'laws.FnExactSameBindings', WHERE WHAT IT READS IS OF BULK AT MOST 1048576: true; the input reads as it did. -/
def fnExactSameBindingsUptoRow : OpenClaim := { program := "ytmoahjkfcfojoaa", sum := "c699badf21c790096afe647816d8952fd40ee4ca655f54862df6f82803865bad", func := "loop.example/g00653/laws.FnExactSameBindings", spec := "fnExactSameBindings", unfollowed := true, recurses := true, apart := false, narrowed := true }
def FnExactSameBindingsUptoSaid : Prop := fnExactSameBindingsUptoRow.holds Try.pinned (OpenSpec.upto fnExactSameBindingsSpec)

end Rows
end Go.Proofs.Ytmoahjkfcfojoaa
