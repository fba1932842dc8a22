/-
  No cell of these rows narrows 'for every input' (looked for: loops, veiled, ifaces, maps, wideKeys, modest, calm, conditions, laid).
  DERIVED. THE GIVEN ROWS OF THIS SEAT. 10 by the template 'for every input the law returns true; each argument reads behind the call as it read before'; 0 by the template 'total and deterministic' (their statements: YtafhlkbjjjlkjaaTotals.lean).
  GIVEN WITH THE SEED: the statements are not yours to turn. If you find one false, say at which input.
  Laid BY PROGRAM, IN A SANDBOX (cutbox-rows.mjs): the forced cells as the released guide's own fill.sh prints them over the translation 224d1bb4aeddfac1… (all of the seat's roots in one cut). By AI agents, Wed Nov 11 2026. No macro, syntax, notation, axiom, sorry.
-/
import Derived.Test.YtafhlkbjjjlkjaaChecked
import GoSem.Claim
import GoSem.ClaimJoined
import GoSem.ClaimMapViews
import Derived.JoinedTies
import Derived.KernelRfl
namespace Go.Proofs.Ytafhlkbjjjlkjaa
/- THE CELL 'sum', in the pinned program and in every row, IS THE sha256 OF THE DUMP (.gsa) THAT YtafhlkbjjjlkjaaProg.lean LOADS. Nothing in Lean hashes anything: it is a label: what it is worth is what the hold of that sum in a sandbox is worth. -/
noncomputable def Try.pinned : Pinned := { name := "ytafhlkbjjjlkjaa", sum := "224d1bb4aeddfac15353464b1fb3f6757254131525f285b947276671648c4543", checked := Try.checked }
namespace Rows
def none {H : Type} : Left H := { results := [], args := [] }

/-- 'laws.FnPacks': WHATEVER THE INPUT: true; the input reads as it did. -/
def fnPacksSpec : ChangeSpec := { name := "fnPacks", fn := fun _ => fun
  | [d] => { results := [.lit (.bool true)], args := [d] }
  | _ => none }
def fnPacksRow : OpenClaim := { program := "ytafhlkbjjjlkjaa", sum := "224d1bb4aeddfac15353464b1fb3f6757254131525f285b947276671648c4543", func := "loop.example/g00653/laws.FnPacks", spec := "fnPacks", unfollowed := true, recurses := true, apart := false }
def FnPacksSaid : Prop := fnPacksRow.holds Try.pinned (OpenSpec.ofChange fnPacksSpec)

/-- ITS FALSE NEIGHBOUR: 'it returns false'. Refute it at one input. -/
def fnPacksWrong : ChangeSpec := { name := "fnPacks", fn := fun _ => fun
  | [d] => { results := [.lit (.bool false)], args := [d] }
  | _ => none }
def FnPacksWrongFalsely : Prop := fnPacksRow.holds Try.pinned (OpenSpec.ofChange fnPacksWrong)

/-- 'laws.FnKeys': WHATEVER THE INPUT: true; the input reads as it did. -/
def fnKeysSpec : ChangeSpec := { name := "fnKeys", fn := fun _ => fun
  | [d] => { results := [.lit (.bool true)], args := [d] }
  | _ => none }
def fnKeysRow : OpenClaim := { program := "ytafhlkbjjjlkjaa", sum := "224d1bb4aeddfac15353464b1fb3f6757254131525f285b947276671648c4543", func := "loop.example/g00653/laws.FnKeys", spec := "fnKeys", inPlace := ["internal/bytealg.Compare"], unfollowed := true, recurses := true, apart := false }
def FnKeysSaid : Prop := fnKeysRow.holds Try.pinned (OpenSpec.ofChange fnKeysSpec)

/-- ITS FALSE NEIGHBOUR: 'it returns false'. Refute it at one input. -/
def fnKeysWrong : ChangeSpec := { name := "fnKeys", fn := fun _ => fun
  | [d] => { results := [.lit (.bool false)], args := [d] }
  | _ => none }
def FnKeysWrongFalsely : Prop := fnKeysRow.holds Try.pinned (OpenSpec.ofChange fnKeysWrong)

/-- 'laws.FnLists': WHATEVER THE INPUT: true; the input reads as it did. -/
def fnListsSpec : ChangeSpec := { name := "fnLists", fn := fun _ => fun
  | [d] => { results := [.lit (.bool true)], args := [d] }
  | _ => none }
def fnListsRow : OpenClaim := { program := "ytafhlkbjjjlkjaa", sum := "224d1bb4aeddfac15353464b1fb3f6757254131525f285b947276671648c4543", func := "loop.example/g00653/laws.FnLists", spec := "fnLists", unfollowed := true, recurses := true, apart := false }
def FnListsSaid : Prop := fnListsRow.holds Try.pinned (OpenSpec.ofChange fnListsSpec)

/-- ITS FALSE NEIGHBOUR: 'it returns false'. Refute it at one input. -/
def fnListsWrong : ChangeSpec := { name := "fnLists", fn := fun _ => fun
  | [d] => { results := [.lit (.bool false)], args := [d] }
  | _ => none }
def FnListsWrongFalsely : Prop := fnListsRow.holds Try.pinned (OpenSpec.ofChange fnListsWrong)

/-- 'laws.FnExactPackTerm': WHATEVER THE INPUT: true; the input reads as it did. -/
def fnExactPackTermSpec : ChangeSpec := { name := "fnExactPackTerm", fn := fun _ => fun
  | [d1, d2] => { results := [.lit (.bool true)], args := [d1, d2] }
  | _ => none }
def fnExactPackTermRow : OpenClaim := { program := "ytafhlkbjjjlkjaa", sum := "224d1bb4aeddfac15353464b1fb3f6757254131525f285b947276671648c4543", func := "loop.example/g00653/laws.FnExactPackTerm", spec := "fnExactPackTerm", unfollowed := true, recurses := true, apart := false }
def FnExactPackTermSaid : Prop := fnExactPackTermRow.holds Try.pinned (OpenSpec.ofChange fnExactPackTermSpec)

/-- ITS FALSE NEIGHBOUR: 'it returns false'. Refute it at one input. -/
def fnExactPackTermWrong : ChangeSpec := { name := "fnExactPackTerm", fn := fun _ => fun
  | [d1, d2] => { results := [.lit (.bool false)], args := [d1, d2] }
  | _ => none }
def FnExactPackTermWrongFalsely : Prop := fnExactPackTermRow.holds Try.pinned (OpenSpec.ofChange fnExactPackTermWrong)

/-- 'laws.FnExactUnpackTerm': WHATEVER THE INPUT: true; the input reads as it did. -/
def fnExactUnpackTermSpec : ChangeSpec := { name := "fnExactUnpackTerm", fn := fun _ => fun
  | [d1, d2] => { results := [.lit (.bool true)], args := [d1, d2] }
  | _ => none }
def fnExactUnpackTermRow : OpenClaim := { program := "ytafhlkbjjjlkjaa", sum := "224d1bb4aeddfac15353464b1fb3f6757254131525f285b947276671648c4543", func := "loop.example/g00653/laws.FnExactUnpackTerm", spec := "fnExactUnpackTerm", unfollowed := true, recurses := true, apart := false }
def FnExactUnpackTermSaid : Prop := fnExactUnpackTermRow.holds Try.pinned (OpenSpec.ofChange fnExactUnpackTermSpec)

/-- ITS FALSE NEIGHBOUR: 'it returns false'. Refute it at one input. -/
def fnExactUnpackTermWrong : ChangeSpec := { name := "fnExactUnpackTerm", fn := fun _ => fun
  | [d1, d2] => { results := [.lit (.bool false)], args := [d1, d2] }
  | _ => none }
def FnExactUnpackTermWrongFalsely : Prop := fnExactUnpackTermRow.holds Try.pinned (OpenSpec.ofChange fnExactUnpackTermWrong)

/-- 'laws.FnExactKeyOf': WHATEVER THE INPUT: true; the input reads as it did. -/
def fnExactKeyOfSpec : ChangeSpec := { name := "fnExactKeyOf", fn := fun _ => fun
  | [d1, d2, d3] => { results := [.lit (.bool true)], args := [d1, d2, d3] }
  | _ => none }
def fnExactKeyOfRow : OpenClaim := { program := "ytafhlkbjjjlkjaa", sum := "224d1bb4aeddfac15353464b1fb3f6757254131525f285b947276671648c4543", func := "loop.example/g00653/laws.FnExactKeyOf", spec := "fnExactKeyOf", unfollowed := true, recurses := true, apart := false }
def FnExactKeyOfSaid : Prop := fnExactKeyOfRow.holds Try.pinned (OpenSpec.ofChange fnExactKeyOfSpec)

/-- ITS FALSE NEIGHBOUR: 'it returns false'. Refute it at one input. -/
def fnExactKeyOfWrong : ChangeSpec := { name := "fnExactKeyOf", fn := fun _ => fun
  | [d1, d2, d3] => { results := [.lit (.bool false)], args := [d1, d2, d3] }
  | _ => none }
def FnExactKeyOfWrongFalsely : Prop := fnExactKeyOfRow.holds Try.pinned (OpenSpec.ofChange fnExactKeyOfWrong)

/-- 'laws.FnExactCutKey': WHATEVER THE INPUT: true; the input reads as it did. -/
def fnExactCutKeySpec : ChangeSpec := { name := "fnExactCutKey", fn := fun _ => fun
  | [d1, d2] => { results := [.lit (.bool true)], args := [d1, d2] }
  | _ => none }
def fnExactCutKeyRow : OpenClaim := { program := "ytafhlkbjjjlkjaa", sum := "224d1bb4aeddfac15353464b1fb3f6757254131525f285b947276671648c4543", func := "loop.example/g00653/laws.FnExactCutKey", spec := "fnExactCutKey", unfollowed := true, recurses := true, apart := false }
def FnExactCutKeySaid : Prop := fnExactCutKeyRow.holds Try.pinned (OpenSpec.ofChange fnExactCutKeySpec)

/-- ITS FALSE NEIGHBOUR: 'it returns false'. Refute it at one input. -/
def fnExactCutKeyWrong : ChangeSpec := { name := "fnExactCutKey", fn := fun _ => fun
  | [d1, d2] => { results := [.lit (.bool false)], args := [d1, d2] }
  | _ => none }
def FnExactCutKeyWrongFalsely : Prop := fnExactCutKeyRow.holds Try.pinned (OpenSpec.ofChange fnExactCutKeyWrong)

/-- 'laws.FnExactEquationsFault': WHATEVER THE INPUT: true; the input reads as it did. -/
def fnExactEquationsFaultSpec : ChangeSpec := { name := "fnExactEquationsFault", fn := fun _ => fun
  | [d1, d2] => { results := [.lit (.bool true)], args := [d1, d2] }
  | _ => none }
def fnExactEquationsFaultRow : OpenClaim := { program := "ytafhlkbjjjlkjaa", sum := "224d1bb4aeddfac15353464b1fb3f6757254131525f285b947276671648c4543", func := "loop.example/g00653/laws.FnExactEquationsFault", spec := "fnExactEquationsFault", unfollowed := true, recurses := true, apart := false }
def FnExactEquationsFaultSaid : Prop := fnExactEquationsFaultRow.holds Try.pinned (OpenSpec.ofChange fnExactEquationsFaultSpec)

/-- ITS FALSE NEIGHBOUR: 'it returns false'. Refute it at one input. -/
def fnExactEquationsFaultWrong : ChangeSpec := { name := "fnExactEquationsFault", fn := fun _ => fun
  | [d1, d2] => { results := [.lit (.bool false)], args := [d1, d2] }
  | _ => none }
def FnExactEquationsFaultWrongFalsely : Prop := fnExactEquationsFaultRow.holds Try.pinned (OpenSpec.ofChange fnExactEquationsFaultWrong)

/-- 'laws.FnExactPackEquations': WHATEVER THE INPUT: true; the input reads as it did. -/
def fnExactPackEquationsSpec : ChangeSpec := { name := "fnExactPackEquations", fn := fun _ => fun
  | [d1, d2] => { results := [.lit (.bool true)], args := [d1, d2] }
  | _ => none }
def fnExactPackEquationsRow : OpenClaim := { program := "ytafhlkbjjjlkjaa", sum := "224d1bb4aeddfac15353464b1fb3f6757254131525f285b947276671648c4543", func := "loop.example/g00653/laws.FnExactPackEquations", spec := "fnExactPackEquations", unfollowed := true, recurses := true, apart := false }
def FnExactPackEquationsSaid : Prop := fnExactPackEquationsRow.holds Try.pinned (OpenSpec.ofChange fnExactPackEquationsSpec)

/-- ITS FALSE NEIGHBOUR: 'it returns false'. Refute it at one input. -/
def fnExactPackEquationsWrong : ChangeSpec := { name := "fnExactPackEquations", fn := fun _ => fun
  | [d1, d2] => { results := [.lit (.bool false)], args := [d1, d2] }
  | _ => none }
def FnExactPackEquationsWrongFalsely : Prop := fnExactPackEquationsRow.holds Try.pinned (OpenSpec.ofChange fnExactPackEquationsWrong)

/-- 'laws.FnExactUnpackEquations': WHATEVER THE INPUT: true; the input reads as it did. -/
def fnExactUnpackEquationsSpec : ChangeSpec := { name := "fnExactUnpackEquations", fn := fun _ => fun
  | [d1, d2] => { results := [.lit (.bool true)], args := [d1, d2] }
  | _ => none }
def fnExactUnpackEquationsRow : OpenClaim := { program := "ytafhlkbjjjlkjaa", sum := "224d1bb4aeddfac15353464b1fb3f6757254131525f285b947276671648c4543", func := "loop.example/g00653/laws.FnExactUnpackEquations", spec := "fnExactUnpackEquations", unfollowed := true, recurses := true, apart := false }
def FnExactUnpackEquationsSaid : Prop := fnExactUnpackEquationsRow.holds Try.pinned (OpenSpec.ofChange fnExactUnpackEquationsSpec)

/-- ITS FALSE NEIGHBOUR: 'it returns false'. Refute it at one input. -/
def fnExactUnpackEquationsWrong : ChangeSpec := { name := "fnExactUnpackEquations", fn := fun _ => fun
  | [d1, d2] => { results := [.lit (.bool false)], args := [d1, d2] }
  | _ => none }
def FnExactUnpackEquationsWrongFalsely : Prop := fnExactUnpackEquationsRow.holds Try.pinned (OpenSpec.ofChange fnExactUnpackEquationsWrong)

/- THE SECOND FORM. 'bulk': how many values and letters a reading holds, each counted each time it is reached (what is shared counts as often as it is met; a slice's spare places count too). A statement '..UptoSaid' is the law's where the arguments, and the package variables that the reading takes, are together of bulk at most 1048576: NARROWER than '..Said'. Prove '..Said' where nothing that the law and all that it calls make is longer than what came in: it says more and counts as full. Else prove '..UptoSaid'. A law counts once. -/
mutual
def uptoBulk {H : Type} : DataW H → Nat
  | .lit (.string bytes) => bytes.length + 1
  | .lit _ => 1
  | .nil => 1
  | .ptr d => uptoBulk d + 1
  | .slice elems spare => uptoBulkAll elems + uptoBulkAll spare + 1
  | .agg parts => uptoBulkAll parts + 1
  | .iface _ d => uptoBulk d + 1
  | .map entries => uptoBulkEntries entries + 1
  | .held _ => 1
def uptoBulkAll {H : Type} : List (DataW H) → Nat
  | [] => 0
  | d :: r => uptoBulk d + uptoBulkAll r
def uptoBulkEntries {H : Type} : List (Lit × DataW H) → Nat
  | [] => 0
  | x :: r => uptoBulkEntry x + uptoBulkEntries r
def uptoBulkEntry {H : Type} : Lit × DataW H → Nat
  | (.string bytes, d) => bytes.length + uptoBulk d + 1
  | (_, d) => uptoBulk d + 1
 end
def uptoSmall : (H : Type) → List (DataW H) → Bool := fun _ ds => decide (uptoBulkAll ds ≤ 1048576)
def OpenSpec.upto (s : _root_.Go.ChangeSpec) : _root_.Go.OpenSpec := { _root_.Go.OpenSpec.ofChange s with cond := some uptoSmall }

/-- 'laws.FnPacks', WHERE WHAT IT READS IS OF BULK AT MOST 1048576: true; the input reads as it did. -/
def fnPacksUptoRow : OpenClaim := { program := "ytafhlkbjjjlkjaa", sum := "224d1bb4aeddfac15353464b1fb3f6757254131525f285b947276671648c4543", func := "loop.example/g00653/laws.FnPacks", spec := "fnPacks", unfollowed := true, recurses := true, apart := false, narrowed := true }
def FnPacksUptoSaid : Prop := fnPacksUptoRow.holds Try.pinned (OpenSpec.upto fnPacksSpec)

/-- 'laws.FnKeys', WHERE WHAT IT READS IS OF BULK AT MOST 1048576: true; the input reads as it did. -/
def fnKeysUptoRow : OpenClaim := { program := "ytafhlkbjjjlkjaa", sum := "224d1bb4aeddfac15353464b1fb3f6757254131525f285b947276671648c4543", func := "loop.example/g00653/laws.FnKeys", spec := "fnKeys", inPlace := ["internal/bytealg.Compare"], unfollowed := true, recurses := true, apart := false, narrowed := true }
def FnKeysUptoSaid : Prop := fnKeysUptoRow.holds Try.pinned (OpenSpec.upto fnKeysSpec)

/-- 'laws.FnLists', WHERE WHAT IT READS IS OF BULK AT MOST 1048576: true; the input reads as it did. -/
def fnListsUptoRow : OpenClaim := { program := "ytafhlkbjjjlkjaa", sum := "224d1bb4aeddfac15353464b1fb3f6757254131525f285b947276671648c4543", func := "loop.example/g00653/laws.FnLists", spec := "fnLists", unfollowed := true, recurses := true, apart := false, narrowed := true }
def FnListsUptoSaid : Prop := fnListsUptoRow.holds Try.pinned (OpenSpec.upto fnListsSpec)

/-- 'laws.FnExactPackTerm', WHERE WHAT IT READS IS OF BULK AT MOST 1048576: true; the input reads as it did. -/
def fnExactPackTermUptoRow : OpenClaim := { program := "ytafhlkbjjjlkjaa", sum := "224d1bb4aeddfac15353464b1fb3f6757254131525f285b947276671648c4543", func := "loop.example/g00653/laws.FnExactPackTerm", spec := "fnExactPackTerm", unfollowed := true, recurses := true, apart := false, narrowed := true }
def FnExactPackTermUptoSaid : Prop := fnExactPackTermUptoRow.holds Try.pinned (OpenSpec.upto fnExactPackTermSpec)

/-- 'laws.FnExactUnpackTerm', WHERE WHAT IT READS IS OF BULK AT MOST 1048576: true; the input reads as it did. -/
def fnExactUnpackTermUptoRow : OpenClaim := { program := "ytafhlkbjjjlkjaa", sum := "224d1bb4aeddfac15353464b1fb3f6757254131525f285b947276671648c4543", func := "loop.example/g00653/laws.FnExactUnpackTerm", spec := "fnExactUnpackTerm", unfollowed := true, recurses := true, apart := false, narrowed := true }
def FnExactUnpackTermUptoSaid : Prop := fnExactUnpackTermUptoRow.holds Try.pinned (OpenSpec.upto fnExactUnpackTermSpec)

/-- 'laws.FnExactKeyOf', WHERE WHAT IT READS IS OF BULK AT MOST 1048576: true; the input reads as it did. -/
def fnExactKeyOfUptoRow : OpenClaim := { program := "ytafhlkbjjjlkjaa", sum := "224d1bb4aeddfac15353464b1fb3f6757254131525f285b947276671648c4543", func := "loop.example/g00653/laws.FnExactKeyOf", spec := "fnExactKeyOf", unfollowed := true, recurses := true, apart := false, narrowed := true }
def FnExactKeyOfUptoSaid : Prop := fnExactKeyOfUptoRow.holds Try.pinned (OpenSpec.upto fnExactKeyOfSpec)

/-- 'laws.FnExactCutKey', WHERE WHAT IT READS IS OF BULK AT MOST 1048576: true; the input reads as it did. -/
def fnExactCutKeyUptoRow : OpenClaim := { program := "ytafhlkbjjjlkjaa", sum := "224d1bb4aeddfac15353464b1fb3f6757254131525f285b947276671648c4543", func := "loop.example/g00653/laws.FnExactCutKey", spec := "fnExactCutKey", unfollowed := true, recurses := true, apart := false, narrowed := true }
def FnExactCutKeyUptoSaid : Prop := fnExactCutKeyUptoRow.holds Try.pinned (OpenSpec.upto fnExactCutKeySpec)

/-- 'laws.FnExactEquationsFault', WHERE WHAT IT READS IS OF BULK AT MOST 1048576: true; the input reads as it did. -/
def fnExactEquationsFaultUptoRow : OpenClaim := { program := "ytafhlkbjjjlkjaa", sum := "224d1bb4aeddfac15353464b1fb3f6757254131525f285b947276671648c4543", func := "loop.example/g00653/laws.FnExactEquationsFault", spec := "fnExactEquationsFault", unfollowed := true, recurses := true, apart := false, narrowed := true }
def FnExactEquationsFaultUptoSaid : Prop := fnExactEquationsFaultUptoRow.holds Try.pinned (OpenSpec.upto fnExactEquationsFaultSpec)

/-- 'laws.FnExactPackEquations', WHERE WHAT IT READS IS OF BULK AT MOST 1048576: true; the input reads as it did. -/
def fnExactPackEquationsUptoRow : OpenClaim := { program := "ytafhlkbjjjlkjaa", sum := "224d1bb4aeddfac15353464b1fb3f6757254131525f285b947276671648c4543", func := "loop.example/g00653/laws.FnExactPackEquations", spec := "fnExactPackEquations", unfollowed := true, recurses := true, apart := false, narrowed := true }
def FnExactPackEquationsUptoSaid : Prop := fnExactPackEquationsUptoRow.holds Try.pinned (OpenSpec.upto fnExactPackEquationsSpec)

/-- 'laws.FnExactUnpackEquations', WHERE WHAT IT READS IS OF BULK AT MOST 1048576: true; the input reads as it did. -/
def fnExactUnpackEquationsUptoRow : OpenClaim := { program := "ytafhlkbjjjlkjaa", sum := "224d1bb4aeddfac15353464b1fb3f6757254131525f285b947276671648c4543", func := "loop.example/g00653/laws.FnExactUnpackEquations", spec := "fnExactUnpackEquations", unfollowed := true, recurses := true, apart := false, narrowed := true }
def FnExactUnpackEquationsUptoSaid : Prop := fnExactUnpackEquationsUptoRow.holds Try.pinned (OpenSpec.upto fnExactUnpackEquationsSpec)

end Rows
end Go.Proofs.Ytafhlkbjjjlkjaa
