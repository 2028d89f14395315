/-
  No cell of these rows narrows 'for every input' (looked for: loops, veiled, ifaces, maps, wideKeys, modest, calm, conditions, laid).
  DERIVED. THE GIVEN ROWS OF THIS SEAT. 7 by the template 'for every input the law returns true; each argument reads behind the call as it read before'; 0 by the template 'total and deterministic' (their statements: YthodmmckekgkdaaTotals.lean).
  GIVEN WITH THE SEED: the statements are not yours to turn. If you find one false, say at which input.
  Laid BY PROGRAM, IN A SANDBOX (cutbox-rows.mjs): the forced cells as the released guide's own fill.sh prints them over the translation 2c71a2d2697ed582… (all of the seat's roots in one cut). By AI agents, Wed Nov 11 2026. No macro, syntax, notation, axiom, sorry.
-/
import Derived.Test.YthodmmckekgkdaaChecked
import GoSem.Claim
import GoSem.ClaimJoined
import GoSem.ClaimMapViews
import Derived.JoinedTies
import Derived.KernelRfl
namespace Go.Proofs.Ythodmmckekgkdaa
/- THE CELL 'sum', in the pinned program and in every row, IS THE sha256 OF THE DUMP (.gsa) THAT YthodmmckekgkdaaProg.lean LOADS. Nothing in Lean hashes anything: it is a label: what it is worth is what the hold of that sum in a sandbox is worth. -/
noncomputable def Try.pinned : Pinned := { name := "ythodmmckekgkdaa", sum := "2c71a2d2697ed5824e8ac66971596529b1ea3d696a0dfab4b4030dd6e54aa0c7", checked := Try.checked }
namespace Rows
def none {H : Type} : Left H := { results := [], args := [] }

/-- 'laws.FnStem': WHATEVER THE INPUT: true; the input reads as it did. -/
def fnStemSpec : ChangeSpec := { name := "fnStem", fn := fun _ => fun
  | [d] => { results := [.lit (.bool true)], args := [d] }
  | _ => none }
def fnStemRow : OpenClaim := { program := "ythodmmckekgkdaa", sum := "2c71a2d2697ed5824e8ac66971596529b1ea3d696a0dfab4b4030dd6e54aa0c7", func := "loop.example/g00596/laws.FnStem", spec := "fnStem", unfollowed := true, recurses := true, apart := false }
def FnStemSaid : Prop := fnStemRow.holds Try.pinned (OpenSpec.ofChange fnStemSpec)

/-- ITS FALSE NEIGHBOUR: 'it returns false'. Refute it at one input. -/
def fnStemWrong : ChangeSpec := { name := "fnStem", fn := fun _ => fun
  | [d] => { results := [.lit (.bool false)], args := [d] }
  | _ => none }
def FnStemWrongFalsely : Prop := fnStemRow.holds Try.pinned (OpenSpec.ofChange fnStemWrong)

/-- 'laws.FnDirect': WHATEVER THE INPUT: true; the input reads as it did. -/
def fnDirectSpec : ChangeSpec := { name := "fnDirect", fn := fun _ => fun
  | [d] => { results := [.lit (.bool true)], args := [d] }
  | _ => none }
def fnDirectRow : OpenClaim := { program := "ythodmmckekgkdaa", sum := "2c71a2d2697ed5824e8ac66971596529b1ea3d696a0dfab4b4030dd6e54aa0c7", func := "loop.example/g00596/laws.FnDirect", spec := "fnDirect", unfollowed := true, recurses := true, apart := false }
def FnDirectSaid : Prop := fnDirectRow.holds Try.pinned (OpenSpec.ofChange fnDirectSpec)

/-- ITS FALSE NEIGHBOUR: 'it returns false'. Refute it at one input. -/
def fnDirectWrong : ChangeSpec := { name := "fnDirect", fn := fun _ => fun
  | [d] => { results := [.lit (.bool false)], args := [d] }
  | _ => none }
def FnDirectWrongFalsely : Prop := fnDirectRow.holds Try.pinned (OpenSpec.ofChange fnDirectWrong)

/-- 'laws.FnExactPseudoIntents': WHATEVER THE INPUT: true; the input reads as it did. -/
def fnExactPseudoIntentsSpec : ChangeSpec := { name := "fnExactPseudoIntents", fn := fun _ => fun
  | [d] => { results := [.lit (.bool true)], args := [d] }
  | _ => none }
def fnExactPseudoIntentsRow : OpenClaim := { program := "ythodmmckekgkdaa", sum := "2c71a2d2697ed5824e8ac66971596529b1ea3d696a0dfab4b4030dd6e54aa0c7", func := "loop.example/g00596/laws.FnExactPseudoIntents", spec := "fnExactPseudoIntents", unfollowed := true, recurses := true, apart := false }
def FnExactPseudoIntentsSaid : Prop := fnExactPseudoIntentsRow.holds Try.pinned (OpenSpec.ofChange fnExactPseudoIntentsSpec)

/-- ITS FALSE NEIGHBOUR: 'it returns false'. Refute it at one input. -/
def fnExactPseudoIntentsWrong : ChangeSpec := { name := "fnExactPseudoIntents", fn := fun _ => fun
  | [d] => { results := [.lit (.bool false)], args := [d] }
  | _ => none }
def FnExactPseudoIntentsWrongFalsely : Prop := fnExactPseudoIntentsRow.holds Try.pinned (OpenSpec.ofChange fnExactPseudoIntentsWrong)

/-- 'laws.FnExactOneStep': WHATEVER THE INPUT: true; the input reads as it did. -/
def fnExactOneStepSpec : ChangeSpec := { name := "fnExactOneStep", fn := fun _ => fun
  | [d1, d2] => { results := [.lit (.bool true)], args := [d1, d2] }
  | _ => none }
def fnExactOneStepRow : OpenClaim := { program := "ythodmmckekgkdaa", sum := "2c71a2d2697ed5824e8ac66971596529b1ea3d696a0dfab4b4030dd6e54aa0c7", func := "loop.example/g00596/laws.FnExactOneStep", spec := "fnExactOneStep", apart := false }
def FnExactOneStepSaid : Prop := fnExactOneStepRow.holds Try.pinned (OpenSpec.ofChange fnExactOneStepSpec)

/-- ITS FALSE NEIGHBOUR: 'it returns false'. Refute it at one input. -/
def fnExactOneStepWrong : ChangeSpec := { name := "fnExactOneStep", fn := fun _ => fun
  | [d1, d2] => { results := [.lit (.bool false)], args := [d1, d2] }
  | _ => none }
def FnExactOneStepWrongFalsely : Prop := fnExactOneStepRow.holds Try.pinned (OpenSpec.ofChange fnExactOneStepWrong)

/-- 'laws.FnExactIsDirect': WHATEVER THE INPUT: true; the input reads as it did. -/
def fnExactIsDirectSpec : ChangeSpec := { name := "fnExactIsDirect", fn := fun _ => fun
  | [d1, d2] => { results := [.lit (.bool true)], args := [d1, d2] }
  | _ => none }
def fnExactIsDirectRow : OpenClaim := { program := "ythodmmckekgkdaa", sum := "2c71a2d2697ed5824e8ac66971596529b1ea3d696a0dfab4b4030dd6e54aa0c7", func := "loop.example/g00596/laws.FnExactIsDirect", spec := "fnExactIsDirect", unfollowed := true, recurses := true, apart := false }
def FnExactIsDirectSaid : Prop := fnExactIsDirectRow.holds Try.pinned (OpenSpec.ofChange fnExactIsDirectSpec)

/-- ITS FALSE NEIGHBOUR: 'it returns false'. Refute it at one input. -/
def fnExactIsDirectWrong : ChangeSpec := { name := "fnExactIsDirect", fn := fun _ => fun
  | [d1, d2] => { results := [.lit (.bool false)], args := [d1, d2] }
  | _ => none }
def FnExactIsDirectWrongFalsely : Prop := fnExactIsDirectRow.holds Try.pinned (OpenSpec.ofChange fnExactIsDirectWrong)

/-- 'laws.FnExactProperPremises': WHATEVER THE INPUT: true; the input reads as it did. -/
def fnExactProperPremisesSpec : ChangeSpec := { name := "fnExactProperPremises", fn := fun _ => fun
  | [d] => { results := [.lit (.bool true)], args := [d] }
  | _ => none }
def fnExactProperPremisesRow : OpenClaim := { program := "ythodmmckekgkdaa", sum := "2c71a2d2697ed5824e8ac66971596529b1ea3d696a0dfab4b4030dd6e54aa0c7", func := "loop.example/g00596/laws.FnExactProperPremises", spec := "fnExactProperPremises", apart := false }
def FnExactProperPremisesSaid : Prop := fnExactProperPremisesRow.holds Try.pinned (OpenSpec.ofChange fnExactProperPremisesSpec)

/-- ITS FALSE NEIGHBOUR: 'it returns false'. Refute it at one input. -/
def fnExactProperPremisesWrong : ChangeSpec := { name := "fnExactProperPremises", fn := fun _ => fun
  | [d] => { results := [.lit (.bool false)], args := [d] }
  | _ => none }
def FnExactProperPremisesWrongFalsely : Prop := fnExactProperPremisesRow.holds Try.pinned (OpenSpec.ofChange fnExactProperPremisesWrong)

/-- 'laws.FnExactDirectBase': WHATEVER THE INPUT: true; the input reads as it did. -/
def fnExactDirectBaseSpec : ChangeSpec := { name := "fnExactDirectBase", fn := fun _ => fun
  | [d] => { results := [.lit (.bool true)], args := [d] }
  | _ => none }
def fnExactDirectBaseRow : OpenClaim := { program := "ythodmmckekgkdaa", sum := "2c71a2d2697ed5824e8ac66971596529b1ea3d696a0dfab4b4030dd6e54aa0c7", func := "loop.example/g00596/laws.FnExactDirectBase", spec := "fnExactDirectBase", apart := false }
def FnExactDirectBaseSaid : Prop := fnExactDirectBaseRow.holds Try.pinned (OpenSpec.ofChange fnExactDirectBaseSpec)

/-- ITS FALSE NEIGHBOUR: 'it returns false'. Refute it at one input. -/
def fnExactDirectBaseWrong : ChangeSpec := { name := "fnExactDirectBase", fn := fun _ => fun
  | [d] => { results := [.lit (.bool false)], args := [d] }
  | _ => none }
def FnExactDirectBaseWrongFalsely : Prop := fnExactDirectBaseRow.holds Try.pinned (OpenSpec.ofChange fnExactDirectBaseWrong)

/- THE SECOND FORM. 'bulk': how many values and letters a reading holds, each counted each time it is reached (what is shared counts as often as it is met; a slice's spare places count too). A statement '..UptoSaid' is the law's where the arguments, and the package variables that the reading takes, are together of bulk at most 1048576: NARROWER than '..Said'. Prove '..Said' where nothing that the law and all that it calls make is longer than what came in: it says more and counts as full. Else prove '..UptoSaid'. A law counts once. -/
mutual
def uptoBulk {H : Type} : DataW H → Nat
  | .lit (.string bytes) => bytes.length + 1
  | .lit _ => 1
  | .nil => 1
  | .ptr d => uptoBulk d + 1
  | .slice elems spare => uptoBulkAll elems + uptoBulkAll spare + 1
  | .agg parts => uptoBulkAll parts + 1
  | .iface _ d => uptoBulk d + 1
  | .map entries => uptoBulkEntries entries + 1
  | .held _ => 1
def uptoBulkAll {H : Type} : List (DataW H) → Nat
  | [] => 0
  | d :: r => uptoBulk d + uptoBulkAll r
def uptoBulkEntries {H : Type} : List (Lit × DataW H) → Nat
  | [] => 0
  | x :: r => uptoBulkEntry x + uptoBulkEntries r
def uptoBulkEntry {H : Type} : Lit × DataW H → Nat
  | (.string bytes, d) => bytes.length + uptoBulk d + 1
  | (_, d) => uptoBulk d + 1
 end
def uptoSmall : (H : Type) → List (DataW H) → Bool := fun _ ds => decide (uptoBulkAll ds ≤ 1048576)
def OpenSpec.upto (s : _root_.Go.ChangeSpec) : _root_.Go.OpenSpec := { _root_.Go.OpenSpec.ofChange s with cond := some uptoSmall }

/-- 'laws.FnStem', WHERE WHAT IT READS IS OF BULK AT MOST 1048576: true; the input reads as it did. -/
def fnStemUptoRow : OpenClaim := { program := "ythodmmckekgkdaa", sum := "2c71a2d2697ed5824e8ac66971596529b1ea3d696a0dfab4b4030dd6e54aa0c7", func := "loop.example/g00596/laws.FnStem", spec := "fnStem", unfollowed := true, recurses := true, apart := false, narrowed := true }
def FnStemUptoSaid : Prop := fnStemUptoRow.holds Try.pinned (OpenSpec.upto fnStemSpec)

/-- 'laws.FnDirect', WHERE WHAT IT READS IS OF BULK AT MOST 1048576: true; the input reads as it did. -/
def fnDirectUptoRow : OpenClaim := { program := "ythodmmckekgkdaa", sum := "2c71a2d2697ed5824e8ac66971596529b1ea3d696a0dfab4b4030dd6e54aa0c7", func := "loop.example/g00596/laws.FnDirect", spec := "fnDirect", unfollowed := true, recurses := true, apart := false, narrowed := true }
def FnDirectUptoSaid : Prop := fnDirectUptoRow.holds Try.pinned (OpenSpec.upto fnDirectSpec)

/-- 'laws.FnExactPseudoIntents', WHERE WHAT IT READS IS OF BULK AT MOST 1048576: true; the input reads as it did. -/
def fnExactPseudoIntentsUptoRow : OpenClaim := { program := "ythodmmckekgkdaa", sum := "2c71a2d2697ed5824e8ac66971596529b1ea3d696a0dfab4b4030dd6e54aa0c7", func := "loop.example/g00596/laws.FnExactPseudoIntents", spec := "fnExactPseudoIntents", unfollowed := true, recurses := true, apart := false, narrowed := true }
def FnExactPseudoIntentsUptoSaid : Prop := fnExactPseudoIntentsUptoRow.holds Try.pinned (OpenSpec.upto fnExactPseudoIntentsSpec)

/-- 'laws.FnExactOneStep', WHERE WHAT IT READS IS OF BULK AT MOST 1048576: true; the input reads as it did. -/
def fnExactOneStepUptoRow : OpenClaim := { program := "ythodmmckekgkdaa", sum := "2c71a2d2697ed5824e8ac66971596529b1ea3d696a0dfab4b4030dd6e54aa0c7", func := "loop.example/g00596/laws.FnExactOneStep", spec := "fnExactOneStep", apart := false, narrowed := true }
def FnExactOneStepUptoSaid : Prop := fnExactOneStepUptoRow.holds Try.pinned (OpenSpec.upto fnExactOneStepSpec)

/-- 'laws.FnExactIsDirect', WHERE WHAT IT READS IS OF BULK AT MOST 1048576: true; the input reads as it did. -/
def fnExactIsDirectUptoRow : OpenClaim := { program := "ythodmmckekgkdaa", sum := "2c71a2d2697ed5824e8ac66971596529b1ea3d696a0dfab4b4030dd6e54aa0c7", func := "loop.example/g00596/laws.FnExactIsDirect", spec := "fnExactIsDirect", unfollowed := true, recurses := true, apart := false, narrowed := true }
def FnExactIsDirectUptoSaid : Prop := fnExactIsDirectUptoRow.holds Try.pinned (OpenSpec.upto fnExactIsDirectSpec)

/-- 'laws.FnExactProperPremises', WHERE WHAT IT READS IS OF BULK AT MOST 1048576: true; the input reads as it did. -/
def fnExactProperPremisesUptoRow : OpenClaim := { program := "ythodmmckekgkdaa", sum := "2c71a2d2697ed5824e8ac66971596529b1ea3d696a0dfab4b4030dd6e54aa0c7", func := "loop.example/g00596/laws.FnExactProperPremises", spec := "fnExactProperPremises", apart := false, narrowed := true }
def FnExactProperPremisesUptoSaid : Prop := fnExactProperPremisesUptoRow.holds Try.pinned (OpenSpec.upto fnExactProperPremisesSpec)

/-- 'laws.FnExactDirectBase', WHERE WHAT IT READS IS OF BULK AT MOST 1048576: true; the input reads as it did. -/
def fnExactDirectBaseUptoRow : OpenClaim := { program := "ythodmmckekgkdaa", sum := "2c71a2d2697ed5824e8ac66971596529b1ea3d696a0dfab4b4030dd6e54aa0c7", func := "loop.example/g00596/laws.FnExactDirectBase", spec := "fnExactDirectBase", apart := false, narrowed := true }
def FnExactDirectBaseUptoSaid : Prop := fnExactDirectBaseUptoRow.holds Try.pinned (OpenSpec.upto fnExactDirectBaseSpec)

end Rows
end Go.Proofs.Ythodmmckekgkdaa
