/-
  No cell of these rows narrows 'for every input' (looked for: loops, veiled, ifaces, maps, wideKeys, modest, calm, conditions, laid).
  DERIVED. THE GIVEN ROWS OF THIS SEAT. 13 by the template 'for every input the law returns true; each argument reads behind the call as it read before'; 0 by the template 'total and deterministic' (their statements: YtgkoggajdhibdaaTotals.lean).
  GIVEN WITH THE SEED: the statements are not yours to turn. If you find one false, say at which input.
  Laid BY PROGRAM, IN A SANDBOX (cutbox-rows.mjs): the forced cells as the released guide's own fill.sh prints them over the translation 280cba0227a94e3d… (all of the seat's roots in one cut). By AI agents, Wed Nov 11 2026. No macro, syntax, notation, axiom, sorry.
-/
import Derived.Test.YtgkoggajdhibdaaChecked
import GoSem.Claim
import GoSem.ClaimJoined
import GoSem.ClaimMapViews
import Derived.JoinedTies
import Derived.KernelRfl
namespace Go.Proofs.Ytgkoggajdhibdaa
/- THE CELL 'sum', in the pinned program and in every row, IS THE sha256 OF THE DUMP (.gsa) THAT YtgkoggajdhibdaaProg.lean LOADS. Nothing in Lean hashes anything: it is a label: what it is worth is what the hold of that sum in a sandbox is worth. -/
noncomputable def Try.pinned : Pinned := { name := "ytgkoggajdhibdaa", sum := "280cba0227a94e3dfee1157ffc36fd725f8ae9e27cd6d9dd543f378024c71daa", checked := Try.checked }
namespace Rows
def none {H : Type} : Left H := { results := [], args := [] }

/-- 'laws.FnStem': WHATEVER THE INPUT: true; the input reads as it did. -/
def fnStemSpec : ChangeSpec := { name := "fnStem", fn := fun _ => fun
  | [d] => { results := [.lit (.bool true)], args := [d] }
  | _ => none }
def fnStemRow : OpenClaim := { program := "ytgkoggajdhibdaa", sum := "280cba0227a94e3dfee1157ffc36fd725f8ae9e27cd6d9dd543f378024c71daa", func := "loop.example/g00596/laws.FnStem", spec := "fnStem", unfollowed := true, recurses := true, apart := false }
def FnStemSaid : Prop := fnStemRow.holds Try.pinned (OpenSpec.ofChange fnStemSpec)

/-- ITS FALSE NEIGHBOUR: 'it returns false'. Refute it at one input. -/
def fnStemWrong : ChangeSpec := { name := "fnStem", fn := fun _ => fun
  | [d] => { results := [.lit (.bool false)], args := [d] }
  | _ => none }
def FnStemWrongFalsely : Prop := fnStemRow.holds Try.pinned (OpenSpec.ofChange fnStemWrong)

/-- 'laws.FnInference': WHATEVER THE INPUT: true; the input reads as it did. -/
def fnInferenceSpec : ChangeSpec := { name := "fnInference", fn := fun _ => fun
  | [d] => { results := [.lit (.bool true)], args := [d] }
  | _ => none }
def fnInferenceRow : OpenClaim := { program := "ytgkoggajdhibdaa", sum := "280cba0227a94e3dfee1157ffc36fd725f8ae9e27cd6d9dd543f378024c71daa", func := "loop.example/g00596/laws.FnInference", spec := "fnInference", unfollowed := true, recurses := true, apart := false }
def FnInferenceSaid : Prop := fnInferenceRow.holds Try.pinned (OpenSpec.ofChange fnInferenceSpec)

/-- ITS FALSE NEIGHBOUR: 'it returns false'. Refute it at one input. -/
def fnInferenceWrong : ChangeSpec := { name := "fnInference", fn := fun _ => fun
  | [d] => { results := [.lit (.bool false)], args := [d] }
  | _ => none }
def FnInferenceWrongFalsely : Prop := fnInferenceRow.holds Try.pinned (OpenSpec.ofChange fnInferenceWrong)

/-- 'laws.FnExactPseudoIntents': WHATEVER THE INPUT: true; the input reads as it did. -/
def fnExactPseudoIntentsSpec : ChangeSpec := { name := "fnExactPseudoIntents", fn := fun _ => fun
  | [d] => { results := [.lit (.bool true)], args := [d] }
  | _ => none }
def fnExactPseudoIntentsRow : OpenClaim := { program := "ytgkoggajdhibdaa", sum := "280cba0227a94e3dfee1157ffc36fd725f8ae9e27cd6d9dd543f378024c71daa", func := "loop.example/g00596/laws.FnExactPseudoIntents", spec := "fnExactPseudoIntents", unfollowed := true, recurses := true, apart := false }
def FnExactPseudoIntentsSaid : Prop := fnExactPseudoIntentsRow.holds Try.pinned (OpenSpec.ofChange fnExactPseudoIntentsSpec)

/-- ITS FALSE NEIGHBOUR: 'it returns false'. Refute it at one input. -/
def fnExactPseudoIntentsWrong : ChangeSpec := { name := "fnExactPseudoIntents", fn := fun _ => fun
  | [d] => { results := [.lit (.bool false)], args := [d] }
  | _ => none }
def FnExactPseudoIntentsWrongFalsely : Prop := fnExactPseudoIntentsRow.holds Try.pinned (OpenSpec.ofChange fnExactPseudoIntentsWrong)

/-- 'laws.FnExactStemBase': WHATEVER THE INPUT: true; the input reads as it did. -/
def fnExactStemBaseSpec : ChangeSpec := { name := "fnExactStemBase", fn := fun _ => fun
  | [d] => { results := [.lit (.bool true)], args := [d] }
  | _ => none }
def fnExactStemBaseRow : OpenClaim := { program := "ytgkoggajdhibdaa", sum := "280cba0227a94e3dfee1157ffc36fd725f8ae9e27cd6d9dd543f378024c71daa", func := "loop.example/g00596/laws.FnExactStemBase", spec := "fnExactStemBase", unfollowed := true, recurses := true, apart := false }
def FnExactStemBaseSaid : Prop := fnExactStemBaseRow.holds Try.pinned (OpenSpec.ofChange fnExactStemBaseSpec)

/-- ITS FALSE NEIGHBOUR: 'it returns false'. Refute it at one input. -/
def fnExactStemBaseWrong : ChangeSpec := { name := "fnExactStemBase", fn := fun _ => fun
  | [d] => { results := [.lit (.bool false)], args := [d] }
  | _ => none }
def FnExactStemBaseWrongFalsely : Prop := fnExactStemBaseRow.holds Try.pinned (OpenSpec.ofChange fnExactStemBaseWrong)

/-- 'laws.FnExactIsBase': WHATEVER THE INPUT: true; the input reads as it did. -/
def fnExactIsBaseSpec : ChangeSpec := { name := "fnExactIsBase", fn := fun _ => fun
  | [d1, d2] => { results := [.lit (.bool true)], args := [d1, d2] }
  | _ => none }
def fnExactIsBaseRow : OpenClaim := { program := "ytgkoggajdhibdaa", sum := "280cba0227a94e3dfee1157ffc36fd725f8ae9e27cd6d9dd543f378024c71daa", func := "loop.example/g00596/laws.FnExactIsBase", spec := "fnExactIsBase", unfollowed := true, recurses := true, apart := false }
def FnExactIsBaseSaid : Prop := fnExactIsBaseRow.holds Try.pinned (OpenSpec.ofChange fnExactIsBaseSpec)

/-- ITS FALSE NEIGHBOUR: 'it returns false'. Refute it at one input. -/
def fnExactIsBaseWrong : ChangeSpec := { name := "fnExactIsBase", fn := fun _ => fun
  | [d1, d2] => { results := [.lit (.bool false)], args := [d1, d2] }
  | _ => none }
def FnExactIsBaseWrongFalsely : Prop := fnExactIsBaseRow.holds Try.pinned (OpenSpec.ofChange fnExactIsBaseWrong)

/-- 'laws.FnExactIsShortest': WHATEVER THE INPUT: true; the input reads as it did. -/
def fnExactIsShortestSpec : ChangeSpec := { name := "fnExactIsShortest", fn := fun _ => fun
  | [d1, d2] => { results := [.lit (.bool true)], args := [d1, d2] }
  | _ => none }
def fnExactIsShortestRow : OpenClaim := { program := "ytgkoggajdhibdaa", sum := "280cba0227a94e3dfee1157ffc36fd725f8ae9e27cd6d9dd543f378024c71daa", func := "loop.example/g00596/laws.FnExactIsShortest", spec := "fnExactIsShortest", unfollowed := true, recurses := true, apart := false }
def FnExactIsShortestSaid : Prop := fnExactIsShortestRow.holds Try.pinned (OpenSpec.ofChange fnExactIsShortestSpec)

/-- ITS FALSE NEIGHBOUR: 'it returns false'. Refute it at one input. -/
def fnExactIsShortestWrong : ChangeSpec := { name := "fnExactIsShortest", fn := fun _ => fun
  | [d1, d2] => { results := [.lit (.bool false)], args := [d1, d2] }
  | _ => none }
def FnExactIsShortestWrongFalsely : Prop := fnExactIsShortestRow.holds Try.pinned (OpenSpec.ofChange fnExactIsShortestWrong)

/-- 'laws.FnExactAreEquivalent': WHATEVER THE INPUT: true; the input reads as it did. -/
def fnExactAreEquivalentSpec : ChangeSpec := { name := "fnExactAreEquivalent", fn := fun _ => fun
  | [d1, d2] => { results := [.lit (.bool true)], args := [d1, d2] }
  | _ => none }
def fnExactAreEquivalentRow : OpenClaim := { program := "ytgkoggajdhibdaa", sum := "280cba0227a94e3dfee1157ffc36fd725f8ae9e27cd6d9dd543f378024c71daa", func := "loop.example/g00596/laws.FnExactAreEquivalent", spec := "fnExactAreEquivalent", unfollowed := true, recurses := true, apart := false }
def FnExactAreEquivalentSaid : Prop := fnExactAreEquivalentRow.holds Try.pinned (OpenSpec.ofChange fnExactAreEquivalentSpec)

/-- ITS FALSE NEIGHBOUR: 'it returns false'. Refute it at one input. -/
def fnExactAreEquivalentWrong : ChangeSpec := { name := "fnExactAreEquivalent", fn := fun _ => fun
  | [d1, d2] => { results := [.lit (.bool false)], args := [d1, d2] }
  | _ => none }
def FnExactAreEquivalentWrongFalsely : Prop := fnExactAreEquivalentRow.holds Try.pinned (OpenSpec.ofChange fnExactAreEquivalentWrong)

/-- 'laws.FnExactIsRedundant': WHATEVER THE INPUT: true; the input reads as it did. -/
def fnExactIsRedundantSpec : ChangeSpec := { name := "fnExactIsRedundant", fn := fun _ => fun
  | [d1, d2] => { results := [.lit (.bool true)], args := [d1, d2] }
  | _ => none }
def fnExactIsRedundantRow : OpenClaim := { program := "ytgkoggajdhibdaa", sum := "280cba0227a94e3dfee1157ffc36fd725f8ae9e27cd6d9dd543f378024c71daa", func := "loop.example/g00596/laws.FnExactIsRedundant", spec := "fnExactIsRedundant", unfollowed := true, recurses := true, apart := false }
def FnExactIsRedundantSaid : Prop := fnExactIsRedundantRow.holds Try.pinned (OpenSpec.ofChange fnExactIsRedundantSpec)

/-- ITS FALSE NEIGHBOUR: 'it returns false'. Refute it at one input. -/
def fnExactIsRedundantWrong : ChangeSpec := { name := "fnExactIsRedundant", fn := fun _ => fun
  | [d1, d2] => { results := [.lit (.bool false)], args := [d1, d2] }
  | _ => none }
def FnExactIsRedundantWrongFalsely : Prop := fnExactIsRedundantRow.holds Try.pinned (OpenSpec.ofChange fnExactIsRedundantWrong)

/-- 'laws.FnExactMinimalRules': WHATEVER THE INPUT: true; the input reads as it did. -/
def fnExactMinimalRulesSpec : ChangeSpec := { name := "fnExactMinimalRules", fn := fun _ => fun
  | [d] => { results := [.lit (.bool true)], args := [d] }
  | _ => none }
def fnExactMinimalRulesRow : OpenClaim := { program := "ytgkoggajdhibdaa", sum := "280cba0227a94e3dfee1157ffc36fd725f8ae9e27cd6d9dd543f378024c71daa", func := "loop.example/g00596/laws.FnExactMinimalRules", spec := "fnExactMinimalRules", unfollowed := true, recurses := true, apart := false }
def FnExactMinimalRulesSaid : Prop := fnExactMinimalRulesRow.holds Try.pinned (OpenSpec.ofChange fnExactMinimalRulesSpec)

/-- ITS FALSE NEIGHBOUR: 'it returns false'. Refute it at one input. -/
def fnExactMinimalRulesWrong : ChangeSpec := { name := "fnExactMinimalRules", fn := fun _ => fun
  | [d] => { results := [.lit (.bool false)], args := [d] }
  | _ => none }
def FnExactMinimalRulesWrongFalsely : Prop := fnExactMinimalRulesRow.holds Try.pinned (OpenSpec.ofChange fnExactMinimalRulesWrong)

/-- 'laws.FnExactShortRules': WHATEVER THE INPUT: true; the input reads as it did. -/
def fnExactShortRulesSpec : ChangeSpec := { name := "fnExactShortRules", fn := fun _ => fun
  | [d1, d2] => { results := [.lit (.bool true)], args := [d1, d2] }
  | _ => none }
def fnExactShortRulesRow : OpenClaim := { program := "ytgkoggajdhibdaa", sum := "280cba0227a94e3dfee1157ffc36fd725f8ae9e27cd6d9dd543f378024c71daa", func := "loop.example/g00596/laws.FnExactShortRules", spec := "fnExactShortRules", unfollowed := true, recurses := true, apart := false }
def FnExactShortRulesSaid : Prop := fnExactShortRulesRow.holds Try.pinned (OpenSpec.ofChange fnExactShortRulesSpec)

/-- ITS FALSE NEIGHBOUR: 'it returns false'. Refute it at one input. -/
def fnExactShortRulesWrong : ChangeSpec := { name := "fnExactShortRules", fn := fun _ => fun
  | [d1, d2] => { results := [.lit (.bool false)], args := [d1, d2] }
  | _ => none }
def FnExactShortRulesWrongFalsely : Prop := fnExactShortRulesRow.holds Try.pinned (OpenSpec.ofChange fnExactShortRulesWrong)

/-- 'laws.FnExactProofOf': WHATEVER THE INPUT: true; the input reads as it did. -/
def fnExactProofOfSpec : ChangeSpec := { name := "fnExactProofOf", fn := fun _ => fun
  | [d1, d2] => { results := [.lit (.bool true)], args := [d1, d2] }
  | _ => none }
def fnExactProofOfRow : OpenClaim := { program := "ytgkoggajdhibdaa", sum := "280cba0227a94e3dfee1157ffc36fd725f8ae9e27cd6d9dd543f378024c71daa", func := "loop.example/g00596/laws.FnExactProofOf", spec := "fnExactProofOf", unfollowed := true, recurses := true, apart := false }
def FnExactProofOfSaid : Prop := fnExactProofOfRow.holds Try.pinned (OpenSpec.ofChange fnExactProofOfSpec)

/-- ITS FALSE NEIGHBOUR: 'it returns false'. Refute it at one input. -/
def fnExactProofOfWrong : ChangeSpec := { name := "fnExactProofOf", fn := fun _ => fun
  | [d1, d2] => { results := [.lit (.bool false)], args := [d1, d2] }
  | _ => none }
def FnExactProofOfWrongFalsely : Prop := fnExactProofOfRow.holds Try.pinned (OpenSpec.ofChange fnExactProofOfWrong)

/-- 'laws.FnExactCheckProof': WHATEVER THE INPUT: true; the input reads as it did. -/
def fnExactCheckProofSpec : ChangeSpec := { name := "fnExactCheckProof", fn := fun _ => fun
  | [d1, d2, d3] => { results := [.lit (.bool true)], args := [d1, d2, d3] }
  | _ => none }
def fnExactCheckProofRow : OpenClaim := { program := "ytgkoggajdhibdaa", sum := "280cba0227a94e3dfee1157ffc36fd725f8ae9e27cd6d9dd543f378024c71daa", func := "loop.example/g00596/laws.FnExactCheckProof", spec := "fnExactCheckProof", apart := false }
def FnExactCheckProofSaid : Prop := fnExactCheckProofRow.holds Try.pinned (OpenSpec.ofChange fnExactCheckProofSpec)

/-- ITS FALSE NEIGHBOUR: 'it returns false'. Refute it at one input. -/
def fnExactCheckProofWrong : ChangeSpec := { name := "fnExactCheckProof", fn := fun _ => fun
  | [d1, d2, d3] => { results := [.lit (.bool false)], args := [d1, d2, d3] }
  | _ => none }
def FnExactCheckProofWrongFalsely : Prop := fnExactCheckProofRow.holds Try.pinned (OpenSpec.ofChange fnExactCheckProofWrong)

/-- 'laws.FnExactLeftReduced': WHATEVER THE INPUT: true; the input reads as it did. -/
def fnExactLeftReducedSpec : ChangeSpec := { name := "fnExactLeftReduced", fn := fun _ => fun
  | [d1, d2] => { results := [.lit (.bool true)], args := [d1, d2] }
  | _ => none }
def fnExactLeftReducedRow : OpenClaim := { program := "ytgkoggajdhibdaa", sum := "280cba0227a94e3dfee1157ffc36fd725f8ae9e27cd6d9dd543f378024c71daa", func := "loop.example/g00596/laws.FnExactLeftReduced", spec := "fnExactLeftReduced", unfollowed := true, recurses := true, apart := false }
def FnExactLeftReducedSaid : Prop := fnExactLeftReducedRow.holds Try.pinned (OpenSpec.ofChange fnExactLeftReducedSpec)

/-- ITS FALSE NEIGHBOUR: 'it returns false'. Refute it at one input. -/
def fnExactLeftReducedWrong : ChangeSpec := { name := "fnExactLeftReduced", fn := fun _ => fun
  | [d1, d2] => { results := [.lit (.bool false)], args := [d1, d2] }
  | _ => none }
def FnExactLeftReducedWrongFalsely : Prop := fnExactLeftReducedRow.holds Try.pinned (OpenSpec.ofChange fnExactLeftReducedWrong)

/- THE SECOND FORM. 'bulk': how many values and letters a reading holds, each counted each time it is reached (what is shared counts as often as it is met; a slice's spare places count too). A statement '..UptoSaid' is the law's where the arguments, and the package variables that the reading takes, are together of bulk at most 1048576: NARROWER than '..Said'. Prove '..Said' where nothing that the law and all that it calls make is longer than what came in: it says more and counts as full. Else prove '..UptoSaid'. A law counts once. -/
mutual
def uptoBulk {H : Type} : DataW H → Nat
  | .lit (.string bytes) => bytes.length + 1
  | .lit _ => 1
  | .nil => 1
  | .ptr d => uptoBulk d + 1
  | .slice elems spare => uptoBulkAll elems + uptoBulkAll spare + 1
  | .agg parts => uptoBulkAll parts + 1
  | .iface _ d => uptoBulk d + 1
  | .map entries => uptoBulkEntries entries + 1
  | .held _ => 1
def uptoBulkAll {H : Type} : List (DataW H) → Nat
  | [] => 0
  | d :: r => uptoBulk d + uptoBulkAll r
def uptoBulkEntries {H : Type} : List (Lit × DataW H) → Nat
  | [] => 0
  | x :: r => uptoBulkEntry x + uptoBulkEntries r
def uptoBulkEntry {H : Type} : Lit × DataW H → Nat
  | (.string bytes, d) => bytes.length + uptoBulk d + 1
  | (_, d) => uptoBulk d + 1
 end
def uptoSmall : (H : Type) → List (DataW H) → Bool := fun _ ds => decide (uptoBulkAll ds ≤ 1048576)
def OpenSpec.upto (s : _root_.Go.ChangeSpec) : _root_.Go.OpenSpec := { _root_.Go.OpenSpec.ofChange s with cond := some uptoSmall }

/-- 'laws.FnStem', WHERE WHAT IT READS IS OF BULK AT MOST 1048576: true; the input reads as it did. -/
def fnStemUptoRow : OpenClaim := { program := "ytgkoggajdhibdaa", sum := "280cba0227a94e3dfee1157ffc36fd725f8ae9e27cd6d9dd543f378024c71daa", func := "loop.example/g00596/laws.FnStem", spec := "fnStem", unfollowed := true, recurses := true, apart := false, narrowed := true }
def FnStemUptoSaid : Prop := fnStemUptoRow.holds Try.pinned (OpenSpec.upto fnStemSpec)

/-- 'laws.FnInference', WHERE WHAT IT READS IS OF BULK AT MOST 1048576: true; the input reads as it did. -/
def fnInferenceUptoRow : OpenClaim := { program := "ytgkoggajdhibdaa", sum := "280cba0227a94e3dfee1157ffc36fd725f8ae9e27cd6d9dd543f378024c71daa", func := "loop.example/g00596/laws.FnInference", spec := "fnInference", unfollowed := true, recurses := true, apart := false, narrowed := true }
def FnInferenceUptoSaid : Prop := fnInferenceUptoRow.holds Try.pinned (OpenSpec.upto fnInferenceSpec)

/-- 'laws.FnExactPseudoIntents', WHERE WHAT IT READS IS OF BULK AT MOST 1048576: true; the input reads as it did. -/
def fnExactPseudoIntentsUptoRow : OpenClaim := { program := "ytgkoggajdhibdaa", sum := "280cba0227a94e3dfee1157ffc36fd725f8ae9e27cd6d9dd543f378024c71daa", func := "loop.example/g00596/laws.FnExactPseudoIntents", spec := "fnExactPseudoIntents", unfollowed := true, recurses := true, apart := false, narrowed := true }
def FnExactPseudoIntentsUptoSaid : Prop := fnExactPseudoIntentsUptoRow.holds Try.pinned (OpenSpec.upto fnExactPseudoIntentsSpec)

/-- 'laws.FnExactStemBase', WHERE WHAT IT READS IS OF BULK AT MOST 1048576: true; the input reads as it did. -/
def fnExactStemBaseUptoRow : OpenClaim := { program := "ytgkoggajdhibdaa", sum := "280cba0227a94e3dfee1157ffc36fd725f8ae9e27cd6d9dd543f378024c71daa", func := "loop.example/g00596/laws.FnExactStemBase", spec := "fnExactStemBase", unfollowed := true, recurses := true, apart := false, narrowed := true }
def FnExactStemBaseUptoSaid : Prop := fnExactStemBaseUptoRow.holds Try.pinned (OpenSpec.upto fnExactStemBaseSpec)

/-- 'laws.FnExactIsBase', WHERE WHAT IT READS IS OF BULK AT MOST 1048576: true; the input reads as it did. -/
def fnExactIsBaseUptoRow : OpenClaim := { program := "ytgkoggajdhibdaa", sum := "280cba0227a94e3dfee1157ffc36fd725f8ae9e27cd6d9dd543f378024c71daa", func := "loop.example/g00596/laws.FnExactIsBase", spec := "fnExactIsBase", unfollowed := true, recurses := true, apart := false, narrowed := true }
def FnExactIsBaseUptoSaid : Prop := fnExactIsBaseUptoRow.holds Try.pinned (OpenSpec.upto fnExactIsBaseSpec)

/-- 'laws.FnExactIsShortest', WHERE WHAT IT READS IS OF BULK AT MOST 1048576: true; the input reads as it did. -/
def fnExactIsShortestUptoRow : OpenClaim := { program := "ytgkoggajdhibdaa", sum := "280cba0227a94e3dfee1157ffc36fd725f8ae9e27cd6d9dd543f378024c71daa", func := "loop.example/g00596/laws.FnExactIsShortest", spec := "fnExactIsShortest", unfollowed := true, recurses := true, apart := false, narrowed := true }
def FnExactIsShortestUptoSaid : Prop := fnExactIsShortestUptoRow.holds Try.pinned (OpenSpec.upto fnExactIsShortestSpec)

/-- 'laws.FnExactAreEquivalent', WHERE WHAT IT READS IS OF BULK AT MOST 1048576: true; the input reads as it did. -/
def fnExactAreEquivalentUptoRow : OpenClaim := { program := "ytgkoggajdhibdaa", sum := "280cba0227a94e3dfee1157ffc36fd725f8ae9e27cd6d9dd543f378024c71daa", func := "loop.example/g00596/laws.FnExactAreEquivalent", spec := "fnExactAreEquivalent", unfollowed := true, recurses := true, apart := false, narrowed := true }
def FnExactAreEquivalentUptoSaid : Prop := fnExactAreEquivalentUptoRow.holds Try.pinned (OpenSpec.upto fnExactAreEquivalentSpec)

/-- 'laws.FnExactIsRedundant', WHERE WHAT IT READS IS OF BULK AT MOST 1048576: true; the input reads as it did. -/
def fnExactIsRedundantUptoRow : OpenClaim := { program := "ytgkoggajdhibdaa", sum := "280cba0227a94e3dfee1157ffc36fd725f8ae9e27cd6d9dd543f378024c71daa", func := "loop.example/g00596/laws.FnExactIsRedundant", spec := "fnExactIsRedundant", unfollowed := true, recurses := true, apart := false, narrowed := true }
def FnExactIsRedundantUptoSaid : Prop := fnExactIsRedundantUptoRow.holds Try.pinned (OpenSpec.upto fnExactIsRedundantSpec)

/-- 'laws.FnExactMinimalRules', WHERE WHAT IT READS IS OF BULK AT MOST 1048576: true; the input reads as it did. -/
def fnExactMinimalRulesUptoRow : OpenClaim := { program := "ytgkoggajdhibdaa", sum := "280cba0227a94e3dfee1157ffc36fd725f8ae9e27cd6d9dd543f378024c71daa", func := "loop.example/g00596/laws.FnExactMinimalRules", spec := "fnExactMinimalRules", unfollowed := true, recurses := true, apart := false, narrowed := true }
def FnExactMinimalRulesUptoSaid : Prop := fnExactMinimalRulesUptoRow.holds Try.pinned (OpenSpec.upto fnExactMinimalRulesSpec)

/-- 'laws.FnExactShortRules', WHERE WHAT IT READS IS OF BULK AT MOST 1048576: true; the input reads as it did. -/
def fnExactShortRulesUptoRow : OpenClaim := { program := "ytgkoggajdhibdaa", sum := "280cba0227a94e3dfee1157ffc36fd725f8ae9e27cd6d9dd543f378024c71daa", func := "loop.example/g00596/laws.FnExactShortRules", spec := "fnExactShortRules", unfollowed := true, recurses := true, apart := false, narrowed := true }
def FnExactShortRulesUptoSaid : Prop := fnExactShortRulesUptoRow.holds Try.pinned (OpenSpec.upto fnExactShortRulesSpec)

/-- 'laws.FnExactProofOf', WHERE WHAT IT READS IS OF BULK AT MOST 1048576: true; the input reads as it did. -/
def fnExactProofOfUptoRow : OpenClaim := { program := "ytgkoggajdhibdaa", sum := "280cba0227a94e3dfee1157ffc36fd725f8ae9e27cd6d9dd543f378024c71daa", func := "loop.example/g00596/laws.FnExactProofOf", spec := "fnExactProofOf", unfollowed := true, recurses := true, apart := false, narrowed := true }
def FnExactProofOfUptoSaid : Prop := fnExactProofOfUptoRow.holds Try.pinned (OpenSpec.upto fnExactProofOfSpec)

/-- 'laws.FnExactCheckProof', WHERE WHAT IT READS IS OF BULK AT MOST 1048576: true; the input reads as it did. -/
def fnExactCheckProofUptoRow : OpenClaim := { program := "ytgkoggajdhibdaa", sum := "280cba0227a94e3dfee1157ffc36fd725f8ae9e27cd6d9dd543f378024c71daa", func := "loop.example/g00596/laws.FnExactCheckProof", spec := "fnExactCheckProof", apart := false, narrowed := true }
def FnExactCheckProofUptoSaid : Prop := fnExactCheckProofUptoRow.holds Try.pinned (OpenSpec.upto fnExactCheckProofSpec)

/-- 'laws.FnExactLeftReduced', WHERE WHAT IT READS IS OF BULK AT MOST 1048576: true; the input reads as it did. -/
def fnExactLeftReducedUptoRow : OpenClaim := { program := "ytgkoggajdhibdaa", sum := "280cba0227a94e3dfee1157ffc36fd725f8ae9e27cd6d9dd543f378024c71daa", func := "loop.example/g00596/laws.FnExactLeftReduced", spec := "fnExactLeftReduced", unfollowed := true, recurses := true, apart := false, narrowed := true }
def FnExactLeftReducedUptoSaid : Prop := fnExactLeftReducedUptoRow.holds Try.pinned (OpenSpec.upto fnExactLeftReducedSpec)

end Rows
end Go.Proofs.Ytgkoggajdhibdaa
