/-
  No cell of these rows narrows 'for every input' (looked for: loops, veiled, ifaces, maps, wideKeys, modest, calm, conditions, laid).
  DERIVED. THE GIVEN ROWS OF THIS SEAT. 8 by the template 'for every input the law returns true; each argument reads behind the call as it read before'; 0 by the template 'total and deterministic' (their statements: YtmdpiikffnfnbaaTotals.lean).
  GIVEN WITH THE SEED: the statements are not yours to turn. If you find one false, say at which input.
  Laid BY PROGRAM, IN A SANDBOX (cutbox-rows.mjs): the forced cells as the released guide's own fill.sh prints them over the translation 5b534b1857ab5551… (all of the seat's roots in one cut). By AI agents, Wed Nov 11 2026. No macro, syntax, notation, axiom, sorry.
-/
import Derived.Test.YtmdpiikffnfnbaaChecked
import GoSem.Claim
import GoSem.ClaimJoined
import GoSem.ClaimMapViews
import Derived.JoinedTies
import Derived.KernelRfl
namespace Go.Proofs.Ytmdpiikffnfnbaa
/- THE CELL 'sum', in the pinned program and in every row, IS THE sha256 OF THE DUMP (.gsa) THAT YtmdpiikffnfnbaaProg.lean LOADS. Nothing in Lean hashes anything: it is a label: what it is worth is what the hold of that sum in a sandbox is worth. -/
noncomputable def Try.pinned : Pinned := { name := "ytmdpiikffnfnbaa", sum := "5b534b1857ab555189aa89a4250265c5032a20b00cf6a9911805f12cbb53d0f8", checked := Try.checked }
namespace Rows
def none {H : Type} : Left H := { results := [], args := [] }

/-- 'laws.FnExactAreRules': WHATEVER THE INPUT: true; the input reads as it did. -/
def fnExactAreRulesSpec : ChangeSpec := { name := "fnExactAreRules", fn := fun _ => fun
  | [d1, d2] => { results := [.lit (.bool true)], args := [d1, d2] }
  | _ => none }
def fnExactAreRulesRow : OpenClaim := { program := "ytmdpiikffnfnbaa", sum := "5b534b1857ab555189aa89a4250265c5032a20b00cf6a9911805f12cbb53d0f8", func := "loop.example/g00596/laws.FnExactAreRules", spec := "fnExactAreRules", apart := false }
def FnExactAreRulesSaid : Prop := fnExactAreRulesRow.holds Try.pinned (OpenSpec.ofChange fnExactAreRulesSpec)

/-- ITS FALSE NEIGHBOUR: 'it returns false'. Refute it at one input. -/
def fnExactAreRulesWrong : ChangeSpec := { name := "fnExactAreRules", fn := fun _ => fun
  | [d1, d2] => { results := [.lit (.bool false)], args := [d1, d2] }
  | _ => none }
def FnExactAreRulesWrongFalsely : Prop := fnExactAreRulesRow.holds Try.pinned (OpenSpec.ofChange fnExactAreRulesWrong)

/-- 'laws.FnExactHoldsIn': WHATEVER THE INPUT: true; the input reads as it did. -/
def fnExactHoldsInSpec : ChangeSpec := { name := "fnExactHoldsIn", fn := fun _ => fun
  | [d1, d2] => { results := [.lit (.bool true)], args := [d1, d2] }
  | _ => none }
def fnExactHoldsInRow : OpenClaim := { program := "ytmdpiikffnfnbaa", sum := "5b534b1857ab555189aa89a4250265c5032a20b00cf6a9911805f12cbb53d0f8", func := "loop.example/g00596/laws.FnExactHoldsIn", spec := "fnExactHoldsIn", unfollowed := true, recurses := true, apart := false }
def FnExactHoldsInSaid : Prop := fnExactHoldsInRow.holds Try.pinned (OpenSpec.ofChange fnExactHoldsInSpec)

/-- ITS FALSE NEIGHBOUR: 'it returns false'. Refute it at one input. -/
def fnExactHoldsInWrong : ChangeSpec := { name := "fnExactHoldsIn", fn := fun _ => fun
  | [d1, d2] => { results := [.lit (.bool false)], args := [d1, d2] }
  | _ => none }
def FnExactHoldsInWrongFalsely : Prop := fnExactHoldsInRow.holds Try.pinned (OpenSpec.ofChange fnExactHoldsInWrong)

/-- 'laws.FnExactRespects': WHATEVER THE INPUT: true; the input reads as it did. -/
def fnExactRespectsSpec : ChangeSpec := { name := "fnExactRespects", fn := fun _ => fun
  | [d1, d2] => { results := [.lit (.bool true)], args := [d1, d2] }
  | _ => none }
def fnExactRespectsRow : OpenClaim := { program := "ytmdpiikffnfnbaa", sum := "5b534b1857ab555189aa89a4250265c5032a20b00cf6a9911805f12cbb53d0f8", func := "loop.example/g00596/laws.FnExactRespects", spec := "fnExactRespects", unfollowed := true, recurses := true, apart := false }
def FnExactRespectsSaid : Prop := fnExactRespectsRow.holds Try.pinned (OpenSpec.ofChange fnExactRespectsSpec)

/-- ITS FALSE NEIGHBOUR: 'it returns false'. Refute it at one input. -/
def fnExactRespectsWrong : ChangeSpec := { name := "fnExactRespects", fn := fun _ => fun
  | [d1, d2] => { results := [.lit (.bool false)], args := [d1, d2] }
  | _ => none }
def FnExactRespectsWrongFalsely : Prop := fnExactRespectsRow.holds Try.pinned (OpenSpec.ofChange fnExactRespectsWrong)

/-- 'laws.FnExactClosedBy': WHATEVER THE INPUT: true; the input reads as it did. -/
def fnExactClosedBySpec : ChangeSpec := { name := "fnExactClosedBy", fn := fun _ => fun
  | [d1, d2] => { results := [.lit (.bool true)], args := [d1, d2] }
  | _ => none }
def fnExactClosedByRow : OpenClaim := { program := "ytmdpiikffnfnbaa", sum := "5b534b1857ab555189aa89a4250265c5032a20b00cf6a9911805f12cbb53d0f8", func := "loop.example/g00596/laws.FnExactClosedBy", spec := "fnExactClosedBy", unfollowed := true, recurses := true, apart := false }
def FnExactClosedBySaid : Prop := fnExactClosedByRow.holds Try.pinned (OpenSpec.ofChange fnExactClosedBySpec)

/-- ITS FALSE NEIGHBOUR: 'it returns false'. Refute it at one input. -/
def fnExactClosedByWrong : ChangeSpec := { name := "fnExactClosedBy", fn := fun _ => fun
  | [d1, d2] => { results := [.lit (.bool false)], args := [d1, d2] }
  | _ => none }
def FnExactClosedByWrongFalsely : Prop := fnExactClosedByRow.holds Try.pinned (OpenSpec.ofChange fnExactClosedByWrong)

/-- 'laws.FnExactFollows': WHATEVER THE INPUT: true; the input reads as it did. -/
def fnExactFollowsSpec : ChangeSpec := { name := "fnExactFollows", fn := fun _ => fun
  | [d1, d2] => { results := [.lit (.bool true)], args := [d1, d2] }
  | _ => none }
def fnExactFollowsRow : OpenClaim := { program := "ytmdpiikffnfnbaa", sum := "5b534b1857ab555189aa89a4250265c5032a20b00cf6a9911805f12cbb53d0f8", func := "loop.example/g00596/laws.FnExactFollows", spec := "fnExactFollows", unfollowed := true, recurses := true, apart := false }
def FnExactFollowsSaid : Prop := fnExactFollowsRow.holds Try.pinned (OpenSpec.ofChange fnExactFollowsSpec)

/-- ITS FALSE NEIGHBOUR: 'it returns false'. Refute it at one input. -/
def fnExactFollowsWrong : ChangeSpec := { name := "fnExactFollows", fn := fun _ => fun
  | [d1, d2] => { results := [.lit (.bool false)], args := [d1, d2] }
  | _ => none }
def FnExactFollowsWrongFalsely : Prop := fnExactFollowsRow.holds Try.pinned (OpenSpec.ofChange fnExactFollowsWrong)

/-- 'laws.FnExactRuleText': WHATEVER THE INPUT: true; the input reads as it did. -/
def fnExactRuleTextSpec : ChangeSpec := { name := "fnExactRuleText", fn := fun _ => fun
  | [d] => { results := [.lit (.bool true)], args := [d] }
  | _ => none }
def fnExactRuleTextRow : OpenClaim := { program := "ytmdpiikffnfnbaa", sum := "5b534b1857ab555189aa89a4250265c5032a20b00cf6a9911805f12cbb53d0f8", func := "loop.example/g00596/laws.FnExactRuleText", spec := "fnExactRuleText", apart := false }
def FnExactRuleTextSaid : Prop := fnExactRuleTextRow.holds Try.pinned (OpenSpec.ofChange fnExactRuleTextSpec)

/-- ITS FALSE NEIGHBOUR: 'it returns false'. Refute it at one input. -/
def fnExactRuleTextWrong : ChangeSpec := { name := "fnExactRuleText", fn := fun _ => fun
  | [d] => { results := [.lit (.bool false)], args := [d] }
  | _ => none }
def FnExactRuleTextWrongFalsely : Prop := fnExactRuleTextRow.holds Try.pinned (OpenSpec.ofChange fnExactRuleTextWrong)

/-- 'laws.FnExactParseRule': WHATEVER THE INPUT: true; the input reads as it did. -/
def fnExactParseRuleSpec : ChangeSpec := { name := "fnExactParseRule", fn := fun _ => fun
  | [d] => { results := [.lit (.bool true)], args := [d] }
  | _ => none }
def fnExactParseRuleRow : OpenClaim := { program := "ytmdpiikffnfnbaa", sum := "5b534b1857ab555189aa89a4250265c5032a20b00cf6a9911805f12cbb53d0f8", func := "loop.example/g00596/laws.FnExactParseRule", spec := "fnExactParseRule", inPlace := ["internal/bytealg.IndexByteString", "internal/bytealg.IndexString"], named := ["internal/bytealg.MaxLen"], apart := false }
def FnExactParseRuleSaid : Prop := fnExactParseRuleRow.holds Try.pinned (OpenSpec.ofChange fnExactParseRuleSpec)

/-- ITS FALSE NEIGHBOUR: 'it returns false'. Refute it at one input. -/
def fnExactParseRuleWrong : ChangeSpec := { name := "fnExactParseRule", fn := fun _ => fun
  | [d] => { results := [.lit (.bool false)], args := [d] }
  | _ => none }
def FnExactParseRuleWrongFalsely : Prop := fnExactParseRuleRow.holds Try.pinned (OpenSpec.ofChange fnExactParseRuleWrong)

/-- 'laws.FnExactRulesText': WHATEVER THE INPUT: true; the input reads as it did. -/
def fnExactRulesTextSpec : ChangeSpec := { name := "fnExactRulesText", fn := fun _ => fun
  | [d] => { results := [.lit (.bool true)], args := [d] }
  | _ => none }
def fnExactRulesTextRow : OpenClaim := { program := "ytmdpiikffnfnbaa", sum := "5b534b1857ab555189aa89a4250265c5032a20b00cf6a9911805f12cbb53d0f8", func := "loop.example/g00596/laws.FnExactRulesText", spec := "fnExactRulesText", inPlace := ["internal/abi.NoEscape", "internal/bytealg.MakeNoZero"], apart := false }
def FnExactRulesTextSaid : Prop := fnExactRulesTextRow.holds Try.pinned (OpenSpec.ofChange fnExactRulesTextSpec)

/-- ITS FALSE NEIGHBOUR: 'it returns false'. Refute it at one input. -/
def fnExactRulesTextWrong : ChangeSpec := { name := "fnExactRulesText", fn := fun _ => fun
  | [d] => { results := [.lit (.bool false)], args := [d] }
  | _ => none }
def FnExactRulesTextWrongFalsely : Prop := fnExactRulesTextRow.holds Try.pinned (OpenSpec.ofChange fnExactRulesTextWrong)

/- THE SECOND FORM. 'bulk': how many values and letters a reading holds, each counted each time it is reached (what is shared counts as often as it is met; a slice's spare places count too). A statement '..UptoSaid' is the law's where the arguments, and the package variables that the reading takes, are together of bulk at most 1048576: NARROWER than '..Said'. Prove '..Said' where nothing that the law and all that it calls make is longer than what came in: it says more and counts as full. Else prove '..UptoSaid'. A law counts once. -/
mutual
def uptoBulk {H : Type} : DataW H → Nat
  | .lit (.string bytes) => bytes.length + 1
  | .lit _ => 1
  | .nil => 1
  | .ptr d => uptoBulk d + 1
  | .slice elems spare => uptoBulkAll elems + uptoBulkAll spare + 1
  | .agg parts => uptoBulkAll parts + 1
  | .iface _ d => uptoBulk d + 1
  | .map entries => uptoBulkEntries entries + 1
  | .held _ => 1
def uptoBulkAll {H : Type} : List (DataW H) → Nat
  | [] => 0
  | d :: r => uptoBulk d + uptoBulkAll r
def uptoBulkEntries {H : Type} : List (Lit × DataW H) → Nat
  | [] => 0
  | x :: r => uptoBulkEntry x + uptoBulkEntries r
def uptoBulkEntry {H : Type} : Lit × DataW H → Nat
  | (.string bytes, d) => bytes.length + uptoBulk d + 1
  | (_, d) => uptoBulk d + 1
 end
def uptoSmall : (H : Type) → List (DataW H) → Bool := fun _ ds => decide (uptoBulkAll ds ≤ 1048576)
def OpenSpec.upto (s : _root_.Go.ChangeSpec) : _root_.Go.OpenSpec := { _root_.Go.OpenSpec.ofChange s with cond := some uptoSmall }

/-- 'laws.FnExactAreRules', WHERE WHAT IT READS IS OF BULK AT MOST 1048576: true; the input reads as it did. -/
def fnExactAreRulesUptoRow : OpenClaim := { program := "ytmdpiikffnfnbaa", sum := "5b534b1857ab555189aa89a4250265c5032a20b00cf6a9911805f12cbb53d0f8", func := "loop.example/g00596/laws.FnExactAreRules", spec := "fnExactAreRules", apart := false, narrowed := true }
def FnExactAreRulesUptoSaid : Prop := fnExactAreRulesUptoRow.holds Try.pinned (OpenSpec.upto fnExactAreRulesSpec)

/-- 'laws.FnExactHoldsIn', WHERE WHAT IT READS IS OF BULK AT MOST 1048576: true; the input reads as it did. -/
def fnExactHoldsInUptoRow : OpenClaim := { program := "ytmdpiikffnfnbaa", sum := "5b534b1857ab555189aa89a4250265c5032a20b00cf6a9911805f12cbb53d0f8", func := "loop.example/g00596/laws.FnExactHoldsIn", spec := "fnExactHoldsIn", unfollowed := true, recurses := true, apart := false, narrowed := true }
def FnExactHoldsInUptoSaid : Prop := fnExactHoldsInUptoRow.holds Try.pinned (OpenSpec.upto fnExactHoldsInSpec)

/-- 'laws.FnExactRespects', WHERE WHAT IT READS IS OF BULK AT MOST 1048576: true; the input reads as it did. -/
def fnExactRespectsUptoRow : OpenClaim := { program := "ytmdpiikffnfnbaa", sum := "5b534b1857ab555189aa89a4250265c5032a20b00cf6a9911805f12cbb53d0f8", func := "loop.example/g00596/laws.FnExactRespects", spec := "fnExactRespects", unfollowed := true, recurses := true, apart := false, narrowed := true }
def FnExactRespectsUptoSaid : Prop := fnExactRespectsUptoRow.holds Try.pinned (OpenSpec.upto fnExactRespectsSpec)

/-- 'laws.FnExactClosedBy', WHERE WHAT IT READS IS OF BULK AT MOST 1048576: true; the input reads as it did. -/
def fnExactClosedByUptoRow : OpenClaim := { program := "ytmdpiikffnfnbaa", sum := "5b534b1857ab555189aa89a4250265c5032a20b00cf6a9911805f12cbb53d0f8", func := "loop.example/g00596/laws.FnExactClosedBy", spec := "fnExactClosedBy", unfollowed := true, recurses := true, apart := false, narrowed := true }
def FnExactClosedByUptoSaid : Prop := fnExactClosedByUptoRow.holds Try.pinned (OpenSpec.upto fnExactClosedBySpec)

/-- 'laws.FnExactFollows', WHERE WHAT IT READS IS OF BULK AT MOST 1048576: true; the input reads as it did. -/
def fnExactFollowsUptoRow : OpenClaim := { program := "ytmdpiikffnfnbaa", sum := "5b534b1857ab555189aa89a4250265c5032a20b00cf6a9911805f12cbb53d0f8", func := "loop.example/g00596/laws.FnExactFollows", spec := "fnExactFollows", unfollowed := true, recurses := true, apart := false, narrowed := true }
def FnExactFollowsUptoSaid : Prop := fnExactFollowsUptoRow.holds Try.pinned (OpenSpec.upto fnExactFollowsSpec)

/-- 'laws.FnExactRuleText', WHERE WHAT IT READS IS OF BULK AT MOST 1048576: true; the input reads as it did. -/
def fnExactRuleTextUptoRow : OpenClaim := { program := "ytmdpiikffnfnbaa", sum := "5b534b1857ab555189aa89a4250265c5032a20b00cf6a9911805f12cbb53d0f8", func := "loop.example/g00596/laws.FnExactRuleText", spec := "fnExactRuleText", apart := false, narrowed := true }
def FnExactRuleTextUptoSaid : Prop := fnExactRuleTextUptoRow.holds Try.pinned (OpenSpec.upto fnExactRuleTextSpec)

/-- 'laws.FnExactParseRule', WHERE WHAT IT READS IS OF BULK AT MOST 1048576: true; the input reads as it did. -/
def fnExactParseRuleUptoRow : OpenClaim := { program := "ytmdpiikffnfnbaa", sum := "5b534b1857ab555189aa89a4250265c5032a20b00cf6a9911805f12cbb53d0f8", func := "loop.example/g00596/laws.FnExactParseRule", spec := "fnExactParseRule", inPlace := ["internal/bytealg.IndexByteString", "internal/bytealg.IndexString"], named := ["internal/bytealg.MaxLen"], apart := false, narrowed := true }
def FnExactParseRuleUptoSaid : Prop := fnExactParseRuleUptoRow.holds Try.pinned (OpenSpec.upto fnExactParseRuleSpec)

/-- 'laws.FnExactRulesText', WHERE WHAT IT READS IS OF BULK AT MOST 1048576: true; the input reads as it did. -/
def fnExactRulesTextUptoRow : OpenClaim := { program := "ytmdpiikffnfnbaa", sum := "5b534b1857ab555189aa89a4250265c5032a20b00cf6a9911805f12cbb53d0f8", func := "loop.example/g00596/laws.FnExactRulesText", spec := "fnExactRulesText", inPlace := ["internal/abi.NoEscape", "internal/bytealg.MakeNoZero"], apart := false, narrowed := true }
def FnExactRulesTextUptoSaid : Prop := fnExactRulesTextUptoRow.holds Try.pinned (OpenSpec.upto fnExactRulesTextSpec)

end Rows
end Go.Proofs.Ytmdpiikffnfnbaa
