/-
  No cell of these rows narrows 'for every input' (looked for: loops, veiled, ifaces, maps, wideKeys, modest, calm, conditions, laid).
  DERIVED. THE GIVEN ROWS OF THIS SEAT. 6 by the template 'for every input the law returns true; each argument reads behind the call as it read before'; 0 by the template 'total and deterministic' (their statements: YtnihlegmmkbfgaaTotals.lean).
  GIVEN WITH THE SEED: the statements are not yours to turn. If you find one false, say at which input.
  Laid BY PROGRAM, IN A SANDBOX (cutbox-rows.mjs): the forced cells as the released guide's own fill.sh prints them over the translation fc14cf79f25d70f1… (all of the seat's roots in one cut). By AI agents, Wed Nov 11 2026. No macro, syntax, notation, axiom, sorry.
-/
import Derived.Test.YtnihlegmmkbfgaaChecked
import GoSem.Claim
import GoSem.ClaimJoined
import GoSem.ClaimMapViews
import Derived.JoinedTies
import Derived.KernelRfl
namespace Go.Proofs.Ytnihlegmmkbfgaa
/- THE CELL 'sum', in the pinned program and in every row, IS THE sha256 OF THE DUMP (.gsa) THAT YtnihlegmmkbfgaaProg.lean LOADS. Nothing in Lean hashes anything: it is a label: what it is worth is what the hold of that sum in a sandbox is worth. -/
noncomputable def Try.pinned : Pinned := { name := "ytnihlegmmkbfgaa", sum := "fc14cf79f25d70f122ca4b787d03d58ec99279728f5873784014435765bde5f9", checked := Try.checked }
namespace Rows
def none {H : Type} : Left H := { results := [], args := [] }

/-- 'laws.FnStem': WHATEVER THE INPUT: true; the input reads as it did. -/
def fnStemSpec : ChangeSpec := { name := "fnStem", fn := fun _ => fun
  | [d] => { results := [.lit (.bool true)], args := [d] }
  | _ => none }
def fnStemRow : OpenClaim := { program := "ytnihlegmmkbfgaa", sum := "fc14cf79f25d70f122ca4b787d03d58ec99279728f5873784014435765bde5f9", func := "loop.example/g00596/laws.FnStem", spec := "fnStem", unfollowed := true, recurses := true, apart := false }
def FnStemSaid : Prop := fnStemRow.holds Try.pinned (OpenSpec.ofChange fnStemSpec)

/-- ITS FALSE NEIGHBOUR: 'it returns false'. Refute it at one input. -/
def fnStemWrong : ChangeSpec := { name := "fnStem", fn := fun _ => fun
  | [d] => { results := [.lit (.bool false)], args := [d] }
  | _ => none }
def FnStemWrongFalsely : Prop := fnStemRow.holds Try.pinned (OpenSpec.ofChange fnStemWrong)

/-- 'laws.FnExactPseudoIntents': WHATEVER THE INPUT: true; the input reads as it did. -/
def fnExactPseudoIntentsSpec : ChangeSpec := { name := "fnExactPseudoIntents", fn := fun _ => fun
  | [d] => { results := [.lit (.bool true)], args := [d] }
  | _ => none }
def fnExactPseudoIntentsRow : OpenClaim := { program := "ytnihlegmmkbfgaa", sum := "fc14cf79f25d70f122ca4b787d03d58ec99279728f5873784014435765bde5f9", func := "loop.example/g00596/laws.FnExactPseudoIntents", spec := "fnExactPseudoIntents", unfollowed := true, recurses := true, apart := false }
def FnExactPseudoIntentsSaid : Prop := fnExactPseudoIntentsRow.holds Try.pinned (OpenSpec.ofChange fnExactPseudoIntentsSpec)

/-- ITS FALSE NEIGHBOUR: 'it returns false'. Refute it at one input. -/
def fnExactPseudoIntentsWrong : ChangeSpec := { name := "fnExactPseudoIntents", fn := fun _ => fun
  | [d] => { results := [.lit (.bool false)], args := [d] }
  | _ => none }
def FnExactPseudoIntentsWrongFalsely : Prop := fnExactPseudoIntentsRow.holds Try.pinned (OpenSpec.ofChange fnExactPseudoIntentsWrong)

/-- 'laws.FnExactStemBase': WHATEVER THE INPUT: true; the input reads as it did. -/
def fnExactStemBaseSpec : ChangeSpec := { name := "fnExactStemBase", fn := fun _ => fun
  | [d] => { results := [.lit (.bool true)], args := [d] }
  | _ => none }
def fnExactStemBaseRow : OpenClaim := { program := "ytnihlegmmkbfgaa", sum := "fc14cf79f25d70f122ca4b787d03d58ec99279728f5873784014435765bde5f9", func := "loop.example/g00596/laws.FnExactStemBase", spec := "fnExactStemBase", unfollowed := true, recurses := true, apart := false }
def FnExactStemBaseSaid : Prop := fnExactStemBaseRow.holds Try.pinned (OpenSpec.ofChange fnExactStemBaseSpec)

/-- ITS FALSE NEIGHBOUR: 'it returns false'. Refute it at one input. -/
def fnExactStemBaseWrong : ChangeSpec := { name := "fnExactStemBase", fn := fun _ => fun
  | [d] => { results := [.lit (.bool false)], args := [d] }
  | _ => none }
def FnExactStemBaseWrongFalsely : Prop := fnExactStemBaseRow.holds Try.pinned (OpenSpec.ofChange fnExactStemBaseWrong)

/-- 'laws.FnExactIsBase': WHATEVER THE INPUT: true; the input reads as it did. -/
def fnExactIsBaseSpec : ChangeSpec := { name := "fnExactIsBase", fn := fun _ => fun
  | [d1, d2] => { results := [.lit (.bool true)], args := [d1, d2] }
  | _ => none }
def fnExactIsBaseRow : OpenClaim := { program := "ytnihlegmmkbfgaa", sum := "fc14cf79f25d70f122ca4b787d03d58ec99279728f5873784014435765bde5f9", func := "loop.example/g00596/laws.FnExactIsBase", spec := "fnExactIsBase", unfollowed := true, recurses := true, apart := false }
def FnExactIsBaseSaid : Prop := fnExactIsBaseRow.holds Try.pinned (OpenSpec.ofChange fnExactIsBaseSpec)

/-- ITS FALSE NEIGHBOUR: 'it returns false'. Refute it at one input. -/
def fnExactIsBaseWrong : ChangeSpec := { name := "fnExactIsBase", fn := fun _ => fun
  | [d1, d2] => { results := [.lit (.bool false)], args := [d1, d2] }
  | _ => none }
def FnExactIsBaseWrongFalsely : Prop := fnExactIsBaseRow.holds Try.pinned (OpenSpec.ofChange fnExactIsBaseWrong)

/-- 'laws.FnExactIsShortest': WHATEVER THE INPUT: true; the input reads as it did. -/
def fnExactIsShortestSpec : ChangeSpec := { name := "fnExactIsShortest", fn := fun _ => fun
  | [d1, d2] => { results := [.lit (.bool true)], args := [d1, d2] }
  | _ => none }
def fnExactIsShortestRow : OpenClaim := { program := "ytnihlegmmkbfgaa", sum := "fc14cf79f25d70f122ca4b787d03d58ec99279728f5873784014435765bde5f9", func := "loop.example/g00596/laws.FnExactIsShortest", spec := "fnExactIsShortest", unfollowed := true, recurses := true, apart := false }
def FnExactIsShortestSaid : Prop := fnExactIsShortestRow.holds Try.pinned (OpenSpec.ofChange fnExactIsShortestSpec)

/-- ITS FALSE NEIGHBOUR: 'it returns false'. Refute it at one input. -/
def fnExactIsShortestWrong : ChangeSpec := { name := "fnExactIsShortest", fn := fun _ => fun
  | [d1, d2] => { results := [.lit (.bool false)], args := [d1, d2] }
  | _ => none }
def FnExactIsShortestWrongFalsely : Prop := fnExactIsShortestRow.holds Try.pinned (OpenSpec.ofChange fnExactIsShortestWrong)

/-- 'laws.FnExactCountRules': WHATEVER THE INPUT: true; the input reads as it did. -/
def fnExactCountRulesSpec : ChangeSpec := { name := "fnExactCountRules", fn := fun _ => fun
  | [d] => { results := [.lit (.bool true)], args := [d] }
  | _ => none }
def fnExactCountRulesRow : OpenClaim := { program := "ytnihlegmmkbfgaa", sum := "fc14cf79f25d70f122ca4b787d03d58ec99279728f5873784014435765bde5f9", func := "loop.example/g00596/laws.FnExactCountRules", spec := "fnExactCountRules", unfollowed := true, recurses := true, apart := false }
def FnExactCountRulesSaid : Prop := fnExactCountRulesRow.holds Try.pinned (OpenSpec.ofChange fnExactCountRulesSpec)

/-- ITS FALSE NEIGHBOUR: 'it returns false'. Refute it at one input. -/
def fnExactCountRulesWrong : ChangeSpec := { name := "fnExactCountRules", fn := fun _ => fun
  | [d] => { results := [.lit (.bool false)], args := [d] }
  | _ => none }
def FnExactCountRulesWrongFalsely : Prop := fnExactCountRulesRow.holds Try.pinned (OpenSpec.ofChange fnExactCountRulesWrong)

/- THE SECOND FORM. 'bulk': how many values and letters a reading holds, each counted each time it is reached (what is shared counts as often as it is met; a slice's spare places count too). A statement '..UptoSaid' is the law's where the arguments, and the package variables that the reading takes, are together of bulk at most 1048576: NARROWER than '..Said'. Prove '..Said' where nothing that the law and all that it calls make is longer than what came in: it says more and counts as full. Else prove '..UptoSaid'. A law counts once. -/
mutual
def uptoBulk {H : Type} : DataW H → Nat
  | .lit (.string bytes) => bytes.length + 1
  | .lit _ => 1
  | .nil => 1
  | .ptr d => uptoBulk d + 1
  | .slice elems spare => uptoBulkAll elems + uptoBulkAll spare + 1
  | .agg parts => uptoBulkAll parts + 1
  | .iface _ d => uptoBulk d + 1
  | .map entries => uptoBulkEntries entries + 1
  | .held _ => 1
def uptoBulkAll {H : Type} : List (DataW H) → Nat
  | [] => 0
  | d :: r => uptoBulk d + uptoBulkAll r
def uptoBulkEntries {H : Type} : List (Lit × DataW H) → Nat
  | [] => 0
  | x :: r => uptoBulkEntry x + uptoBulkEntries r
def uptoBulkEntry {H : Type} : Lit × DataW H → Nat
  | (.string bytes, d) => bytes.length + uptoBulk d + 1
  | (_, d) => uptoBulk d + 1
 end
def uptoSmall : (H : Type) → List (DataW H) → Bool := fun _ ds => decide (uptoBulkAll ds ≤ 1048576)
def OpenSpec.upto (s : _root_.Go.ChangeSpec) : _root_.Go.OpenSpec := { _root_.Go.OpenSpec.ofChange s with cond := some uptoSmall }

/-- 'laws.FnStem', WHERE WHAT IT READS IS OF BULK AT MOST 1048576: true; the input reads as it did. -/
def fnStemUptoRow : OpenClaim := { program := "ytnihlegmmkbfgaa", sum := "fc14cf79f25d70f122ca4b787d03d58ec99279728f5873784014435765bde5f9", func := "loop.example/g00596/laws.FnStem", spec := "fnStem", unfollowed := true, recurses := true, apart := false, narrowed := true }
def FnStemUptoSaid : Prop := fnStemUptoRow.holds Try.pinned (OpenSpec.upto fnStemSpec)

/-- 'laws.FnExactPseudoIntents', WHERE WHAT IT READS IS OF BULK AT MOST 1048576: true; the input reads as it did. -/
def fnExactPseudoIntentsUptoRow : OpenClaim := { program := "ytnihlegmmkbfgaa", sum := "fc14cf79f25d70f122ca4b787d03d58ec99279728f5873784014435765bde5f9", func := "loop.example/g00596/laws.FnExactPseudoIntents", spec := "fnExactPseudoIntents", unfollowed := true, recurses := true, apart := false, narrowed := true }
def FnExactPseudoIntentsUptoSaid : Prop := fnExactPseudoIntentsUptoRow.holds Try.pinned (OpenSpec.upto fnExactPseudoIntentsSpec)

/-- 'laws.FnExactStemBase', WHERE WHAT IT READS IS OF BULK AT MOST 1048576: true; the input reads as it did. -/
def fnExactStemBaseUptoRow : OpenClaim := { program := "ytnihlegmmkbfgaa", sum := "fc14cf79f25d70f122ca4b787d03d58ec99279728f5873784014435765bde5f9", func := "loop.example/g00596/laws.FnExactStemBase", spec := "fnExactStemBase", unfollowed := true, recurses := true, apart := false, narrowed := true }
def FnExactStemBaseUptoSaid : Prop := fnExactStemBaseUptoRow.holds Try.pinned (OpenSpec.upto fnExactStemBaseSpec)

/-- 'laws.FnExactIsBase', WHERE WHAT IT READS IS OF BULK AT MOST 1048576: true; the input reads as it did. -/
def fnExactIsBaseUptoRow : OpenClaim := { program := "ytnihlegmmkbfgaa", sum := "fc14cf79f25d70f122ca4b787d03d58ec99279728f5873784014435765bde5f9", func := "loop.example/g00596/laws.FnExactIsBase", spec := "fnExactIsBase", unfollowed := true, recurses := true, apart := false, narrowed := true }
def FnExactIsBaseUptoSaid : Prop := fnExactIsBaseUptoRow.holds Try.pinned (OpenSpec.upto fnExactIsBaseSpec)

/-- 'laws.FnExactIsShortest', WHERE WHAT IT READS IS OF BULK AT MOST 1048576: true; the input reads as it did. -/
def fnExactIsShortestUptoRow : OpenClaim := { program := "ytnihlegmmkbfgaa", sum := "fc14cf79f25d70f122ca4b787d03d58ec99279728f5873784014435765bde5f9", func := "loop.example/g00596/laws.FnExactIsShortest", spec := "fnExactIsShortest", unfollowed := true, recurses := true, apart := false, narrowed := true }
def FnExactIsShortestUptoSaid : Prop := fnExactIsShortestUptoRow.holds Try.pinned (OpenSpec.upto fnExactIsShortestSpec)

/-- 'laws.FnExactCountRules', WHERE WHAT IT READS IS OF BULK AT MOST 1048576: true; the input reads as it did. -/
def fnExactCountRulesUptoRow : OpenClaim := { program := "ytnihlegmmkbfgaa", sum := "fc14cf79f25d70f122ca4b787d03d58ec99279728f5873784014435765bde5f9", func := "loop.example/g00596/laws.FnExactCountRules", spec := "fnExactCountRules", unfollowed := true, recurses := true, apart := false, narrowed := true }
def FnExactCountRulesUptoSaid : Prop := fnExactCountRulesUptoRow.holds Try.pinned (OpenSpec.upto fnExactCountRulesSpec)

end Rows
end Go.Proofs.Ytnihlegmmkbfgaa
