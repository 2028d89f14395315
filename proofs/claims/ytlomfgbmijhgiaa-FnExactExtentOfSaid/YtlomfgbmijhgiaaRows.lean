/-
  No cell of these rows narrows 'for every input' (looked for: loops, veiled, ifaces, maps, wideKeys, modest, calm, conditions, laid).
  DERIVED. THE GIVEN ROWS OF THIS SEAT. 12 by the template 'for every input the law returns true; each argument reads behind the call as it read before'; 0 by the template 'total and deterministic' (their statements: YtlomfgbmijhgiaaTotals.lean).
  GIVEN WITH THE SEED: the statements are not yours to turn. If you find one false, say at which input.
  Laid BY PROGRAM, IN A SANDBOX (cutbox-rows.mjs): the forced cells as the released guide's own fill.sh prints them over the translation c97edc19e859ff75… (all of the seat's roots in one cut). By AI agents, Wed Nov 11 2026. No macro, syntax, notation, axiom, sorry.
-/
import Derived.Test.YtlomfgbmijhgiaaChecked
import GoSem.Claim
import GoSem.ClaimJoined
import GoSem.ClaimMapViews
import Derived.JoinedTies
import Derived.KernelRfl
namespace Go.Proofs.Ytlomfgbmijhgiaa
/- THE CELL 'sum', in the pinned program and in every row, IS THE sha256 OF THE DUMP (.gsa) THAT YtlomfgbmijhgiaaProg.lean LOADS. Nothing in Lean hashes anything: it is a label: what it is worth is what the hold of that sum in a sandbox is worth. -/
noncomputable def Try.pinned : Pinned := { name := "ytlomfgbmijhgiaa", sum := "c97edc19e859ff75f4a0ae973b6501c9ca4dbe461ec9b585ac7bd2da1c86dc16", checked := Try.checked }
namespace Rows
def none {H : Type} : Left H := { results := [], args := [] }

/-- 'laws.FnExactDualContext': WHATEVER THE INPUT: true; the input reads as it did. -/
def fnExactDualContextSpec : ChangeSpec := { name := "fnExactDualContext", fn := fun _ => fun
  | [d] => { results := [.lit (.bool true)], args := [d] }
  | _ => none }
def fnExactDualContextRow : OpenClaim := { program := "ytlomfgbmijhgiaa", sum := "c97edc19e859ff75f4a0ae973b6501c9ca4dbe461ec9b585ac7bd2da1c86dc16", func := "loop.example/g00596/laws.FnExactDualContext", spec := "fnExactDualContext", apart := false }
def FnExactDualContextSaid : Prop := fnExactDualContextRow.holds Try.pinned (OpenSpec.ofChange fnExactDualContextSpec)

/-- ITS FALSE NEIGHBOUR: 'it returns false'. Refute it at one input. -/
def fnExactDualContextWrong : ChangeSpec := { name := "fnExactDualContext", fn := fun _ => fun
  | [d] => { results := [.lit (.bool false)], args := [d] }
  | _ => none }
def FnExactDualContextWrongFalsely : Prop := fnExactDualContextRow.holds Try.pinned (OpenSpec.ofChange fnExactDualContextWrong)

/-- 'laws.FnExactExtentOf': WHATEVER THE INPUT: true; the input reads as it did. -/
def fnExactExtentOfSpec : ChangeSpec := { name := "fnExactExtentOf", fn := fun _ => fun
  | [d1, d2] => { results := [.lit (.bool true)], args := [d1, d2] }
  | _ => none }
def fnExactExtentOfRow : OpenClaim := { program := "ytlomfgbmijhgiaa", sum := "c97edc19e859ff75f4a0ae973b6501c9ca4dbe461ec9b585ac7bd2da1c86dc16", func := "loop.example/g00596/laws.FnExactExtentOf", spec := "fnExactExtentOf", apart := false }
def FnExactExtentOfSaid : Prop := fnExactExtentOfRow.holds Try.pinned (OpenSpec.ofChange fnExactExtentOfSpec)

/-- ITS FALSE NEIGHBOUR: 'it returns false'. Refute it at one input. -/
def fnExactExtentOfWrong : ChangeSpec := { name := "fnExactExtentOf", fn := fun _ => fun
  | [d1, d2] => { results := [.lit (.bool false)], args := [d1, d2] }
  | _ => none }
def FnExactExtentOfWrongFalsely : Prop := fnExactExtentOfRow.holds Try.pinned (OpenSpec.ofChange fnExactExtentOfWrong)

/-- 'laws.FnExactClosureOf': WHATEVER THE INPUT: true; the input reads as it did. -/
def fnExactClosureOfSpec : ChangeSpec := { name := "fnExactClosureOf", fn := fun _ => fun
  | [d1, d2] => { results := [.lit (.bool true)], args := [d1, d2] }
  | _ => none }
def fnExactClosureOfRow : OpenClaim := { program := "ytlomfgbmijhgiaa", sum := "c97edc19e859ff75f4a0ae973b6501c9ca4dbe461ec9b585ac7bd2da1c86dc16", func := "loop.example/g00596/laws.FnExactClosureOf", spec := "fnExactClosureOf", apart := false }
def FnExactClosureOfSaid : Prop := fnExactClosureOfRow.holds Try.pinned (OpenSpec.ofChange fnExactClosureOfSpec)

/-- ITS FALSE NEIGHBOUR: 'it returns false'. Refute it at one input. -/
def fnExactClosureOfWrong : ChangeSpec := { name := "fnExactClosureOf", fn := fun _ => fun
  | [d1, d2] => { results := [.lit (.bool false)], args := [d1, d2] }
  | _ => none }
def FnExactClosureOfWrongFalsely : Prop := fnExactClosureOfRow.holds Try.pinned (OpenSpec.ofChange fnExactClosureOfWrong)

/-- 'laws.FnExactObjectClosure': WHATEVER THE INPUT: true; the input reads as it did. -/
def fnExactObjectClosureSpec : ChangeSpec := { name := "fnExactObjectClosure", fn := fun _ => fun
  | [d1, d2] => { results := [.lit (.bool true)], args := [d1, d2] }
  | _ => none }
def fnExactObjectClosureRow : OpenClaim := { program := "ytlomfgbmijhgiaa", sum := "c97edc19e859ff75f4a0ae973b6501c9ca4dbe461ec9b585ac7bd2da1c86dc16", func := "loop.example/g00596/laws.FnExactObjectClosure", spec := "fnExactObjectClosure", apart := false }
def FnExactObjectClosureSaid : Prop := fnExactObjectClosureRow.holds Try.pinned (OpenSpec.ofChange fnExactObjectClosureSpec)

/-- ITS FALSE NEIGHBOUR: 'it returns false'. Refute it at one input. -/
def fnExactObjectClosureWrong : ChangeSpec := { name := "fnExactObjectClosure", fn := fun _ => fun
  | [d1, d2] => { results := [.lit (.bool false)], args := [d1, d2] }
  | _ => none }
def FnExactObjectClosureWrongFalsely : Prop := fnExactObjectClosureRow.holds Try.pinned (OpenSpec.ofChange fnExactObjectClosureWrong)

/-- 'laws.FnExactIsClosed': WHATEVER THE INPUT: true; the input reads as it did. -/
def fnExactIsClosedSpec : ChangeSpec := { name := "fnExactIsClosed", fn := fun _ => fun
  | [d1, d2] => { results := [.lit (.bool true)], args := [d1, d2] }
  | _ => none }
def fnExactIsClosedRow : OpenClaim := { program := "ytlomfgbmijhgiaa", sum := "c97edc19e859ff75f4a0ae973b6501c9ca4dbe461ec9b585ac7bd2da1c86dc16", func := "loop.example/g00596/laws.FnExactIsClosed", spec := "fnExactIsClosed", apart := false }
def FnExactIsClosedSaid : Prop := fnExactIsClosedRow.holds Try.pinned (OpenSpec.ofChange fnExactIsClosedSpec)

/-- ITS FALSE NEIGHBOUR: 'it returns false'. Refute it at one input. -/
def fnExactIsClosedWrong : ChangeSpec := { name := "fnExactIsClosed", fn := fun _ => fun
  | [d1, d2] => { results := [.lit (.bool false)], args := [d1, d2] }
  | _ => none }
def FnExactIsClosedWrongFalsely : Prop := fnExactIsClosedRow.holds Try.pinned (OpenSpec.ofChange fnExactIsClosedWrong)

/-- 'laws.FnExactIsConcept': WHATEVER THE INPUT: true; the input reads as it did. -/
def fnExactIsConceptSpec : ChangeSpec := { name := "fnExactIsConcept", fn := fun _ => fun
  | [d1, d2] => { results := [.lit (.bool true)], args := [d1, d2] }
  | _ => none }
def fnExactIsConceptRow : OpenClaim := { program := "ytlomfgbmijhgiaa", sum := "c97edc19e859ff75f4a0ae973b6501c9ca4dbe461ec9b585ac7bd2da1c86dc16", func := "loop.example/g00596/laws.FnExactIsConcept", spec := "fnExactIsConcept", apart := false }
def FnExactIsConceptSaid : Prop := fnExactIsConceptRow.holds Try.pinned (OpenSpec.ofChange fnExactIsConceptSpec)

/-- ITS FALSE NEIGHBOUR: 'it returns false'. Refute it at one input. -/
def fnExactIsConceptWrong : ChangeSpec := { name := "fnExactIsConcept", fn := fun _ => fun
  | [d1, d2] => { results := [.lit (.bool false)], args := [d1, d2] }
  | _ => none }
def FnExactIsConceptWrongFalsely : Prop := fnExactIsConceptRow.holds Try.pinned (OpenSpec.ofChange fnExactIsConceptWrong)

/-- 'laws.FnExactNextClosed': WHATEVER THE INPUT: true; the input reads as it did. -/
def fnExactNextClosedSpec : ChangeSpec := { name := "fnExactNextClosed", fn := fun _ => fun
  | [d1, d2] => { results := [.lit (.bool true)], args := [d1, d2] }
  | _ => none }
def fnExactNextClosedRow : OpenClaim := { program := "ytlomfgbmijhgiaa", sum := "c97edc19e859ff75f4a0ae973b6501c9ca4dbe461ec9b585ac7bd2da1c86dc16", func := "loop.example/g00596/laws.FnExactNextClosed", spec := "fnExactNextClosed", apart := false }
def FnExactNextClosedSaid : Prop := fnExactNextClosedRow.holds Try.pinned (OpenSpec.ofChange fnExactNextClosedSpec)

/-- ITS FALSE NEIGHBOUR: 'it returns false'. Refute it at one input. -/
def fnExactNextClosedWrong : ChangeSpec := { name := "fnExactNextClosed", fn := fun _ => fun
  | [d1, d2] => { results := [.lit (.bool false)], args := [d1, d2] }
  | _ => none }
def FnExactNextClosedWrongFalsely : Prop := fnExactNextClosedRow.holds Try.pinned (OpenSpec.ofChange fnExactNextClosedWrong)

/-- 'laws.FnExactConcepts': WHATEVER THE INPUT: true; the input reads as it did. -/
def fnExactConceptsSpec : ChangeSpec := { name := "fnExactConcepts", fn := fun _ => fun
  | [d] => { results := [.lit (.bool true)], args := [d] }
  | _ => none }
def fnExactConceptsRow : OpenClaim := { program := "ytlomfgbmijhgiaa", sum := "c97edc19e859ff75f4a0ae973b6501c9ca4dbe461ec9b585ac7bd2da1c86dc16", func := "loop.example/g00596/laws.FnExactConcepts", spec := "fnExactConcepts", unfollowed := true, recurses := true, apart := false }
def FnExactConceptsSaid : Prop := fnExactConceptsRow.holds Try.pinned (OpenSpec.ofChange fnExactConceptsSpec)

/-- ITS FALSE NEIGHBOUR: 'it returns false'. Refute it at one input. -/
def fnExactConceptsWrong : ChangeSpec := { name := "fnExactConcepts", fn := fun _ => fun
  | [d] => { results := [.lit (.bool false)], args := [d] }
  | _ => none }
def FnExactConceptsWrongFalsely : Prop := fnExactConceptsRow.holds Try.pinned (OpenSpec.ofChange fnExactConceptsWrong)

/-- 'laws.FnExactConceptAt': WHATEVER THE INPUT: true; the input reads as it did. -/
def fnExactConceptAtSpec : ChangeSpec := { name := "fnExactConceptAt", fn := fun _ => fun
  | [d1, d2] => { results := [.lit (.bool true)], args := [d1, d2] }
  | _ => none }
def fnExactConceptAtRow : OpenClaim := { program := "ytlomfgbmijhgiaa", sum := "c97edc19e859ff75f4a0ae973b6501c9ca4dbe461ec9b585ac7bd2da1c86dc16", func := "loop.example/g00596/laws.FnExactConceptAt", spec := "fnExactConceptAt", apart := false }
def FnExactConceptAtSaid : Prop := fnExactConceptAtRow.holds Try.pinned (OpenSpec.ofChange fnExactConceptAtSpec)

/-- ITS FALSE NEIGHBOUR: 'it returns false'. Refute it at one input. -/
def fnExactConceptAtWrong : ChangeSpec := { name := "fnExactConceptAt", fn := fun _ => fun
  | [d1, d2] => { results := [.lit (.bool false)], args := [d1, d2] }
  | _ => none }
def FnExactConceptAtWrongFalsely : Prop := fnExactConceptAtRow.holds Try.pinned (OpenSpec.ofChange fnExactConceptAtWrong)

/-- 'laws.FnExactObjectConcept': WHATEVER THE INPUT: true; the input reads as it did. -/
def fnExactObjectConceptSpec : ChangeSpec := { name := "fnExactObjectConcept", fn := fun _ => fun
  | [d1, d2] => { results := [.lit (.bool true)], args := [d1, d2] }
  | _ => none }
def fnExactObjectConceptRow : OpenClaim := { program := "ytlomfgbmijhgiaa", sum := "c97edc19e859ff75f4a0ae973b6501c9ca4dbe461ec9b585ac7bd2da1c86dc16", func := "loop.example/g00596/laws.FnExactObjectConcept", spec := "fnExactObjectConcept", apart := false }
def FnExactObjectConceptSaid : Prop := fnExactObjectConceptRow.holds Try.pinned (OpenSpec.ofChange fnExactObjectConceptSpec)

/-- ITS FALSE NEIGHBOUR: 'it returns false'. Refute it at one input. -/
def fnExactObjectConceptWrong : ChangeSpec := { name := "fnExactObjectConcept", fn := fun _ => fun
  | [d1, d2] => { results := [.lit (.bool false)], args := [d1, d2] }
  | _ => none }
def FnExactObjectConceptWrongFalsely : Prop := fnExactObjectConceptRow.holds Try.pinned (OpenSpec.ofChange fnExactObjectConceptWrong)

/-- 'laws.FnExactAttributeConcept': WHATEVER THE INPUT: true; the input reads as it did. -/
def fnExactAttributeConceptSpec : ChangeSpec := { name := "fnExactAttributeConcept", fn := fun _ => fun
  | [d1, d2] => { results := [.lit (.bool true)], args := [d1, d2] }
  | _ => none }
def fnExactAttributeConceptRow : OpenClaim := { program := "ytlomfgbmijhgiaa", sum := "c97edc19e859ff75f4a0ae973b6501c9ca4dbe461ec9b585ac7bd2da1c86dc16", func := "loop.example/g00596/laws.FnExactAttributeConcept", spec := "fnExactAttributeConcept", apart := false }
def FnExactAttributeConceptSaid : Prop := fnExactAttributeConceptRow.holds Try.pinned (OpenSpec.ofChange fnExactAttributeConceptSpec)

/-- ITS FALSE NEIGHBOUR: 'it returns false'. Refute it at one input. -/
def fnExactAttributeConceptWrong : ChangeSpec := { name := "fnExactAttributeConcept", fn := fun _ => fun
  | [d1, d2] => { results := [.lit (.bool false)], args := [d1, d2] }
  | _ => none }
def FnExactAttributeConceptWrongFalsely : Prop := fnExactAttributeConceptRow.holds Try.pinned (OpenSpec.ofChange fnExactAttributeConceptWrong)

/-- 'laws.FnExactClarify': WHATEVER THE INPUT: true; the input reads as it did. -/
def fnExactClarifySpec : ChangeSpec := { name := "fnExactClarify", fn := fun _ => fun
  | [d] => { results := [.lit (.bool true)], args := [d] }
  | _ => none }
def fnExactClarifyRow : OpenClaim := { program := "ytlomfgbmijhgiaa", sum := "c97edc19e859ff75f4a0ae973b6501c9ca4dbe461ec9b585ac7bd2da1c86dc16", func := "loop.example/g00596/laws.FnExactClarify", spec := "fnExactClarify", apart := false }
def FnExactClarifySaid : Prop := fnExactClarifyRow.holds Try.pinned (OpenSpec.ofChange fnExactClarifySpec)

/-- ITS FALSE NEIGHBOUR: 'it returns false'. Refute it at one input. -/
def fnExactClarifyWrong : ChangeSpec := { name := "fnExactClarify", fn := fun _ => fun
  | [d] => { results := [.lit (.bool false)], args := [d] }
  | _ => none }
def FnExactClarifyWrongFalsely : Prop := fnExactClarifyRow.holds Try.pinned (OpenSpec.ofChange fnExactClarifyWrong)

/- THE SECOND FORM. 'bulk': how many values and letters a reading holds, each counted each time it is reached (what is shared counts as often as it is met; a slice's spare places count too). A statement '..UptoSaid' is the law's where the arguments, and the package variables that the reading takes, are together of bulk at most 1048576: NARROWER than '..Said'. Prove '..Said' where nothing that the law and all that it calls make is longer than what came in: it says more and counts as full. Else prove '..UptoSaid'. A law counts once. -/
mutual
def uptoBulk {H : Type} : DataW H → Nat
  | .lit (.string bytes) => bytes.length + 1
  | .lit _ => 1
  | .nil => 1
  | .ptr d => uptoBulk d + 1
  | .slice elems spare => uptoBulkAll elems + uptoBulkAll spare + 1
  | .agg parts => uptoBulkAll parts + 1
  | .iface _ d => uptoBulk d + 1
  | .map entries => uptoBulkEntries entries + 1
  | .held _ => 1
def uptoBulkAll {H : Type} : List (DataW H) → Nat
  | [] => 0
  | d :: r => uptoBulk d + uptoBulkAll r
def uptoBulkEntries {H : Type} : List (Lit × DataW H) → Nat
  | [] => 0
  | x :: r => uptoBulkEntry x + uptoBulkEntries r
def uptoBulkEntry {H : Type} : Lit × DataW H → Nat
  | (.string bytes, d) => bytes.length + uptoBulk d + 1
  | (_, d) => uptoBulk d + 1
 end
def uptoSmall : (H : Type) → List (DataW H) → Bool := fun _ ds => decide (uptoBulkAll ds ≤ 1048576)
def OpenSpec.upto (s : _root_.Go.ChangeSpec) : _root_.Go.OpenSpec := { _root_.Go.OpenSpec.ofChange s with cond := some uptoSmall }

/-- 'laws.FnExactDualContext', WHERE WHAT IT READS IS OF BULK AT MOST 1048576: true; the input reads as it did. -/
def fnExactDualContextUptoRow : OpenClaim := { program := "ytlomfgbmijhgiaa", sum := "c97edc19e859ff75f4a0ae973b6501c9ca4dbe461ec9b585ac7bd2da1c86dc16", func := "loop.example/g00596/laws.FnExactDualContext", spec := "fnExactDualContext", apart := false, narrowed := true }
def FnExactDualContextUptoSaid : Prop := fnExactDualContextUptoRow.holds Try.pinned (OpenSpec.upto fnExactDualContextSpec)

/-- 'laws.FnExactExtentOf', WHERE WHAT IT READS IS OF BULK AT MOST 1048576: true; the input reads as it did. -/
def fnExactExtentOfUptoRow : OpenClaim := { program := "ytlomfgbmijhgiaa", sum := "c97edc19e859ff75f4a0ae973b6501c9ca4dbe461ec9b585ac7bd2da1c86dc16", func := "loop.example/g00596/laws.FnExactExtentOf", spec := "fnExactExtentOf", apart := false, narrowed := true }
def FnExactExtentOfUptoSaid : Prop := fnExactExtentOfUptoRow.holds Try.pinned (OpenSpec.upto fnExactExtentOfSpec)

/-- 'laws.FnExactClosureOf', WHERE WHAT IT READS IS OF BULK AT MOST 1048576: true; the input reads as it did. -/
def fnExactClosureOfUptoRow : OpenClaim := { program := "ytlomfgbmijhgiaa", sum := "c97edc19e859ff75f4a0ae973b6501c9ca4dbe461ec9b585ac7bd2da1c86dc16", func := "loop.example/g00596/laws.FnExactClosureOf", spec := "fnExactClosureOf", apart := false, narrowed := true }
def FnExactClosureOfUptoSaid : Prop := fnExactClosureOfUptoRow.holds Try.pinned (OpenSpec.upto fnExactClosureOfSpec)

/-- 'laws.FnExactObjectClosure', WHERE WHAT IT READS IS OF BULK AT MOST 1048576: true; the input reads as it did. -/
def fnExactObjectClosureUptoRow : OpenClaim := { program := "ytlomfgbmijhgiaa", sum := "c97edc19e859ff75f4a0ae973b6501c9ca4dbe461ec9b585ac7bd2da1c86dc16", func := "loop.example/g00596/laws.FnExactObjectClosure", spec := "fnExactObjectClosure", apart := false, narrowed := true }
def FnExactObjectClosureUptoSaid : Prop := fnExactObjectClosureUptoRow.holds Try.pinned (OpenSpec.upto fnExactObjectClosureSpec)

/-- 'laws.FnExactIsClosed', WHERE WHAT IT READS IS OF BULK AT MOST 1048576: true; the input reads as it did. -/
def fnExactIsClosedUptoRow : OpenClaim := { program := "ytlomfgbmijhgiaa", sum := "c97edc19e859ff75f4a0ae973b6501c9ca4dbe461ec9b585ac7bd2da1c86dc16", func := "loop.example/g00596/laws.FnExactIsClosed", spec := "fnExactIsClosed", apart := false, narrowed := true }
def FnExactIsClosedUptoSaid : Prop := fnExactIsClosedUptoRow.holds Try.pinned (OpenSpec.upto fnExactIsClosedSpec)

/-- 'laws.FnExactIsConcept', WHERE WHAT IT READS IS OF BULK AT MOST 1048576: true; the input reads as it did. -/
def fnExactIsConceptUptoRow : OpenClaim := { program := "ytlomfgbmijhgiaa", sum := "c97edc19e859ff75f4a0ae973b6501c9ca4dbe461ec9b585ac7bd2da1c86dc16", func := "loop.example/g00596/laws.FnExactIsConcept", spec := "fnExactIsConcept", apart := false, narrowed := true }
def FnExactIsConceptUptoSaid : Prop := fnExactIsConceptUptoRow.holds Try.pinned (OpenSpec.upto fnExactIsConceptSpec)

/-- 'laws.FnExactNextClosed', WHERE WHAT IT READS IS OF BULK AT MOST 1048576: true; the input reads as it did. -/
def fnExactNextClosedUptoRow : OpenClaim := { program := "ytlomfgbmijhgiaa", sum := "c97edc19e859ff75f4a0ae973b6501c9ca4dbe461ec9b585ac7bd2da1c86dc16", func := "loop.example/g00596/laws.FnExactNextClosed", spec := "fnExactNextClosed", apart := false, narrowed := true }
def FnExactNextClosedUptoSaid : Prop := fnExactNextClosedUptoRow.holds Try.pinned (OpenSpec.upto fnExactNextClosedSpec)

/-- 'laws.FnExactConcepts', WHERE WHAT IT READS IS OF BULK AT MOST 1048576: true; the input reads as it did. -/
def fnExactConceptsUptoRow : OpenClaim := { program := "ytlomfgbmijhgiaa", sum := "c97edc19e859ff75f4a0ae973b6501c9ca4dbe461ec9b585ac7bd2da1c86dc16", func := "loop.example/g00596/laws.FnExactConcepts", spec := "fnExactConcepts", unfollowed := true, recurses := true, apart := false, narrowed := true }
def FnExactConceptsUptoSaid : Prop := fnExactConceptsUptoRow.holds Try.pinned (OpenSpec.upto fnExactConceptsSpec)

/-- 'laws.FnExactConceptAt', WHERE WHAT IT READS IS OF BULK AT MOST 1048576: true; the input reads as it did. -/
def fnExactConceptAtUptoRow : OpenClaim := { program := "ytlomfgbmijhgiaa", sum := "c97edc19e859ff75f4a0ae973b6501c9ca4dbe461ec9b585ac7bd2da1c86dc16", func := "loop.example/g00596/laws.FnExactConceptAt", spec := "fnExactConceptAt", apart := false, narrowed := true }
def FnExactConceptAtUptoSaid : Prop := fnExactConceptAtUptoRow.holds Try.pinned (OpenSpec.upto fnExactConceptAtSpec)

/-- 'laws.FnExactObjectConcept', WHERE WHAT IT READS IS OF BULK AT MOST 1048576: true; the input reads as it did. -/
def fnExactObjectConceptUptoRow : OpenClaim := { program := "ytlomfgbmijhgiaa", sum := "c97edc19e859ff75f4a0ae973b6501c9ca4dbe461ec9b585ac7bd2da1c86dc16", func := "loop.example/g00596/laws.FnExactObjectConcept", spec := "fnExactObjectConcept", apart := false, narrowed := true }
def FnExactObjectConceptUptoSaid : Prop := fnExactObjectConceptUptoRow.holds Try.pinned (OpenSpec.upto fnExactObjectConceptSpec)

/-- 'laws.FnExactAttributeConcept', WHERE WHAT IT READS IS OF BULK AT MOST 1048576: true; the input reads as it did. -/
def fnExactAttributeConceptUptoRow : OpenClaim := { program := "ytlomfgbmijhgiaa", sum := "c97edc19e859ff75f4a0ae973b6501c9ca4dbe461ec9b585ac7bd2da1c86dc16", func := "loop.example/g00596/laws.FnExactAttributeConcept", spec := "fnExactAttributeConcept", apart := false, narrowed := true }
def FnExactAttributeConceptUptoSaid : Prop := fnExactAttributeConceptUptoRow.holds Try.pinned (OpenSpec.upto fnExactAttributeConceptSpec)

/-- 'laws.FnExactClarify', WHERE WHAT IT READS IS OF BULK AT MOST 1048576: true; the input reads as it did. -/
def fnExactClarifyUptoRow : OpenClaim := { program := "ytlomfgbmijhgiaa", sum := "c97edc19e859ff75f4a0ae973b6501c9ca4dbe461ec9b585ac7bd2da1c86dc16", func := "loop.example/g00596/laws.FnExactClarify", spec := "fnExactClarify", apart := false, narrowed := true }
def FnExactClarifyUptoSaid : Prop := fnExactClarifyUptoRow.holds Try.pinned (OpenSpec.upto fnExactClarifySpec)

end Rows
end Go.Proofs.Ytlomfgbmijhgiaa
