/-
  No cell of these rows narrows 'for every input' (looked for: loops, veiled, ifaces, maps, wideKeys, modest, calm, conditions, laid).
  DERIVED. THE GIVEN ROWS OF THIS SEAT. 10 by the template 'for every input the law returns true; each argument reads behind the call as it read before'; 0 by the template 'total and deterministic' (their statements: YtdijookknlcnoaaTotals.lean).
  GIVEN WITH THE SEED: the statements are not yours to turn. If you find one false, say at which input.
  Laid BY PROGRAM, IN A SANDBOX (cutbox-rows.mjs): the forced cells as the released guide's own fill.sh prints them over the translation dbbea720df19645f… (all of the seat's roots in one cut). By AI agents, Wed Nov 11 2026. No macro, syntax, notation, axiom, sorry.
-/
import Derived.Test.YtdijookknlcnoaaChecked
import GoSem.Claim
import GoSem.ClaimJoined
import GoSem.ClaimMapViews
import Derived.JoinedTies
import Derived.KernelRfl
namespace Go.Proofs.Ytdijookknlcnoaa
/- THE CELL 'sum', in the pinned program and in every row, IS THE sha256 OF THE DUMP (.gsa) THAT YtdijookknlcnoaaProg.lean LOADS. Nothing in Lean hashes anything: it is a label: what it is worth is what the hold of that sum in a sandbox is worth. -/
noncomputable def Try.pinned : Pinned := { name := "ytdijookknlcnoaa", sum := "dbbea720df19645f56a56c461050632d4bd87f37e10931d9f47becca6fd279c5", checked := Try.checked }
namespace Rows
def none {H : Type} : Left H := { results := [], args := [] }

/-- 'laws.FnConcepts': WHATEVER THE INPUT: true; the input reads as it did. -/
def fnConceptsSpec : ChangeSpec := { name := "fnConcepts", fn := fun _ => fun
  | [d] => { results := [.lit (.bool true)], args := [d] }
  | _ => none }
def fnConceptsRow : OpenClaim := { program := "ytdijookknlcnoaa", sum := "dbbea720df19645f56a56c461050632d4bd87f37e10931d9f47becca6fd279c5", func := "loop.example/g00596/laws.FnConcepts", spec := "fnConcepts", unfollowed := true, recurses := true, apart := false }
def FnConceptsSaid : Prop := fnConceptsRow.holds Try.pinned (OpenSpec.ofChange fnConceptsSpec)

/-- ITS FALSE NEIGHBOUR: 'it returns false'. Refute it at one input. -/
def fnConceptsWrong : ChangeSpec := { name := "fnConcepts", fn := fun _ => fun
  | [d] => { results := [.lit (.bool false)], args := [d] }
  | _ => none }
def FnConceptsWrongFalsely : Prop := fnConceptsRow.holds Try.pinned (OpenSpec.ofChange fnConceptsWrong)

/-- 'laws.FnReduced': WHATEVER THE INPUT: true; the input reads as it did. -/
def fnReducedSpec : ChangeSpec := { name := "fnReduced", fn := fun _ => fun
  | [d] => { results := [.lit (.bool true)], args := [d] }
  | _ => none }
def fnReducedRow : OpenClaim := { program := "ytdijookknlcnoaa", sum := "dbbea720df19645f56a56c461050632d4bd87f37e10931d9f47becca6fd279c5", func := "loop.example/g00596/laws.FnReduced", spec := "fnReduced", apart := false }
def FnReducedSaid : Prop := fnReducedRow.holds Try.pinned (OpenSpec.ofChange fnReducedSpec)

/-- ITS FALSE NEIGHBOUR: 'it returns false'. Refute it at one input. -/
def fnReducedWrong : ChangeSpec := { name := "fnReduced", fn := fun _ => fun
  | [d] => { results := [.lit (.bool false)], args := [d] }
  | _ => none }
def FnReducedWrongFalsely : Prop := fnReducedRow.holds Try.pinned (OpenSpec.ofChange fnReducedWrong)

/-- 'laws.FnExactColumnOf': WHATEVER THE INPUT: true; the input reads as it did. -/
def fnExactColumnOfSpec : ChangeSpec := { name := "fnExactColumnOf", fn := fun _ => fun
  | [d1, d2] => { results := [.lit (.bool true)], args := [d1, d2] }
  | _ => none }
def fnExactColumnOfRow : OpenClaim := { program := "ytdijookknlcnoaa", sum := "dbbea720df19645f56a56c461050632d4bd87f37e10931d9f47becca6fd279c5", func := "loop.example/g00596/laws.FnExactColumnOf", spec := "fnExactColumnOf", apart := false }
def FnExactColumnOfSaid : Prop := fnExactColumnOfRow.holds Try.pinned (OpenSpec.ofChange fnExactColumnOfSpec)

/-- ITS FALSE NEIGHBOUR: 'it returns false'. Refute it at one input. -/
def fnExactColumnOfWrong : ChangeSpec := { name := "fnExactColumnOf", fn := fun _ => fun
  | [d1, d2] => { results := [.lit (.bool false)], args := [d1, d2] }
  | _ => none }
def FnExactColumnOfWrongFalsely : Prop := fnExactColumnOfRow.holds Try.pinned (OpenSpec.ofChange fnExactColumnOfWrong)

/-- 'laws.FnExactDualContext': WHATEVER THE INPUT: true; the input reads as it did. -/
def fnExactDualContextSpec : ChangeSpec := { name := "fnExactDualContext", fn := fun _ => fun
  | [d] => { results := [.lit (.bool true)], args := [d] }
  | _ => none }
def fnExactDualContextRow : OpenClaim := { program := "ytdijookknlcnoaa", sum := "dbbea720df19645f56a56c461050632d4bd87f37e10931d9f47becca6fd279c5", func := "loop.example/g00596/laws.FnExactDualContext", spec := "fnExactDualContext", apart := false }
def FnExactDualContextSaid : Prop := fnExactDualContextRow.holds Try.pinned (OpenSpec.ofChange fnExactDualContextSpec)

/-- ITS FALSE NEIGHBOUR: 'it returns false'. Refute it at one input. -/
def fnExactDualContextWrong : ChangeSpec := { name := "fnExactDualContext", fn := fun _ => fun
  | [d] => { results := [.lit (.bool false)], args := [d] }
  | _ => none }
def FnExactDualContextWrongFalsely : Prop := fnExactDualContextRow.holds Try.pinned (OpenSpec.ofChange fnExactDualContextWrong)

/-- 'laws.FnExactDropObjects': WHATEVER THE INPUT: true; the input reads as it did. -/
def fnExactDropObjectsSpec : ChangeSpec := { name := "fnExactDropObjects", fn := fun _ => fun
  | [d1, d2] => { results := [.lit (.bool true)], args := [d1, d2] }
  | _ => none }
def fnExactDropObjectsRow : OpenClaim := { program := "ytdijookknlcnoaa", sum := "dbbea720df19645f56a56c461050632d4bd87f37e10931d9f47becca6fd279c5", func := "loop.example/g00596/laws.FnExactDropObjects", spec := "fnExactDropObjects", apart := false }
def FnExactDropObjectsSaid : Prop := fnExactDropObjectsRow.holds Try.pinned (OpenSpec.ofChange fnExactDropObjectsSpec)

/-- ITS FALSE NEIGHBOUR: 'it returns false'. Refute it at one input. -/
def fnExactDropObjectsWrong : ChangeSpec := { name := "fnExactDropObjects", fn := fun _ => fun
  | [d1, d2] => { results := [.lit (.bool false)], args := [d1, d2] }
  | _ => none }
def FnExactDropObjectsWrongFalsely : Prop := fnExactDropObjectsRow.holds Try.pinned (OpenSpec.ofChange fnExactDropObjectsWrong)

/-- 'laws.FnExactDropAttributes': WHATEVER THE INPUT: true; the input reads as it did. -/
def fnExactDropAttributesSpec : ChangeSpec := { name := "fnExactDropAttributes", fn := fun _ => fun
  | [d1, d2] => { results := [.lit (.bool true)], args := [d1, d2] }
  | _ => none }
def fnExactDropAttributesRow : OpenClaim := { program := "ytdijookknlcnoaa", sum := "dbbea720df19645f56a56c461050632d4bd87f37e10931d9f47becca6fd279c5", func := "loop.example/g00596/laws.FnExactDropAttributes", spec := "fnExactDropAttributes", apart := false }
def FnExactDropAttributesSaid : Prop := fnExactDropAttributesRow.holds Try.pinned (OpenSpec.ofChange fnExactDropAttributesSpec)

/-- ITS FALSE NEIGHBOUR: 'it returns false'. Refute it at one input. -/
def fnExactDropAttributesWrong : ChangeSpec := { name := "fnExactDropAttributes", fn := fun _ => fun
  | [d1, d2] => { results := [.lit (.bool false)], args := [d1, d2] }
  | _ => none }
def FnExactDropAttributesWrongFalsely : Prop := fnExactDropAttributesRow.holds Try.pinned (OpenSpec.ofChange fnExactDropAttributesWrong)

/-- 'laws.FnExactClarify': WHATEVER THE INPUT: true; the input reads as it did. -/
def fnExactClarifySpec : ChangeSpec := { name := "fnExactClarify", fn := fun _ => fun
  | [d] => { results := [.lit (.bool true)], args := [d] }
  | _ => none }
def fnExactClarifyRow : OpenClaim := { program := "ytdijookknlcnoaa", sum := "dbbea720df19645f56a56c461050632d4bd87f37e10931d9f47becca6fd279c5", func := "loop.example/g00596/laws.FnExactClarify", spec := "fnExactClarify", apart := false }
def FnExactClarifySaid : Prop := fnExactClarifyRow.holds Try.pinned (OpenSpec.ofChange fnExactClarifySpec)

/-- ITS FALSE NEIGHBOUR: 'it returns false'. Refute it at one input. -/
def fnExactClarifyWrong : ChangeSpec := { name := "fnExactClarify", fn := fun _ => fun
  | [d] => { results := [.lit (.bool false)], args := [d] }
  | _ => none }
def FnExactClarifyWrongFalsely : Prop := fnExactClarifyRow.holds Try.pinned (OpenSpec.ofChange fnExactClarifyWrong)

/-- 'laws.FnExactIsReducibleObject': WHATEVER THE INPUT: true; the input reads as it did. -/
def fnExactIsReducibleObjectSpec : ChangeSpec := { name := "fnExactIsReducibleObject", fn := fun _ => fun
  | [d1, d2] => { results := [.lit (.bool true)], args := [d1, d2] }
  | _ => none }
def fnExactIsReducibleObjectRow : OpenClaim := { program := "ytdijookknlcnoaa", sum := "dbbea720df19645f56a56c461050632d4bd87f37e10931d9f47becca6fd279c5", func := "loop.example/g00596/laws.FnExactIsReducibleObject", spec := "fnExactIsReducibleObject", apart := false }
def FnExactIsReducibleObjectSaid : Prop := fnExactIsReducibleObjectRow.holds Try.pinned (OpenSpec.ofChange fnExactIsReducibleObjectSpec)

/-- ITS FALSE NEIGHBOUR: 'it returns false'. Refute it at one input. -/
def fnExactIsReducibleObjectWrong : ChangeSpec := { name := "fnExactIsReducibleObject", fn := fun _ => fun
  | [d1, d2] => { results := [.lit (.bool false)], args := [d1, d2] }
  | _ => none }
def FnExactIsReducibleObjectWrongFalsely : Prop := fnExactIsReducibleObjectRow.holds Try.pinned (OpenSpec.ofChange fnExactIsReducibleObjectWrong)

/-- 'laws.FnExactIsReducibleAttribute': WHATEVER THE INPUT: true; the input reads as it did. -/
def fnExactIsReducibleAttributeSpec : ChangeSpec := { name := "fnExactIsReducibleAttribute", fn := fun _ => fun
  | [d1, d2] => { results := [.lit (.bool true)], args := [d1, d2] }
  | _ => none }
def fnExactIsReducibleAttributeRow : OpenClaim := { program := "ytdijookknlcnoaa", sum := "dbbea720df19645f56a56c461050632d4bd87f37e10931d9f47becca6fd279c5", func := "loop.example/g00596/laws.FnExactIsReducibleAttribute", spec := "fnExactIsReducibleAttribute", apart := false }
def FnExactIsReducibleAttributeSaid : Prop := fnExactIsReducibleAttributeRow.holds Try.pinned (OpenSpec.ofChange fnExactIsReducibleAttributeSpec)

/-- ITS FALSE NEIGHBOUR: 'it returns false'. Refute it at one input. -/
def fnExactIsReducibleAttributeWrong : ChangeSpec := { name := "fnExactIsReducibleAttribute", fn := fun _ => fun
  | [d1, d2] => { results := [.lit (.bool false)], args := [d1, d2] }
  | _ => none }
def FnExactIsReducibleAttributeWrongFalsely : Prop := fnExactIsReducibleAttributeRow.holds Try.pinned (OpenSpec.ofChange fnExactIsReducibleAttributeWrong)

/-- 'laws.FnExactReduceContext': WHATEVER THE INPUT: true; the input reads as it did. -/
def fnExactReduceContextSpec : ChangeSpec := { name := "fnExactReduceContext", fn := fun _ => fun
  | [d] => { results := [.lit (.bool true)], args := [d] }
  | _ => none }
def fnExactReduceContextRow : OpenClaim := { program := "ytdijookknlcnoaa", sum := "dbbea720df19645f56a56c461050632d4bd87f37e10931d9f47becca6fd279c5", func := "loop.example/g00596/laws.FnExactReduceContext", spec := "fnExactReduceContext", apart := false }
def FnExactReduceContextSaid : Prop := fnExactReduceContextRow.holds Try.pinned (OpenSpec.ofChange fnExactReduceContextSpec)

/-- ITS FALSE NEIGHBOUR: 'it returns false'. Refute it at one input. -/
def fnExactReduceContextWrong : ChangeSpec := { name := "fnExactReduceContext", fn := fun _ => fun
  | [d] => { results := [.lit (.bool false)], args := [d] }
  | _ => none }
def FnExactReduceContextWrongFalsely : Prop := fnExactReduceContextRow.holds Try.pinned (OpenSpec.ofChange fnExactReduceContextWrong)

/- THE SECOND FORM. 'bulk': how many values and letters a reading holds, each counted each time it is reached (what is shared counts as often as it is met; a slice's spare places count too). A statement '..UptoSaid' is the law's where the arguments, and the package variables that the reading takes, are together of bulk at most 1048576: NARROWER than '..Said'. Prove '..Said' where nothing that the law and all that it calls make is longer than what came in: it says more and counts as full. Else prove '..UptoSaid'. A law counts once. -/
mutual
def uptoBulk {H : Type} : DataW H → Nat
  | .lit (.string bytes) => bytes.length + 1
  | .lit _ => 1
  | .nil => 1
  | .ptr d => uptoBulk d + 1
  | .slice elems spare => uptoBulkAll elems + uptoBulkAll spare + 1
  | .agg parts => uptoBulkAll parts + 1
  | .iface _ d => uptoBulk d + 1
  | .map entries => uptoBulkEntries entries + 1
  | .held _ => 1
def uptoBulkAll {H : Type} : List (DataW H) → Nat
  | [] => 0
  | d :: r => uptoBulk d + uptoBulkAll r
def uptoBulkEntries {H : Type} : List (Lit × DataW H) → Nat
  | [] => 0
  | x :: r => uptoBulkEntry x + uptoBulkEntries r
def uptoBulkEntry {H : Type} : Lit × DataW H → Nat
  | (.string bytes, d) => bytes.length + uptoBulk d + 1
  | (_, d) => uptoBulk d + 1
 end
def uptoSmall : (H : Type) → List (DataW H) → Bool := fun _ ds => decide (uptoBulkAll ds ≤ 1048576)
def OpenSpec.upto (s : _root_.Go.ChangeSpec) : _root_.Go.OpenSpec := { _root_.Go.OpenSpec.ofChange s with cond := some uptoSmall }

/-- 'laws.FnConcepts', WHERE WHAT IT READS IS OF BULK AT MOST 1048576: true; the input reads as it did. -/
def fnConceptsUptoRow : OpenClaim := { program := "ytdijookknlcnoaa", sum := "dbbea720df19645f56a56c461050632d4bd87f37e10931d9f47becca6fd279c5", func := "loop.example/g00596/laws.FnConcepts", spec := "fnConcepts", unfollowed := true, recurses := true, apart := false, narrowed := true }
def FnConceptsUptoSaid : Prop := fnConceptsUptoRow.holds Try.pinned (OpenSpec.upto fnConceptsSpec)

/-- 'laws.FnReduced', WHERE WHAT IT READS IS OF BULK AT MOST 1048576: true; the input reads as it did. -/
def fnReducedUptoRow : OpenClaim := { program := "ytdijookknlcnoaa", sum := "dbbea720df19645f56a56c461050632d4bd87f37e10931d9f47becca6fd279c5", func := "loop.example/g00596/laws.FnReduced", spec := "fnReduced", apart := false, narrowed := true }
def FnReducedUptoSaid : Prop := fnReducedUptoRow.holds Try.pinned (OpenSpec.upto fnReducedSpec)

/-- 'laws.FnExactColumnOf', WHERE WHAT IT READS IS OF BULK AT MOST 1048576: true; the input reads as it did. -/
def fnExactColumnOfUptoRow : OpenClaim := { program := "ytdijookknlcnoaa", sum := "dbbea720df19645f56a56c461050632d4bd87f37e10931d9f47becca6fd279c5", func := "loop.example/g00596/laws.FnExactColumnOf", spec := "fnExactColumnOf", apart := false, narrowed := true }
def FnExactColumnOfUptoSaid : Prop := fnExactColumnOfUptoRow.holds Try.pinned (OpenSpec.upto fnExactColumnOfSpec)

/-- 'laws.FnExactDualContext', WHERE WHAT IT READS IS OF BULK AT MOST 1048576: true; the input reads as it did. -/
def fnExactDualContextUptoRow : OpenClaim := { program := "ytdijookknlcnoaa", sum := "dbbea720df19645f56a56c461050632d4bd87f37e10931d9f47becca6fd279c5", func := "loop.example/g00596/laws.FnExactDualContext", spec := "fnExactDualContext", apart := false, narrowed := true }
def FnExactDualContextUptoSaid : Prop := fnExactDualContextUptoRow.holds Try.pinned (OpenSpec.upto fnExactDualContextSpec)

/-- 'laws.FnExactDropObjects', WHERE WHAT IT READS IS OF BULK AT MOST 1048576: true; the input reads as it did. -/
def fnExactDropObjectsUptoRow : OpenClaim := { program := "ytdijookknlcnoaa", sum := "dbbea720df19645f56a56c461050632d4bd87f37e10931d9f47becca6fd279c5", func := "loop.example/g00596/laws.FnExactDropObjects", spec := "fnExactDropObjects", apart := false, narrowed := true }
def FnExactDropObjectsUptoSaid : Prop := fnExactDropObjectsUptoRow.holds Try.pinned (OpenSpec.upto fnExactDropObjectsSpec)

/-- 'laws.FnExactDropAttributes', WHERE WHAT IT READS IS OF BULK AT MOST 1048576: true; the input reads as it did. -/
def fnExactDropAttributesUptoRow : OpenClaim := { program := "ytdijookknlcnoaa", sum := "dbbea720df19645f56a56c461050632d4bd87f37e10931d9f47becca6fd279c5", func := "loop.example/g00596/laws.FnExactDropAttributes", spec := "fnExactDropAttributes", apart := false, narrowed := true }
def FnExactDropAttributesUptoSaid : Prop := fnExactDropAttributesUptoRow.holds Try.pinned (OpenSpec.upto fnExactDropAttributesSpec)

/-- 'laws.FnExactClarify', WHERE WHAT IT READS IS OF BULK AT MOST 1048576: true; the input reads as it did. -/
def fnExactClarifyUptoRow : OpenClaim := { program := "ytdijookknlcnoaa", sum := "dbbea720df19645f56a56c461050632d4bd87f37e10931d9f47becca6fd279c5", func := "loop.example/g00596/laws.FnExactClarify", spec := "fnExactClarify", apart := false, narrowed := true }
def FnExactClarifyUptoSaid : Prop := fnExactClarifyUptoRow.holds Try.pinned (OpenSpec.upto fnExactClarifySpec)

/-- 'laws.FnExactIsReducibleObject', WHERE WHAT IT READS IS OF BULK AT MOST 1048576: true; the input reads as it did. -/
def fnExactIsReducibleObjectUptoRow : OpenClaim := { program := "ytdijookknlcnoaa", sum := "dbbea720df19645f56a56c461050632d4bd87f37e10931d9f47becca6fd279c5", func := "loop.example/g00596/laws.FnExactIsReducibleObject", spec := "fnExactIsReducibleObject", apart := false, narrowed := true }
def FnExactIsReducibleObjectUptoSaid : Prop := fnExactIsReducibleObjectUptoRow.holds Try.pinned (OpenSpec.upto fnExactIsReducibleObjectSpec)

/-- 'laws.FnExactIsReducibleAttribute', WHERE WHAT IT READS IS OF BULK AT MOST 1048576: true; the input reads as it did. -/
def fnExactIsReducibleAttributeUptoRow : OpenClaim := { program := "ytdijookknlcnoaa", sum := "dbbea720df19645f56a56c461050632d4bd87f37e10931d9f47becca6fd279c5", func := "loop.example/g00596/laws.FnExactIsReducibleAttribute", spec := "fnExactIsReducibleAttribute", apart := false, narrowed := true }
def FnExactIsReducibleAttributeUptoSaid : Prop := fnExactIsReducibleAttributeUptoRow.holds Try.pinned (OpenSpec.upto fnExactIsReducibleAttributeSpec)

/-- 'laws.FnExactReduceContext', WHERE WHAT IT READS IS OF BULK AT MOST 1048576: true; the input reads as it did. -/
def fnExactReduceContextUptoRow : OpenClaim := { program := "ytdijookknlcnoaa", sum := "dbbea720df19645f56a56c461050632d4bd87f37e10931d9f47becca6fd279c5", func := "loop.example/g00596/laws.FnExactReduceContext", spec := "fnExactReduceContext", apart := false, narrowed := true }
def FnExactReduceContextUptoSaid : Prop := fnExactReduceContextUptoRow.holds Try.pinned (OpenSpec.upto fnExactReduceContextSpec)

end Rows
end Go.Proofs.Ytdijookknlcnoaa
