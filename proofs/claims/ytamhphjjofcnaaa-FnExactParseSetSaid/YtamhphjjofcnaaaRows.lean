/-
  No cell of these rows narrows 'for every input' (looked for: loops, veiled, ifaces, maps, wideKeys, modest, calm, conditions, laid).
  DERIVED. THE GIVEN ROWS OF THIS SEAT. 11 by the template 'for every input the law returns true; each argument reads behind the call as it read before'; 0 by the template 'total and deterministic' (their statements: YtamhphjjofcnaaaTotals.lean).
  GIVEN WITH THE SEED: the statements are not yours to turn. If you find one false, say at which input.
  Laid BY PROGRAM, IN A SANDBOX (cutbox-rows.mjs): the forced cells as the released guide's own fill.sh prints them over the translation cce3158e2c4efb7b… (all of the seat's roots in one cut). By AI agents, Wed Nov 11 2026. No macro, syntax, notation, axiom, sorry.
-/
import Derived.Test.YtamhphjjofcnaaaChecked
import GoSem.Claim
import GoSem.ClaimJoined
import GoSem.ClaimMapViews
import Derived.JoinedTies
import Derived.KernelRfl
namespace Go.Proofs.Ytamhphjjofcnaaa
/- THE CELL 'sum', in the pinned program and in every row, IS THE sha256 OF THE DUMP (.gsa) THAT YtamhphjjofcnaaaProg.lean LOADS. Nothing in Lean hashes anything: it is a label: what it is worth is what the hold of that sum in a sandbox is worth. -/
noncomputable def Try.pinned : Pinned := { name := "ytamhphjjofcnaaa", sum := "cce3158e2c4efb7b46d6ab3dae40dd373e6b999fb86887062906dd0da203e586", checked := Try.checked }
namespace Rows
def none {H : Type} : Left H := { results := [], args := [] }

/-- 'laws.FnExactIsSet': WHATEVER THE INPUT: true; the input reads as it did. -/
def fnExactIsSetSpec : ChangeSpec := { name := "fnExactIsSet", fn := fun _ => fun
  | [d1, d2] => { results := [.lit (.bool true)], args := [d1, d2] }
  | _ => none }
def fnExactIsSetRow : OpenClaim := { program := "ytamhphjjofcnaaa", sum := "cce3158e2c4efb7b46d6ab3dae40dd373e6b999fb86887062906dd0da203e586", func := "loop.example/g00596/laws.FnExactIsSet", spec := "fnExactIsSet", apart := false }
def FnExactIsSetSaid : Prop := fnExactIsSetRow.holds Try.pinned (OpenSpec.ofChange fnExactIsSetSpec)

/-- ITS FALSE NEIGHBOUR: 'it returns false'. Refute it at one input. -/
def fnExactIsSetWrong : ChangeSpec := { name := "fnExactIsSet", fn := fun _ => fun
  | [d1, d2] => { results := [.lit (.bool false)], args := [d1, d2] }
  | _ => none }
def FnExactIsSetWrongFalsely : Prop := fnExactIsSetRow.holds Try.pinned (OpenSpec.ofChange fnExactIsSetWrong)

/-- 'laws.FnExactFullSet': WHATEVER THE INPUT: true; the input reads as it did. -/
def fnExactFullSetSpec : ChangeSpec := { name := "fnExactFullSet", fn := fun _ => fun
  | [d] => { results := [.lit (.bool true)], args := [d] }
  | _ => none }
def fnExactFullSetRow : OpenClaim := { program := "ytamhphjjofcnaaa", sum := "cce3158e2c4efb7b46d6ab3dae40dd373e6b999fb86887062906dd0da203e586", func := "loop.example/g00596/laws.FnExactFullSet", spec := "fnExactFullSet", apart := false }
def FnExactFullSetSaid : Prop := fnExactFullSetRow.holds Try.pinned (OpenSpec.ofChange fnExactFullSetSpec)

/-- ITS FALSE NEIGHBOUR: 'it returns false'. Refute it at one input. -/
def fnExactFullSetWrong : ChangeSpec := { name := "fnExactFullSet", fn := fun _ => fun
  | [d] => { results := [.lit (.bool false)], args := [d] }
  | _ => none }
def FnExactFullSetWrongFalsely : Prop := fnExactFullSetRow.holds Try.pinned (OpenSpec.ofChange fnExactFullSetWrong)

/-- 'laws.FnExactHasElement': WHATEVER THE INPUT: true; the input reads as it did. -/
def fnExactHasElementSpec : ChangeSpec := { name := "fnExactHasElement", fn := fun _ => fun
  | [d1, d2] => { results := [.lit (.bool true)], args := [d1, d2] }
  | _ => none }
def fnExactHasElementRow : OpenClaim := { program := "ytamhphjjofcnaaa", sum := "cce3158e2c4efb7b46d6ab3dae40dd373e6b999fb86887062906dd0da203e586", func := "loop.example/g00596/laws.FnExactHasElement", spec := "fnExactHasElement", apart := false }
def FnExactHasElementSaid : Prop := fnExactHasElementRow.holds Try.pinned (OpenSpec.ofChange fnExactHasElementSpec)

/-- ITS FALSE NEIGHBOUR: 'it returns false'. Refute it at one input. -/
def fnExactHasElementWrong : ChangeSpec := { name := "fnExactHasElement", fn := fun _ => fun
  | [d1, d2] => { results := [.lit (.bool false)], args := [d1, d2] }
  | _ => none }
def FnExactHasElementWrongFalsely : Prop := fnExactHasElementRow.holds Try.pinned (OpenSpec.ofChange fnExactHasElementWrong)

/-- 'laws.FnExactElementsOf': WHATEVER THE INPUT: true; the input reads as it did. -/
def fnExactElementsOfSpec : ChangeSpec := { name := "fnExactElementsOf", fn := fun _ => fun
  | [d] => { results := [.lit (.bool true)], args := [d] }
  | _ => none }
def fnExactElementsOfRow : OpenClaim := { program := "ytamhphjjofcnaaa", sum := "cce3158e2c4efb7b46d6ab3dae40dd373e6b999fb86887062906dd0da203e586", func := "loop.example/g00596/laws.FnExactElementsOf", spec := "fnExactElementsOf", apart := false }
def FnExactElementsOfSaid : Prop := fnExactElementsOfRow.holds Try.pinned (OpenSpec.ofChange fnExactElementsOfSpec)

/-- ITS FALSE NEIGHBOUR: 'it returns false'. Refute it at one input. -/
def fnExactElementsOfWrong : ChangeSpec := { name := "fnExactElementsOf", fn := fun _ => fun
  | [d] => { results := [.lit (.bool false)], args := [d] }
  | _ => none }
def FnExactElementsOfWrongFalsely : Prop := fnExactElementsOfRow.holds Try.pinned (OpenSpec.ofChange fnExactElementsOfWrong)

/-- 'laws.FnExactCountOf': WHATEVER THE INPUT: true; the input reads as it did. -/
def fnExactCountOfSpec : ChangeSpec := { name := "fnExactCountOf", fn := fun _ => fun
  | [d] => { results := [.lit (.bool true)], args := [d] }
  | _ => none }
def fnExactCountOfRow : OpenClaim := { program := "ytamhphjjofcnaaa", sum := "cce3158e2c4efb7b46d6ab3dae40dd373e6b999fb86887062906dd0da203e586", func := "loop.example/g00596/laws.FnExactCountOf", spec := "fnExactCountOf", apart := false }
def FnExactCountOfSaid : Prop := fnExactCountOfRow.holds Try.pinned (OpenSpec.ofChange fnExactCountOfSpec)

/-- ITS FALSE NEIGHBOUR: 'it returns false'. Refute it at one input. -/
def fnExactCountOfWrong : ChangeSpec := { name := "fnExactCountOf", fn := fun _ => fun
  | [d] => { results := [.lit (.bool false)], args := [d] }
  | _ => none }
def FnExactCountOfWrongFalsely : Prop := fnExactCountOfRow.holds Try.pinned (OpenSpec.ofChange fnExactCountOfWrong)

/-- 'laws.FnExactIsSubset': WHATEVER THE INPUT: true; the input reads as it did. -/
def fnExactIsSubsetSpec : ChangeSpec := { name := "fnExactIsSubset", fn := fun _ => fun
  | [d1, d2] => { results := [.lit (.bool true)], args := [d1, d2] }
  | _ => none }
def fnExactIsSubsetRow : OpenClaim := { program := "ytamhphjjofcnaaa", sum := "cce3158e2c4efb7b46d6ab3dae40dd373e6b999fb86887062906dd0da203e586", func := "loop.example/g00596/laws.FnExactIsSubset", spec := "fnExactIsSubset", apart := false }
def FnExactIsSubsetSaid : Prop := fnExactIsSubsetRow.holds Try.pinned (OpenSpec.ofChange fnExactIsSubsetSpec)

/-- ITS FALSE NEIGHBOUR: 'it returns false'. Refute it at one input. -/
def fnExactIsSubsetWrong : ChangeSpec := { name := "fnExactIsSubset", fn := fun _ => fun
  | [d1, d2] => { results := [.lit (.bool false)], args := [d1, d2] }
  | _ => none }
def FnExactIsSubsetWrongFalsely : Prop := fnExactIsSubsetRow.holds Try.pinned (OpenSpec.ofChange fnExactIsSubsetWrong)

/-- 'laws.FnExactBeforeSet': WHATEVER THE INPUT: true; the input reads as it did. -/
def fnExactBeforeSetSpec : ChangeSpec := { name := "fnExactBeforeSet", fn := fun _ => fun
  | [d1, d2] => { results := [.lit (.bool true)], args := [d1, d2] }
  | _ => none }
def fnExactBeforeSetRow : OpenClaim := { program := "ytamhphjjofcnaaa", sum := "cce3158e2c4efb7b46d6ab3dae40dd373e6b999fb86887062906dd0da203e586", func := "loop.example/g00596/laws.FnExactBeforeSet", spec := "fnExactBeforeSet", apart := false }
def FnExactBeforeSetSaid : Prop := fnExactBeforeSetRow.holds Try.pinned (OpenSpec.ofChange fnExactBeforeSetSpec)

/-- ITS FALSE NEIGHBOUR: 'it returns false'. Refute it at one input. -/
def fnExactBeforeSetWrong : ChangeSpec := { name := "fnExactBeforeSet", fn := fun _ => fun
  | [d1, d2] => { results := [.lit (.bool false)], args := [d1, d2] }
  | _ => none }
def FnExactBeforeSetWrongFalsely : Prop := fnExactBeforeSetRow.holds Try.pinned (OpenSpec.ofChange fnExactBeforeSetWrong)

/-- 'laws.FnExactSortLectic': WHATEVER THE INPUT: true; the input reads as it did. -/
def fnExactSortLecticSpec : ChangeSpec := { name := "fnExactSortLectic", fn := fun _ => fun
  | [d] => { results := [.lit (.bool true)], args := [d] }
  | _ => none }
def fnExactSortLecticRow : OpenClaim := { program := "ytamhphjjofcnaaa", sum := "cce3158e2c4efb7b46d6ab3dae40dd373e6b999fb86887062906dd0da203e586", func := "loop.example/g00596/laws.FnExactSortLectic", spec := "fnExactSortLectic", unfollowed := true, recurses := true, apart := false }
def FnExactSortLecticSaid : Prop := fnExactSortLecticRow.holds Try.pinned (OpenSpec.ofChange fnExactSortLecticSpec)

/-- ITS FALSE NEIGHBOUR: 'it returns false'. Refute it at one input. -/
def fnExactSortLecticWrong : ChangeSpec := { name := "fnExactSortLectic", fn := fun _ => fun
  | [d] => { results := [.lit (.bool false)], args := [d] }
  | _ => none }
def FnExactSortLecticWrongFalsely : Prop := fnExactSortLecticRow.holds Try.pinned (OpenSpec.ofChange fnExactSortLecticWrong)

/-- 'laws.FnExactSetText': WHATEVER THE INPUT: true; the input reads as it did. -/
def fnExactSetTextSpec : ChangeSpec := { name := "fnExactSetText", fn := fun _ => fun
  | [d] => { results := [.lit (.bool true)], args := [d] }
  | _ => none }
def fnExactSetTextRow : OpenClaim := { program := "ytamhphjjofcnaaa", sum := "cce3158e2c4efb7b46d6ab3dae40dd373e6b999fb86887062906dd0da203e586", func := "loop.example/g00596/laws.FnExactSetText", spec := "fnExactSetText", apart := false }
def FnExactSetTextSaid : Prop := fnExactSetTextRow.holds Try.pinned (OpenSpec.ofChange fnExactSetTextSpec)

/-- ITS FALSE NEIGHBOUR: 'it returns false'. Refute it at one input. -/
def fnExactSetTextWrong : ChangeSpec := { name := "fnExactSetText", fn := fun _ => fun
  | [d] => { results := [.lit (.bool false)], args := [d] }
  | _ => none }
def FnExactSetTextWrongFalsely : Prop := fnExactSetTextRow.holds Try.pinned (OpenSpec.ofChange fnExactSetTextWrong)

/-- 'laws.FnExactParseSet': WHATEVER THE INPUT: true; the input reads as it did. -/
def fnExactParseSetSpec : ChangeSpec := { name := "fnExactParseSet", fn := fun _ => fun
  | [d] => { results := [.lit (.bool true)], args := [d] }
  | _ => none }
def fnExactParseSetRow : OpenClaim := { program := "ytamhphjjofcnaaa", sum := "cce3158e2c4efb7b46d6ab3dae40dd373e6b999fb86887062906dd0da203e586", func := "loop.example/g00596/laws.FnExactParseSet", spec := "fnExactParseSet", inPlace := ["internal/bytealg.IndexByteString"], apart := false }
def FnExactParseSetSaid : Prop := fnExactParseSetRow.holds Try.pinned (OpenSpec.ofChange fnExactParseSetSpec)

/-- ITS FALSE NEIGHBOUR: 'it returns false'. Refute it at one input. -/
def fnExactParseSetWrong : ChangeSpec := { name := "fnExactParseSet", fn := fun _ => fun
  | [d] => { results := [.lit (.bool false)], args := [d] }
  | _ => none }
def FnExactParseSetWrongFalsely : Prop := fnExactParseSetRow.holds Try.pinned (OpenSpec.ofChange fnExactParseSetWrong)

/-- 'laws.FnExactSetsText': WHATEVER THE INPUT: true; the input reads as it did. -/
def fnExactSetsTextSpec : ChangeSpec := { name := "fnExactSetsText", fn := fun _ => fun
  | [d] => { results := [.lit (.bool true)], args := [d] }
  | _ => none }
def fnExactSetsTextRow : OpenClaim := { program := "ytamhphjjofcnaaa", sum := "cce3158e2c4efb7b46d6ab3dae40dd373e6b999fb86887062906dd0da203e586", func := "loop.example/g00596/laws.FnExactSetsText", spec := "fnExactSetsText", inPlace := ["internal/abi.NoEscape", "internal/bytealg.MakeNoZero"], apart := false }
def FnExactSetsTextSaid : Prop := fnExactSetsTextRow.holds Try.pinned (OpenSpec.ofChange fnExactSetsTextSpec)

/-- ITS FALSE NEIGHBOUR: 'it returns false'. Refute it at one input. -/
def fnExactSetsTextWrong : ChangeSpec := { name := "fnExactSetsText", fn := fun _ => fun
  | [d] => { results := [.lit (.bool false)], args := [d] }
  | _ => none }
def FnExactSetsTextWrongFalsely : Prop := fnExactSetsTextRow.holds Try.pinned (OpenSpec.ofChange fnExactSetsTextWrong)

/- THE SECOND FORM. 'bulk': how many values and letters a reading holds, each counted each time it is reached (what is shared counts as often as it is met; a slice's spare places count too). A statement '..UptoSaid' is the law's where the arguments, and the package variables that the reading takes, are together of bulk at most 1048576: NARROWER than '..Said'. Prove '..Said' where nothing that the law and all that it calls make is longer than what came in: it says more and counts as full. Else prove '..UptoSaid'. A law counts once. -/
mutual
def uptoBulk {H : Type} : DataW H → Nat
  | .lit (.string bytes) => bytes.length + 1
  | .lit _ => 1
  | .nil => 1
  | .ptr d => uptoBulk d + 1
  | .slice elems spare => uptoBulkAll elems + uptoBulkAll spare + 1
  | .agg parts => uptoBulkAll parts + 1
  | .iface _ d => uptoBulk d + 1
  | .map entries => uptoBulkEntries entries + 1
  | .held _ => 1
def uptoBulkAll {H : Type} : List (DataW H) → Nat
  | [] => 0
  | d :: r => uptoBulk d + uptoBulkAll r
def uptoBulkEntries {H : Type} : List (Lit × DataW H) → Nat
  | [] => 0
  | x :: r => uptoBulkEntry x + uptoBulkEntries r
def uptoBulkEntry {H : Type} : Lit × DataW H → Nat
  | (.string bytes, d) => bytes.length + uptoBulk d + 1
  | (_, d) => uptoBulk d + 1
 end
def uptoSmall : (H : Type) → List (DataW H) → Bool := fun _ ds => decide (uptoBulkAll ds ≤ 1048576)
def OpenSpec.upto (s : _root_.Go.ChangeSpec) : _root_.Go.OpenSpec := { _root_.Go.OpenSpec.ofChange s with cond := some uptoSmall }

/-- 'laws.FnExactIsSet', WHERE WHAT IT READS IS OF BULK AT MOST 1048576: true; the input reads as it did. -/
def fnExactIsSetUptoRow : OpenClaim := { program := "ytamhphjjofcnaaa", sum := "cce3158e2c4efb7b46d6ab3dae40dd373e6b999fb86887062906dd0da203e586", func := "loop.example/g00596/laws.FnExactIsSet", spec := "fnExactIsSet", apart := false, narrowed := true }
def FnExactIsSetUptoSaid : Prop := fnExactIsSetUptoRow.holds Try.pinned (OpenSpec.upto fnExactIsSetSpec)

/-- 'laws.FnExactFullSet', WHERE WHAT IT READS IS OF BULK AT MOST 1048576: true; the input reads as it did. -/
def fnExactFullSetUptoRow : OpenClaim := { program := "ytamhphjjofcnaaa", sum := "cce3158e2c4efb7b46d6ab3dae40dd373e6b999fb86887062906dd0da203e586", func := "loop.example/g00596/laws.FnExactFullSet", spec := "fnExactFullSet", apart := false, narrowed := true }
def FnExactFullSetUptoSaid : Prop := fnExactFullSetUptoRow.holds Try.pinned (OpenSpec.upto fnExactFullSetSpec)

/-- 'laws.FnExactHasElement', WHERE WHAT IT READS IS OF BULK AT MOST 1048576: true; the input reads as it did. -/
def fnExactHasElementUptoRow : OpenClaim := { program := "ytamhphjjofcnaaa", sum := "cce3158e2c4efb7b46d6ab3dae40dd373e6b999fb86887062906dd0da203e586", func := "loop.example/g00596/laws.FnExactHasElement", spec := "fnExactHasElement", apart := false, narrowed := true }
def FnExactHasElementUptoSaid : Prop := fnExactHasElementUptoRow.holds Try.pinned (OpenSpec.upto fnExactHasElementSpec)

/-- 'laws.FnExactElementsOf', WHERE WHAT IT READS IS OF BULK AT MOST 1048576: true; the input reads as it did. -/
def fnExactElementsOfUptoRow : OpenClaim := { program := "ytamhphjjofcnaaa", sum := "cce3158e2c4efb7b46d6ab3dae40dd373e6b999fb86887062906dd0da203e586", func := "loop.example/g00596/laws.FnExactElementsOf", spec := "fnExactElementsOf", apart := false, narrowed := true }
def FnExactElementsOfUptoSaid : Prop := fnExactElementsOfUptoRow.holds Try.pinned (OpenSpec.upto fnExactElementsOfSpec)

/-- 'laws.FnExactCountOf', WHERE WHAT IT READS IS OF BULK AT MOST 1048576: true; the input reads as it did. -/
def fnExactCountOfUptoRow : OpenClaim := { program := "ytamhphjjofcnaaa", sum := "cce3158e2c4efb7b46d6ab3dae40dd373e6b999fb86887062906dd0da203e586", func := "loop.example/g00596/laws.FnExactCountOf", spec := "fnExactCountOf", apart := false, narrowed := true }
def FnExactCountOfUptoSaid : Prop := fnExactCountOfUptoRow.holds Try.pinned (OpenSpec.upto fnExactCountOfSpec)

/-- 'laws.FnExactIsSubset', WHERE WHAT IT READS IS OF BULK AT MOST 1048576: true; the input reads as it did. -/
def fnExactIsSubsetUptoRow : OpenClaim := { program := "ytamhphjjofcnaaa", sum := "cce3158e2c4efb7b46d6ab3dae40dd373e6b999fb86887062906dd0da203e586", func := "loop.example/g00596/laws.FnExactIsSubset", spec := "fnExactIsSubset", apart := false, narrowed := true }
def FnExactIsSubsetUptoSaid : Prop := fnExactIsSubsetUptoRow.holds Try.pinned (OpenSpec.upto fnExactIsSubsetSpec)

/-- 'laws.FnExactBeforeSet', WHERE WHAT IT READS IS OF BULK AT MOST 1048576: true; the input reads as it did. -/
def fnExactBeforeSetUptoRow : OpenClaim := { program := "ytamhphjjofcnaaa", sum := "cce3158e2c4efb7b46d6ab3dae40dd373e6b999fb86887062906dd0da203e586", func := "loop.example/g00596/laws.FnExactBeforeSet", spec := "fnExactBeforeSet", apart := false, narrowed := true }
def FnExactBeforeSetUptoSaid : Prop := fnExactBeforeSetUptoRow.holds Try.pinned (OpenSpec.upto fnExactBeforeSetSpec)

/-- 'laws.FnExactSortLectic', WHERE WHAT IT READS IS OF BULK AT MOST 1048576: true; the input reads as it did. -/
def fnExactSortLecticUptoRow : OpenClaim := { program := "ytamhphjjofcnaaa", sum := "cce3158e2c4efb7b46d6ab3dae40dd373e6b999fb86887062906dd0da203e586", func := "loop.example/g00596/laws.FnExactSortLectic", spec := "fnExactSortLectic", unfollowed := true, recurses := true, apart := false, narrowed := true }
def FnExactSortLecticUptoSaid : Prop := fnExactSortLecticUptoRow.holds Try.pinned (OpenSpec.upto fnExactSortLecticSpec)

/-- 'laws.FnExactSetText', WHERE WHAT IT READS IS OF BULK AT MOST 1048576: true; the input reads as it did. -/
def fnExactSetTextUptoRow : OpenClaim := { program := "ytamhphjjofcnaaa", sum := "cce3158e2c4efb7b46d6ab3dae40dd373e6b999fb86887062906dd0da203e586", func := "loop.example/g00596/laws.FnExactSetText", spec := "fnExactSetText", apart := false, narrowed := true }
def FnExactSetTextUptoSaid : Prop := fnExactSetTextUptoRow.holds Try.pinned (OpenSpec.upto fnExactSetTextSpec)

/-- 'laws.FnExactParseSet', WHERE WHAT IT READS IS OF BULK AT MOST 1048576: true; the input reads as it did. -/
def fnExactParseSetUptoRow : OpenClaim := { program := "ytamhphjjofcnaaa", sum := "cce3158e2c4efb7b46d6ab3dae40dd373e6b999fb86887062906dd0da203e586", func := "loop.example/g00596/laws.FnExactParseSet", spec := "fnExactParseSet", inPlace := ["internal/bytealg.IndexByteString"], apart := false, narrowed := true }
def FnExactParseSetUptoSaid : Prop := fnExactParseSetUptoRow.holds Try.pinned (OpenSpec.upto fnExactParseSetSpec)

/-- 'laws.FnExactSetsText', WHERE WHAT IT READS IS OF BULK AT MOST 1048576: true; the input reads as it did. -/
def fnExactSetsTextUptoRow : OpenClaim := { program := "ytamhphjjofcnaaa", sum := "cce3158e2c4efb7b46d6ab3dae40dd373e6b999fb86887062906dd0da203e586", func := "loop.example/g00596/laws.FnExactSetsText", spec := "fnExactSetsText", inPlace := ["internal/abi.NoEscape", "internal/bytealg.MakeNoZero"], apart := false, narrowed := true }
def FnExactSetsTextUptoSaid : Prop := fnExactSetsTextUptoRow.holds Try.pinned (OpenSpec.upto fnExactSetsTextSpec)

end Rows
end Go.Proofs.Ytamhphjjofcnaaa
