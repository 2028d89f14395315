/-
  NARROWER THAN 'FOR EVERY INPUT', by the rows' own cells (each row's printed sentence says how): FnArrows: laid · FnExactArrowText: laid.
  DERIVED. THE GIVEN ROWS OF THIS SEAT. 2 by the template 'for every input the law returns true; each argument reads behind the call as it read before'; 0 by the template 'total and deterministic' (their statements: YtbpicpapkpomhaaDoorTotals.lean).
  GIVEN WITH THE SEED: the statements are not yours to turn. If you find one false, say at which input.
  Laid BY PROGRAM, IN A SANDBOX (cutbox-rows.mjs): the forced cells as the released guide's own fill.sh prints them over the translation 97079ffdd54e10a4… (all of the seat's roots in one cut). By AI agents, Wed Nov 11 2026. No macro, syntax, notation, axiom, sorry.
-/
import Derived.Test.YtbpicpapkpomhaaDoorChecked
import GoSem.Claim
import GoSem.ClaimJoined
import GoSem.ClaimMapViews
import Derived.JoinedTies
import Derived.KernelRfl
namespace Go.Proofs.YtbpicpapkpomhaaDoor
/- THE CELL 'sum', in the pinned program and in every row, IS THE sha256 OF THE DUMP (.gsa) THAT YtbpicpapkpomhaaDoorProg.lean LOADS. Nothing in Lean hashes anything: it is a label: what it is worth is what the hold of that sum in a sandbox is worth. -/
noncomputable def Tryd.pinned : Pinned := { name := "ytbpicpapkpomhaadoor", sum := "97079ffdd54e10a4423580e1ea76223cce3c02cd17bdba6974addbd4828ee331", checked := Tryd.checked }
namespace Rows
def none {H : Type} : Left H := { results := [], args := [] }

/- WHAT THE LISTED PACKAGE-LEVEL VARIABLES READ AS WHEN THE CALL BEGINS. Each datum BY PROGRAM (the guide's laid-datum.mjs) off the statement by which the dump's own 'gosem.cut.vars' lays the variable. In a bare row this is a premise. The card (YtbpicpapkpomhaaDoorCards.lean) ties it to the program's text. -/
def laid_loop_example_g00596_impl_arrowSigns {H : Type} : DataW H := .agg [.lit (.int .u8 46), .lit (.int .u8 118), .lit (.int .u8 94), .lit (.int .u8 42), .lit (.int .u8 120)]

/-- 'laws.FnArrows': WHATEVER THE INPUT: true; the input reads as it did. -/
def fnArrowsSpec : ChangeSpec := { name := "fnArrows", vars := ["loop.example/g00596/impl.arrowSigns"], fn := fun _ => fun
  | [d, g1] => { results := [.lit (.bool true)], args := [d], vars := [g1] }
  | _ => none }
def fnArrowsRow : OpenClaim := { program := "ytbpicpapkpomhaadoor", sum := "97079ffdd54e10a4423580e1ea76223cce3c02cd17bdba6974addbd4828ee331", func := "loop.example/g00596/laws.FnArrows", spec := "fnArrows", named := ["loop.example/g00596/impl.arrowSigns"], apart := false, laid := [("loop.example/g00596/impl.arrowSigns", laid_loop_example_g00596_impl_arrowSigns)] }
def FnArrowsSaid : Prop := fnArrowsRow.holds Tryd.pinned (OpenSpec.ofChange fnArrowsSpec)

/-- ITS FALSE NEIGHBOUR: 'it returns false'. Refute it at one input. -/
def fnArrowsWrong : ChangeSpec := { name := "fnArrows", vars := ["loop.example/g00596/impl.arrowSigns"], fn := fun _ => fun
  | [d, g1] => { results := [.lit (.bool false)], args := [d], vars := [g1] }
  | _ => none }
def FnArrowsWrongFalsely : Prop := fnArrowsRow.holds Tryd.pinned (OpenSpec.ofChange fnArrowsWrong)

/-- 'laws.FnExactArrowText': WHATEVER THE INPUT: true; the input reads as it did. -/
def fnExactArrowTextSpec : ChangeSpec := { name := "fnExactArrowText", vars := ["loop.example/g00596/impl.arrowSigns"], fn := fun _ => fun
  | [d, g1] => { results := [.lit (.bool true)], args := [d], vars := [g1] }
  | _ => none }
def fnExactArrowTextRow : OpenClaim := { program := "ytbpicpapkpomhaadoor", sum := "97079ffdd54e10a4423580e1ea76223cce3c02cd17bdba6974addbd4828ee331", func := "loop.example/g00596/laws.FnExactArrowText", spec := "fnExactArrowText", named := ["loop.example/g00596/impl.arrowSigns"], apart := false, laid := [("loop.example/g00596/impl.arrowSigns", laid_loop_example_g00596_impl_arrowSigns)] }
def FnExactArrowTextSaid : Prop := fnExactArrowTextRow.holds Tryd.pinned (OpenSpec.ofChange fnExactArrowTextSpec)

/-- ITS FALSE NEIGHBOUR: 'it returns false'. Refute it at one input. -/
def fnExactArrowTextWrong : ChangeSpec := { name := "fnExactArrowText", vars := ["loop.example/g00596/impl.arrowSigns"], fn := fun _ => fun
  | [d, g1] => { results := [.lit (.bool false)], args := [d], vars := [g1] }
  | _ => none }
def FnExactArrowTextWrongFalsely : Prop := fnExactArrowTextRow.holds Tryd.pinned (OpenSpec.ofChange fnExactArrowTextWrong)

/- THE SECOND FORM. 'bulk': how many values and letters a reading holds, each counted each time it is reached (what is shared counts as often as it is met; a slice's spare places count too). A statement '..UptoSaid' is the law's where the arguments, and the package variables that the reading takes, are together of bulk at most 1048576: NARROWER than '..Said'. Prove '..Said' where nothing that the law and all that it calls make is longer than what came in: it says more and counts as full. Else prove '..UptoSaid'. A law counts once. -/
mutual
def uptoBulk {H : Type} : DataW H → Nat
  | .lit (.string bytes) => bytes.length + 1
  | .lit _ => 1
  | .nil => 1
  | .ptr d => uptoBulk d + 1
  | .slice elems spare => uptoBulkAll elems + uptoBulkAll spare + 1
  | .agg parts => uptoBulkAll parts + 1
  | .iface _ d => uptoBulk d + 1
  | .map entries => uptoBulkEntries entries + 1
  | .held _ => 1
def uptoBulkAll {H : Type} : List (DataW H) → Nat
  | [] => 0
  | d :: r => uptoBulk d + uptoBulkAll r
def uptoBulkEntries {H : Type} : List (Lit × DataW H) → Nat
  | [] => 0
  | x :: r => uptoBulkEntry x + uptoBulkEntries r
def uptoBulkEntry {H : Type} : Lit × DataW H → Nat
  | (.string bytes, d) => bytes.length + uptoBulk d + 1
  | (_, d) => uptoBulk d + 1
 end
def uptoSmall : (H : Type) → List (DataW H) → Bool := fun _ ds => decide (uptoBulkAll ds ≤ 1048576)
def OpenSpec.upto (s : _root_.Go.ChangeSpec) : _root_.Go.OpenSpec := { _root_.Go.OpenSpec.ofChange s with cond := some uptoSmall }

/-- 'laws.FnArrows', WHERE WHAT IT READS IS OF BULK AT MOST 1048576: true; the input reads as it did. -/
def fnArrowsUptoRow : OpenClaim := { program := "ytbpicpapkpomhaadoor", sum := "97079ffdd54e10a4423580e1ea76223cce3c02cd17bdba6974addbd4828ee331", func := "loop.example/g00596/laws.FnArrows", spec := "fnArrows", named := ["loop.example/g00596/impl.arrowSigns"], apart := false, laid := [("loop.example/g00596/impl.arrowSigns", laid_loop_example_g00596_impl_arrowSigns)], narrowed := true }
def FnArrowsUptoSaid : Prop := fnArrowsUptoRow.holds Tryd.pinned (OpenSpec.upto fnArrowsSpec)

/-- 'laws.FnExactArrowText', WHERE WHAT IT READS IS OF BULK AT MOST 1048576: true; the input reads as it did. -/
def fnExactArrowTextUptoRow : OpenClaim := { program := "ytbpicpapkpomhaadoor", sum := "97079ffdd54e10a4423580e1ea76223cce3c02cd17bdba6974addbd4828ee331", func := "loop.example/g00596/laws.FnExactArrowText", spec := "fnExactArrowText", named := ["loop.example/g00596/impl.arrowSigns"], apart := false, laid := [("loop.example/g00596/impl.arrowSigns", laid_loop_example_g00596_impl_arrowSigns)], narrowed := true }
def FnExactArrowTextUptoSaid : Prop := fnExactArrowTextUptoRow.holds Tryd.pinned (OpenSpec.upto fnExactArrowTextSpec)

end Rows
end Go.Proofs.YtbpicpapkpomhaaDoor
