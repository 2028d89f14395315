/-
  No cell of these rows narrows 'for every input' (looked for: loops, veiled, ifaces, maps, wideKeys, modest, calm, conditions, laid).
  DERIVED. THE GIVEN ROWS OF THIS SEAT. 6 by the template 'for every input the law returns true; each argument reads behind the call as it read before'; 0 by the template 'total and deterministic' (their statements: YtcggmfdiikmjcaaTotals.lean).
  GIVEN WITH THE SEED: the statements are not yours to turn. If you find one false, say at which input.
  Laid BY PROGRAM, IN A SANDBOX (cutbox-rows.mjs): the forced cells as the released guide's own fill.sh prints them over the translation 54b31af7739e3d87… (all of the seat's roots in one cut). By AI agents, Wed Nov 11 2026. No macro, syntax, notation, axiom, sorry.
-/
import Derived.Test.YtcggmfdiikmjcaaChecked
import GoSem.Claim
import GoSem.ClaimJoined
import GoSem.ClaimMapViews
import Derived.JoinedTies
import Derived.KernelRfl
namespace Go.Proofs.Ytcggmfdiikmjcaa
/- THE CELL 'sum', in the pinned program and in every row, IS THE sha256 OF THE DUMP (.gsa) THAT YtcggmfdiikmjcaaProg.lean LOADS. Nothing in Lean hashes anything: it is a label: what it is worth is what the hold of that sum in a sandbox is worth. -/
noncomputable def Try.pinned : Pinned := { name := "ytcggmfdiikmjcaa", sum := "54b31af7739e3d87fa8f7ae07dd6d537b425082a47a5f59b1374c85ef44b8bfd", checked := Try.checked }
namespace Rows
def none {H : Type} : Left H := { results := [], args := [] }

/-- 'laws.FnDerivation': WHATEVER THE INPUT: true; the input reads as it did. -/
def fnDerivationSpec : ChangeSpec := { name := "fnDerivation", fn := fun _ => fun
  | [d] => { results := [.lit (.bool true)], args := [d] }
  | _ => none }
def fnDerivationRow : OpenClaim := { program := "ytcggmfdiikmjcaa", sum := "54b31af7739e3d87fa8f7ae07dd6d537b425082a47a5f59b1374c85ef44b8bfd", func := "loop.example/g00596/laws.FnDerivation", spec := "fnDerivation", apart := false }
def FnDerivationSaid : Prop := fnDerivationRow.holds Try.pinned (OpenSpec.ofChange fnDerivationSpec)

/-- ITS FALSE NEIGHBOUR: 'it returns false'. Refute it at one input. -/
def fnDerivationWrong : ChangeSpec := { name := "fnDerivation", fn := fun _ => fun
  | [d] => { results := [.lit (.bool false)], args := [d] }
  | _ => none }
def FnDerivationWrongFalsely : Prop := fnDerivationRow.holds Try.pinned (OpenSpec.ofChange fnDerivationWrong)

/-- 'laws.FnExactIntentOf': WHATEVER THE INPUT: true; the input reads as it did. -/
def fnExactIntentOfSpec : ChangeSpec := { name := "fnExactIntentOf", fn := fun _ => fun
  | [d1, d2] => { results := [.lit (.bool true)], args := [d1, d2] }
  | _ => none }
def fnExactIntentOfRow : OpenClaim := { program := "ytcggmfdiikmjcaa", sum := "54b31af7739e3d87fa8f7ae07dd6d537b425082a47a5f59b1374c85ef44b8bfd", func := "loop.example/g00596/laws.FnExactIntentOf", spec := "fnExactIntentOf", apart := false }
def FnExactIntentOfSaid : Prop := fnExactIntentOfRow.holds Try.pinned (OpenSpec.ofChange fnExactIntentOfSpec)

/-- ITS FALSE NEIGHBOUR: 'it returns false'. Refute it at one input. -/
def fnExactIntentOfWrong : ChangeSpec := { name := "fnExactIntentOf", fn := fun _ => fun
  | [d1, d2] => { results := [.lit (.bool false)], args := [d1, d2] }
  | _ => none }
def FnExactIntentOfWrongFalsely : Prop := fnExactIntentOfRow.holds Try.pinned (OpenSpec.ofChange fnExactIntentOfWrong)

/-- 'laws.FnExactExtentOf': WHATEVER THE INPUT: true; the input reads as it did. -/
def fnExactExtentOfSpec : ChangeSpec := { name := "fnExactExtentOf", fn := fun _ => fun
  | [d1, d2] => { results := [.lit (.bool true)], args := [d1, d2] }
  | _ => none }
def fnExactExtentOfRow : OpenClaim := { program := "ytcggmfdiikmjcaa", sum := "54b31af7739e3d87fa8f7ae07dd6d537b425082a47a5f59b1374c85ef44b8bfd", func := "loop.example/g00596/laws.FnExactExtentOf", spec := "fnExactExtentOf", apart := false }
def FnExactExtentOfSaid : Prop := fnExactExtentOfRow.holds Try.pinned (OpenSpec.ofChange fnExactExtentOfSpec)

/-- ITS FALSE NEIGHBOUR: 'it returns false'. Refute it at one input. -/
def fnExactExtentOfWrong : ChangeSpec := { name := "fnExactExtentOf", fn := fun _ => fun
  | [d1, d2] => { results := [.lit (.bool false)], args := [d1, d2] }
  | _ => none }
def FnExactExtentOfWrongFalsely : Prop := fnExactExtentOfRow.holds Try.pinned (OpenSpec.ofChange fnExactExtentOfWrong)

/-- 'laws.FnExactClosureOf': WHATEVER THE INPUT: true; the input reads as it did. -/
def fnExactClosureOfSpec : ChangeSpec := { name := "fnExactClosureOf", fn := fun _ => fun
  | [d1, d2] => { results := [.lit (.bool true)], args := [d1, d2] }
  | _ => none }
def fnExactClosureOfRow : OpenClaim := { program := "ytcggmfdiikmjcaa", sum := "54b31af7739e3d87fa8f7ae07dd6d537b425082a47a5f59b1374c85ef44b8bfd", func := "loop.example/g00596/laws.FnExactClosureOf", spec := "fnExactClosureOf", apart := false }
def FnExactClosureOfSaid : Prop := fnExactClosureOfRow.holds Try.pinned (OpenSpec.ofChange fnExactClosureOfSpec)

/-- ITS FALSE NEIGHBOUR: 'it returns false'. Refute it at one input. -/
def fnExactClosureOfWrong : ChangeSpec := { name := "fnExactClosureOf", fn := fun _ => fun
  | [d1, d2] => { results := [.lit (.bool false)], args := [d1, d2] }
  | _ => none }
def FnExactClosureOfWrongFalsely : Prop := fnExactClosureOfRow.holds Try.pinned (OpenSpec.ofChange fnExactClosureOfWrong)

/-- 'laws.FnExactObjectClosure': WHATEVER THE INPUT: true; the input reads as it did. -/
def fnExactObjectClosureSpec : ChangeSpec := { name := "fnExactObjectClosure", fn := fun _ => fun
  | [d1, d2] => { results := [.lit (.bool true)], args := [d1, d2] }
  | _ => none }
def fnExactObjectClosureRow : OpenClaim := { program := "ytcggmfdiikmjcaa", sum := "54b31af7739e3d87fa8f7ae07dd6d537b425082a47a5f59b1374c85ef44b8bfd", func := "loop.example/g00596/laws.FnExactObjectClosure", spec := "fnExactObjectClosure", apart := false }
def FnExactObjectClosureSaid : Prop := fnExactObjectClosureRow.holds Try.pinned (OpenSpec.ofChange fnExactObjectClosureSpec)

/-- ITS FALSE NEIGHBOUR: 'it returns false'. Refute it at one input. -/
def fnExactObjectClosureWrong : ChangeSpec := { name := "fnExactObjectClosure", fn := fun _ => fun
  | [d1, d2] => { results := [.lit (.bool false)], args := [d1, d2] }
  | _ => none }
def FnExactObjectClosureWrongFalsely : Prop := fnExactObjectClosureRow.holds Try.pinned (OpenSpec.ofChange fnExactObjectClosureWrong)

/-- 'laws.FnExactIsClosed': WHATEVER THE INPUT: true; the input reads as it did. -/
def fnExactIsClosedSpec : ChangeSpec := { name := "fnExactIsClosed", fn := fun _ => fun
  | [d1, d2] => { results := [.lit (.bool true)], args := [d1, d2] }
  | _ => none }
def fnExactIsClosedRow : OpenClaim := { program := "ytcggmfdiikmjcaa", sum := "54b31af7739e3d87fa8f7ae07dd6d537b425082a47a5f59b1374c85ef44b8bfd", func := "loop.example/g00596/laws.FnExactIsClosed", spec := "fnExactIsClosed", apart := false }
def FnExactIsClosedSaid : Prop := fnExactIsClosedRow.holds Try.pinned (OpenSpec.ofChange fnExactIsClosedSpec)

/-- ITS FALSE NEIGHBOUR: 'it returns false'. Refute it at one input. -/
def fnExactIsClosedWrong : ChangeSpec := { name := "fnExactIsClosed", fn := fun _ => fun
  | [d1, d2] => { results := [.lit (.bool false)], args := [d1, d2] }
  | _ => none }
def FnExactIsClosedWrongFalsely : Prop := fnExactIsClosedRow.holds Try.pinned (OpenSpec.ofChange fnExactIsClosedWrong)

/- THE SECOND FORM. 'bulk': how many values and letters a reading holds, each counted each time it is reached (what is shared counts as often as it is met; a slice's spare places count too). A statement '..UptoSaid' is the law's where the arguments, and the package variables that the reading takes, are together of bulk at most 1048576: NARROWER than '..Said'. Prove '..Said' where nothing that the law and all that it calls make is longer than what came in: it says more and counts as full. Else prove '..UptoSaid'. A law counts once. -/
mutual
def uptoBulk {H : Type} : DataW H → Nat
  | .lit (.string bytes) => bytes.length + 1
  | .lit _ => 1
  | .nil => 1
  | .ptr d => uptoBulk d + 1
  | .slice elems spare => uptoBulkAll elems + uptoBulkAll spare + 1
  | .agg parts => uptoBulkAll parts + 1
  | .iface _ d => uptoBulk d + 1
  | .map entries => uptoBulkEntries entries + 1
  | .held _ => 1
def uptoBulkAll {H : Type} : List (DataW H) → Nat
  | [] => 0
  | d :: r => uptoBulk d + uptoBulkAll r
def uptoBulkEntries {H : Type} : List (Lit × DataW H) → Nat
  | [] => 0
  | x :: r => uptoBulkEntry x + uptoBulkEntries r
def uptoBulkEntry {H : Type} : Lit × DataW H → Nat
  | (.string bytes, d) => bytes.length + uptoBulk d + 1
  | (_, d) => uptoBulk d + 1
 end
def uptoSmall : (H : Type) → List (DataW H) → Bool := fun _ ds => decide (uptoBulkAll ds ≤ 1048576)
def OpenSpec.upto (s : _root_.Go.ChangeSpec) : _root_.Go.OpenSpec := { _root_.Go.OpenSpec.ofChange s with cond := some uptoSmall }

/-- 'laws.FnDerivation', WHERE WHAT IT READS IS OF BULK AT MOST 1048576: true; the input reads as it did. -/
def fnDerivationUptoRow : OpenClaim := { program := "ytcggmfdiikmjcaa", sum := "54b31af7739e3d87fa8f7ae07dd6d537b425082a47a5f59b1374c85ef44b8bfd", func := "loop.example/g00596/laws.FnDerivation", spec := "fnDerivation", apart := false, narrowed := true }
def FnDerivationUptoSaid : Prop := fnDerivationUptoRow.holds Try.pinned (OpenSpec.upto fnDerivationSpec)

/-- 'laws.FnExactIntentOf', WHERE WHAT IT READS IS OF BULK AT MOST 1048576: true; the input reads as it did. -/
def fnExactIntentOfUptoRow : OpenClaim := { program := "ytcggmfdiikmjcaa", sum := "54b31af7739e3d87fa8f7ae07dd6d537b425082a47a5f59b1374c85ef44b8bfd", func := "loop.example/g00596/laws.FnExactIntentOf", spec := "fnExactIntentOf", apart := false, narrowed := true }
def FnExactIntentOfUptoSaid : Prop := fnExactIntentOfUptoRow.holds Try.pinned (OpenSpec.upto fnExactIntentOfSpec)

/-- 'laws.FnExactExtentOf', WHERE WHAT IT READS IS OF BULK AT MOST 1048576: true; the input reads as it did. -/
def fnExactExtentOfUptoRow : OpenClaim := { program := "ytcggmfdiikmjcaa", sum := "54b31af7739e3d87fa8f7ae07dd6d537b425082a47a5f59b1374c85ef44b8bfd", func := "loop.example/g00596/laws.FnExactExtentOf", spec := "fnExactExtentOf", apart := false, narrowed := true }
def FnExactExtentOfUptoSaid : Prop := fnExactExtentOfUptoRow.holds Try.pinned (OpenSpec.upto fnExactExtentOfSpec)

/-- 'laws.FnExactClosureOf', WHERE WHAT IT READS IS OF BULK AT MOST 1048576: true; the input reads as it did. -/
def fnExactClosureOfUptoRow : OpenClaim := { program := "ytcggmfdiikmjcaa", sum := "54b31af7739e3d87fa8f7ae07dd6d537b425082a47a5f59b1374c85ef44b8bfd", func := "loop.example/g00596/laws.FnExactClosureOf", spec := "fnExactClosureOf", apart := false, narrowed := true }
def FnExactClosureOfUptoSaid : Prop := fnExactClosureOfUptoRow.holds Try.pinned (OpenSpec.upto fnExactClosureOfSpec)

/-- 'laws.FnExactObjectClosure', WHERE WHAT IT READS IS OF BULK AT MOST 1048576: true; the input reads as it did. -/
def fnExactObjectClosureUptoRow : OpenClaim := { program := "ytcggmfdiikmjcaa", sum := "54b31af7739e3d87fa8f7ae07dd6d537b425082a47a5f59b1374c85ef44b8bfd", func := "loop.example/g00596/laws.FnExactObjectClosure", spec := "fnExactObjectClosure", apart := false, narrowed := true }
def FnExactObjectClosureUptoSaid : Prop := fnExactObjectClosureUptoRow.holds Try.pinned (OpenSpec.upto fnExactObjectClosureSpec)

/-- 'laws.FnExactIsClosed', WHERE WHAT IT READS IS OF BULK AT MOST 1048576: true; the input reads as it did. -/
def fnExactIsClosedUptoRow : OpenClaim := { program := "ytcggmfdiikmjcaa", sum := "54b31af7739e3d87fa8f7ae07dd6d537b425082a47a5f59b1374c85ef44b8bfd", func := "loop.example/g00596/laws.FnExactIsClosed", spec := "fnExactIsClosed", apart := false, narrowed := true }
def FnExactIsClosedUptoSaid : Prop := fnExactIsClosedUptoRow.holds Try.pinned (OpenSpec.upto fnExactIsClosedSpec)

end Rows
end Go.Proofs.Ytcggmfdiikmjcaa
