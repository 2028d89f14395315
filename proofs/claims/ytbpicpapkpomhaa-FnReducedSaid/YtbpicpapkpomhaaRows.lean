/-
  No cell of these rows narrows 'for every input' (looked for: loops, veiled, ifaces, maps, wideKeys, modest, calm, conditions, laid).
  DERIVED. THE GIVEN ROWS OF THIS SEAT. 10 by the template 'for every input the law returns true; each argument reads behind the call as it read before'; 0 by the template 'total and deterministic' (their statements: YtbpicpapkpomhaaTotals.lean).
  GIVEN WITH THE SEED: the statements are not yours to turn. If you find one false, say at which input.
  Laid BY PROGRAM, IN A SANDBOX (cutbox-rows.mjs): the forced cells as the released guide's own fill.sh prints them over the translation e2747b5512095f53… (all of the seat's roots in one cut). By AI agents, Wed Nov 11 2026. No macro, syntax, notation, axiom, sorry.
-/
import Derived.Test.YtbpicpapkpomhaaChecked
import GoSem.Claim
import GoSem.ClaimJoined
import GoSem.ClaimMapViews
import Derived.JoinedTies
import Derived.KernelRfl
namespace Go.Proofs.Ytbpicpapkpomhaa
/- THE CELL 'sum', in the pinned program and in every row, IS THE sha256 OF THE DUMP (.gsa) THAT YtbpicpapkpomhaaProg.lean LOADS. Nothing in Lean hashes anything: it is a label: what it is worth is what the hold of that sum in a sandbox is worth. -/
noncomputable def Try.pinned : Pinned := { name := "ytbpicpapkpomhaa", sum := "e2747b5512095f535728e160cf5f02c4545931fe00988060aa7dcb184edeeeca", checked := Try.checked }
namespace Rows
def none {H : Type} : Left H := { results := [], args := [] }

/-- 'laws.FnReduced': WHATEVER THE INPUT: true; the input reads as it did. -/
def fnReducedSpec : ChangeSpec := { name := "fnReduced", fn := fun _ => fun
  | [d] => { results := [.lit (.bool true)], args := [d] }
  | _ => none }
def fnReducedRow : OpenClaim := { program := "ytbpicpapkpomhaa", sum := "e2747b5512095f535728e160cf5f02c4545931fe00988060aa7dcb184edeeeca", func := "loop.example/g00596/laws.FnReduced", spec := "fnReduced", apart := false }
def FnReducedSaid : Prop := fnReducedRow.holds Try.pinned (OpenSpec.ofChange fnReducedSpec)

/-- ITS FALSE NEIGHBOUR: 'it returns false'. Refute it at one input. -/
def fnReducedWrong : ChangeSpec := { name := "fnReduced", fn := fun _ => fun
  | [d] => { results := [.lit (.bool false)], args := [d] }
  | _ => none }
def FnReducedWrongFalsely : Prop := fnReducedRow.holds Try.pinned (OpenSpec.ofChange fnReducedWrong)

/-- 'laws.FnExactColumnOf': WHATEVER THE INPUT: true; the input reads as it did. -/
def fnExactColumnOfSpec : ChangeSpec := { name := "fnExactColumnOf", fn := fun _ => fun
  | [d1, d2] => { results := [.lit (.bool true)], args := [d1, d2] }
  | _ => none }
def fnExactColumnOfRow : OpenClaim := { program := "ytbpicpapkpomhaa", sum := "e2747b5512095f535728e160cf5f02c4545931fe00988060aa7dcb184edeeeca", func := "loop.example/g00596/laws.FnExactColumnOf", spec := "fnExactColumnOf", apart := false }
def FnExactColumnOfSaid : Prop := fnExactColumnOfRow.holds Try.pinned (OpenSpec.ofChange fnExactColumnOfSpec)

/-- ITS FALSE NEIGHBOUR: 'it returns false'. Refute it at one input. -/
def fnExactColumnOfWrong : ChangeSpec := { name := "fnExactColumnOf", fn := fun _ => fun
  | [d1, d2] => { results := [.lit (.bool false)], args := [d1, d2] }
  | _ => none }
def FnExactColumnOfWrongFalsely : Prop := fnExactColumnOfRow.holds Try.pinned (OpenSpec.ofChange fnExactColumnOfWrong)

/-- 'laws.FnExactIsReducibleObject': WHATEVER THE INPUT: true; the input reads as it did. -/
def fnExactIsReducibleObjectSpec : ChangeSpec := { name := "fnExactIsReducibleObject", fn := fun _ => fun
  | [d1, d2] => { results := [.lit (.bool true)], args := [d1, d2] }
  | _ => none }
def fnExactIsReducibleObjectRow : OpenClaim := { program := "ytbpicpapkpomhaa", sum := "e2747b5512095f535728e160cf5f02c4545931fe00988060aa7dcb184edeeeca", func := "loop.example/g00596/laws.FnExactIsReducibleObject", spec := "fnExactIsReducibleObject", apart := false }
def FnExactIsReducibleObjectSaid : Prop := fnExactIsReducibleObjectRow.holds Try.pinned (OpenSpec.ofChange fnExactIsReducibleObjectSpec)

/-- ITS FALSE NEIGHBOUR: 'it returns false'. Refute it at one input. -/
def fnExactIsReducibleObjectWrong : ChangeSpec := { name := "fnExactIsReducibleObject", fn := fun _ => fun
  | [d1, d2] => { results := [.lit (.bool false)], args := [d1, d2] }
  | _ => none }
def FnExactIsReducibleObjectWrongFalsely : Prop := fnExactIsReducibleObjectRow.holds Try.pinned (OpenSpec.ofChange fnExactIsReducibleObjectWrong)

/-- 'laws.FnExactIsReducibleAttribute': WHATEVER THE INPUT: true; the input reads as it did. -/
def fnExactIsReducibleAttributeSpec : ChangeSpec := { name := "fnExactIsReducibleAttribute", fn := fun _ => fun
  | [d1, d2] => { results := [.lit (.bool true)], args := [d1, d2] }
  | _ => none }
def fnExactIsReducibleAttributeRow : OpenClaim := { program := "ytbpicpapkpomhaa", sum := "e2747b5512095f535728e160cf5f02c4545931fe00988060aa7dcb184edeeeca", func := "loop.example/g00596/laws.FnExactIsReducibleAttribute", spec := "fnExactIsReducibleAttribute", apart := false }
def FnExactIsReducibleAttributeSaid : Prop := fnExactIsReducibleAttributeRow.holds Try.pinned (OpenSpec.ofChange fnExactIsReducibleAttributeSpec)

/-- ITS FALSE NEIGHBOUR: 'it returns false'. Refute it at one input. -/
def fnExactIsReducibleAttributeWrong : ChangeSpec := { name := "fnExactIsReducibleAttribute", fn := fun _ => fun
  | [d1, d2] => { results := [.lit (.bool false)], args := [d1, d2] }
  | _ => none }
def FnExactIsReducibleAttributeWrongFalsely : Prop := fnExactIsReducibleAttributeRow.holds Try.pinned (OpenSpec.ofChange fnExactIsReducibleAttributeWrong)

/-- 'laws.FnExactReduceContext': WHATEVER THE INPUT: true; the input reads as it did. -/
def fnExactReduceContextSpec : ChangeSpec := { name := "fnExactReduceContext", fn := fun _ => fun
  | [d] => { results := [.lit (.bool true)], args := [d] }
  | _ => none }
def fnExactReduceContextRow : OpenClaim := { program := "ytbpicpapkpomhaa", sum := "e2747b5512095f535728e160cf5f02c4545931fe00988060aa7dcb184edeeeca", func := "loop.example/g00596/laws.FnExactReduceContext", spec := "fnExactReduceContext", apart := false }
def FnExactReduceContextSaid : Prop := fnExactReduceContextRow.holds Try.pinned (OpenSpec.ofChange fnExactReduceContextSpec)

/-- ITS FALSE NEIGHBOUR: 'it returns false'. Refute it at one input. -/
def fnExactReduceContextWrong : ChangeSpec := { name := "fnExactReduceContext", fn := fun _ => fun
  | [d] => { results := [.lit (.bool false)], args := [d] }
  | _ => none }
def FnExactReduceContextWrongFalsely : Prop := fnExactReduceContextRow.holds Try.pinned (OpenSpec.ofChange fnExactReduceContextWrong)

/-- 'laws.FnExactDownArrows': WHATEVER THE INPUT: true; the input reads as it did. -/
def fnExactDownArrowsSpec : ChangeSpec := { name := "fnExactDownArrows", fn := fun _ => fun
  | [d1, d2] => { results := [.lit (.bool true)], args := [d1, d2] }
  | _ => none }
def fnExactDownArrowsRow : OpenClaim := { program := "ytbpicpapkpomhaa", sum := "e2747b5512095f535728e160cf5f02c4545931fe00988060aa7dcb184edeeeca", func := "loop.example/g00596/laws.FnExactDownArrows", spec := "fnExactDownArrows", apart := false }
def FnExactDownArrowsSaid : Prop := fnExactDownArrowsRow.holds Try.pinned (OpenSpec.ofChange fnExactDownArrowsSpec)

/-- ITS FALSE NEIGHBOUR: 'it returns false'. Refute it at one input. -/
def fnExactDownArrowsWrong : ChangeSpec := { name := "fnExactDownArrows", fn := fun _ => fun
  | [d1, d2] => { results := [.lit (.bool false)], args := [d1, d2] }
  | _ => none }
def FnExactDownArrowsWrongFalsely : Prop := fnExactDownArrowsRow.holds Try.pinned (OpenSpec.ofChange fnExactDownArrowsWrong)

/-- 'laws.FnExactUpArrows': WHATEVER THE INPUT: true; the input reads as it did. -/
def fnExactUpArrowsSpec : ChangeSpec := { name := "fnExactUpArrows", fn := fun _ => fun
  | [d1, d2] => { results := [.lit (.bool true)], args := [d1, d2] }
  | _ => none }
def fnExactUpArrowsRow : OpenClaim := { program := "ytbpicpapkpomhaa", sum := "e2747b5512095f535728e160cf5f02c4545931fe00988060aa7dcb184edeeeca", func := "loop.example/g00596/laws.FnExactUpArrows", spec := "fnExactUpArrows", apart := false }
def FnExactUpArrowsSaid : Prop := fnExactUpArrowsRow.holds Try.pinned (OpenSpec.ofChange fnExactUpArrowsSpec)

/-- ITS FALSE NEIGHBOUR: 'it returns false'. Refute it at one input. -/
def fnExactUpArrowsWrong : ChangeSpec := { name := "fnExactUpArrows", fn := fun _ => fun
  | [d1, d2] => { results := [.lit (.bool false)], args := [d1, d2] }
  | _ => none }
def FnExactUpArrowsWrongFalsely : Prop := fnExactUpArrowsRow.holds Try.pinned (OpenSpec.ofChange fnExactUpArrowsWrong)

/-- 'laws.FnExactDoubleArrows': WHATEVER THE INPUT: true; the input reads as it did. -/
def fnExactDoubleArrowsSpec : ChangeSpec := { name := "fnExactDoubleArrows", fn := fun _ => fun
  | [d1, d2] => { results := [.lit (.bool true)], args := [d1, d2] }
  | _ => none }
def fnExactDoubleArrowsRow : OpenClaim := { program := "ytbpicpapkpomhaa", sum := "e2747b5512095f535728e160cf5f02c4545931fe00988060aa7dcb184edeeeca", func := "loop.example/g00596/laws.FnExactDoubleArrows", spec := "fnExactDoubleArrows", apart := false }
def FnExactDoubleArrowsSaid : Prop := fnExactDoubleArrowsRow.holds Try.pinned (OpenSpec.ofChange fnExactDoubleArrowsSpec)

/-- ITS FALSE NEIGHBOUR: 'it returns false'. Refute it at one input. -/
def fnExactDoubleArrowsWrong : ChangeSpec := { name := "fnExactDoubleArrows", fn := fun _ => fun
  | [d1, d2] => { results := [.lit (.bool false)], args := [d1, d2] }
  | _ => none }
def FnExactDoubleArrowsWrongFalsely : Prop := fnExactDoubleArrowsRow.holds Try.pinned (OpenSpec.ofChange fnExactDoubleArrowsWrong)

/-- 'laws.FnExactIsIrreducibleObject': WHATEVER THE INPUT: true; the input reads as it did. -/
def fnExactIsIrreducibleObjectSpec : ChangeSpec := { name := "fnExactIsIrreducibleObject", fn := fun _ => fun
  | [d1, d2] => { results := [.lit (.bool true)], args := [d1, d2] }
  | _ => none }
def fnExactIsIrreducibleObjectRow : OpenClaim := { program := "ytbpicpapkpomhaa", sum := "e2747b5512095f535728e160cf5f02c4545931fe00988060aa7dcb184edeeeca", func := "loop.example/g00596/laws.FnExactIsIrreducibleObject", spec := "fnExactIsIrreducibleObject", apart := false }
def FnExactIsIrreducibleObjectSaid : Prop := fnExactIsIrreducibleObjectRow.holds Try.pinned (OpenSpec.ofChange fnExactIsIrreducibleObjectSpec)

/-- ITS FALSE NEIGHBOUR: 'it returns false'. Refute it at one input. -/
def fnExactIsIrreducibleObjectWrong : ChangeSpec := { name := "fnExactIsIrreducibleObject", fn := fun _ => fun
  | [d1, d2] => { results := [.lit (.bool false)], args := [d1, d2] }
  | _ => none }
def FnExactIsIrreducibleObjectWrongFalsely : Prop := fnExactIsIrreducibleObjectRow.holds Try.pinned (OpenSpec.ofChange fnExactIsIrreducibleObjectWrong)

/-- 'laws.FnExactIsIrreducibleAttribute': WHATEVER THE INPUT: true; the input reads as it did. -/
def fnExactIsIrreducibleAttributeSpec : ChangeSpec := { name := "fnExactIsIrreducibleAttribute", fn := fun _ => fun
  | [d1, d2] => { results := [.lit (.bool true)], args := [d1, d2] }
  | _ => none }
def fnExactIsIrreducibleAttributeRow : OpenClaim := { program := "ytbpicpapkpomhaa", sum := "e2747b5512095f535728e160cf5f02c4545931fe00988060aa7dcb184edeeeca", func := "loop.example/g00596/laws.FnExactIsIrreducibleAttribute", spec := "fnExactIsIrreducibleAttribute", apart := false }
def FnExactIsIrreducibleAttributeSaid : Prop := fnExactIsIrreducibleAttributeRow.holds Try.pinned (OpenSpec.ofChange fnExactIsIrreducibleAttributeSpec)

/-- ITS FALSE NEIGHBOUR: 'it returns false'. Refute it at one input. -/
def fnExactIsIrreducibleAttributeWrong : ChangeSpec := { name := "fnExactIsIrreducibleAttribute", fn := fun _ => fun
  | [d1, d2] => { results := [.lit (.bool false)], args := [d1, d2] }
  | _ => none }
def FnExactIsIrreducibleAttributeWrongFalsely : Prop := fnExactIsIrreducibleAttributeRow.holds Try.pinned (OpenSpec.ofChange fnExactIsIrreducibleAttributeWrong)

/- THE SECOND FORM. 'bulk': how many values and letters a reading holds, each counted each time it is reached (what is shared counts as often as it is met; a slice's spare places count too). A statement '..UptoSaid' is the law's where the arguments, and the package variables that the reading takes, are together of bulk at most 1048576: NARROWER than '..Said'. Prove '..Said' where nothing that the law and all that it calls make is longer than what came in: it says more and counts as full. Else prove '..UptoSaid'. A law counts once. -/
mutual
def uptoBulk {H : Type} : DataW H → Nat
  | .lit (.string bytes) => bytes.length + 1
  | .lit _ => 1
  | .nil => 1
  | .ptr d => uptoBulk d + 1
  | .slice elems spare => uptoBulkAll elems + uptoBulkAll spare + 1
  | .agg parts => uptoBulkAll parts + 1
  | .iface _ d => uptoBulk d + 1
  | .map entries => uptoBulkEntries entries + 1
  | .held _ => 1
def uptoBulkAll {H : Type} : List (DataW H) → Nat
  | [] => 0
  | d :: r => uptoBulk d + uptoBulkAll r
def uptoBulkEntries {H : Type} : List (Lit × DataW H) → Nat
  | [] => 0
  | x :: r => uptoBulkEntry x + uptoBulkEntries r
def uptoBulkEntry {H : Type} : Lit × DataW H → Nat
  | (.string bytes, d) => bytes.length + uptoBulk d + 1
  | (_, d) => uptoBulk d + 1
 end
def uptoSmall : (H : Type) → List (DataW H) → Bool := fun _ ds => decide (uptoBulkAll ds ≤ 1048576)
def OpenSpec.upto (s : _root_.Go.ChangeSpec) : _root_.Go.OpenSpec := { _root_.Go.OpenSpec.ofChange s with cond := some uptoSmall }

/-- 'laws.FnReduced', WHERE WHAT IT READS IS OF BULK AT MOST 1048576: true; the input reads as it did. -/
def fnReducedUptoRow : OpenClaim := { program := "ytbpicpapkpomhaa", sum := "e2747b5512095f535728e160cf5f02c4545931fe00988060aa7dcb184edeeeca", func := "loop.example/g00596/laws.FnReduced", spec := "fnReduced", apart := false, narrowed := true }
def FnReducedUptoSaid : Prop := fnReducedUptoRow.holds Try.pinned (OpenSpec.upto fnReducedSpec)

/-- 'laws.FnExactColumnOf', WHERE WHAT IT READS IS OF BULK AT MOST 1048576: true; the input reads as it did. -/
def fnExactColumnOfUptoRow : OpenClaim := { program := "ytbpicpapkpomhaa", sum := "e2747b5512095f535728e160cf5f02c4545931fe00988060aa7dcb184edeeeca", func := "loop.example/g00596/laws.FnExactColumnOf", spec := "fnExactColumnOf", apart := false, narrowed := true }
def FnExactColumnOfUptoSaid : Prop := fnExactColumnOfUptoRow.holds Try.pinned (OpenSpec.upto fnExactColumnOfSpec)

/-- 'laws.FnExactIsReducibleObject', WHERE WHAT IT READS IS OF BULK AT MOST 1048576: true; the input reads as it did. -/
def fnExactIsReducibleObjectUptoRow : OpenClaim := { program := "ytbpicpapkpomhaa", sum := "e2747b5512095f535728e160cf5f02c4545931fe00988060aa7dcb184edeeeca", func := "loop.example/g00596/laws.FnExactIsReducibleObject", spec := "fnExactIsReducibleObject", apart := false, narrowed := true }
def FnExactIsReducibleObjectUptoSaid : Prop := fnExactIsReducibleObjectUptoRow.holds Try.pinned (OpenSpec.upto fnExactIsReducibleObjectSpec)

/-- 'laws.FnExactIsReducibleAttribute', WHERE WHAT IT READS IS OF BULK AT MOST 1048576: true; the input reads as it did. -/
def fnExactIsReducibleAttributeUptoRow : OpenClaim := { program := "ytbpicpapkpomhaa", sum := "e2747b5512095f535728e160cf5f02c4545931fe00988060aa7dcb184edeeeca", func := "loop.example/g00596/laws.FnExactIsReducibleAttribute", spec := "fnExactIsReducibleAttribute", apart := false, narrowed := true }
def FnExactIsReducibleAttributeUptoSaid : Prop := fnExactIsReducibleAttributeUptoRow.holds Try.pinned (OpenSpec.upto fnExactIsReducibleAttributeSpec)

/-- 'laws.FnExactReduceContext', WHERE WHAT IT READS IS OF BULK AT MOST 1048576: true; the input reads as it did. -/
def fnExactReduceContextUptoRow : OpenClaim := { program := "ytbpicpapkpomhaa", sum := "e2747b5512095f535728e160cf5f02c4545931fe00988060aa7dcb184edeeeca", func := "loop.example/g00596/laws.FnExactReduceContext", spec := "fnExactReduceContext", apart := false, narrowed := true }
def FnExactReduceContextUptoSaid : Prop := fnExactReduceContextUptoRow.holds Try.pinned (OpenSpec.upto fnExactReduceContextSpec)

/-- 'laws.FnExactDownArrows', WHERE WHAT IT READS IS OF BULK AT MOST 1048576: true; the input reads as it did. -/
def fnExactDownArrowsUptoRow : OpenClaim := { program := "ytbpicpapkpomhaa", sum := "e2747b5512095f535728e160cf5f02c4545931fe00988060aa7dcb184edeeeca", func := "loop.example/g00596/laws.FnExactDownArrows", spec := "fnExactDownArrows", apart := false, narrowed := true }
def FnExactDownArrowsUptoSaid : Prop := fnExactDownArrowsUptoRow.holds Try.pinned (OpenSpec.upto fnExactDownArrowsSpec)

/-- 'laws.FnExactUpArrows', WHERE WHAT IT READS IS OF BULK AT MOST 1048576: true; the input reads as it did. -/
def fnExactUpArrowsUptoRow : OpenClaim := { program := "ytbpicpapkpomhaa", sum := "e2747b5512095f535728e160cf5f02c4545931fe00988060aa7dcb184edeeeca", func := "loop.example/g00596/laws.FnExactUpArrows", spec := "fnExactUpArrows", apart := false, narrowed := true }
def FnExactUpArrowsUptoSaid : Prop := fnExactUpArrowsUptoRow.holds Try.pinned (OpenSpec.upto fnExactUpArrowsSpec)

/-- 'laws.FnExactDoubleArrows', WHERE WHAT IT READS IS OF BULK AT MOST 1048576: true; the input reads as it did. -/
def fnExactDoubleArrowsUptoRow : OpenClaim := { program := "ytbpicpapkpomhaa", sum := "e2747b5512095f535728e160cf5f02c4545931fe00988060aa7dcb184edeeeca", func := "loop.example/g00596/laws.FnExactDoubleArrows", spec := "fnExactDoubleArrows", apart := false, narrowed := true }
def FnExactDoubleArrowsUptoSaid : Prop := fnExactDoubleArrowsUptoRow.holds Try.pinned (OpenSpec.upto fnExactDoubleArrowsSpec)

/-- 'laws.FnExactIsIrreducibleObject', WHERE WHAT IT READS IS OF BULK AT MOST 1048576: true; the input reads as it did. -/
def fnExactIsIrreducibleObjectUptoRow : OpenClaim := { program := "ytbpicpapkpomhaa", sum := "e2747b5512095f535728e160cf5f02c4545931fe00988060aa7dcb184edeeeca", func := "loop.example/g00596/laws.FnExactIsIrreducibleObject", spec := "fnExactIsIrreducibleObject", apart := false, narrowed := true }
def FnExactIsIrreducibleObjectUptoSaid : Prop := fnExactIsIrreducibleObjectUptoRow.holds Try.pinned (OpenSpec.upto fnExactIsIrreducibleObjectSpec)

/-- 'laws.FnExactIsIrreducibleAttribute', WHERE WHAT IT READS IS OF BULK AT MOST 1048576: true; the input reads as it did. -/
def fnExactIsIrreducibleAttributeUptoRow : OpenClaim := { program := "ytbpicpapkpomhaa", sum := "e2747b5512095f535728e160cf5f02c4545931fe00988060aa7dcb184edeeeca", func := "loop.example/g00596/laws.FnExactIsIrreducibleAttribute", spec := "fnExactIsIrreducibleAttribute", apart := false, narrowed := true }
def FnExactIsIrreducibleAttributeUptoSaid : Prop := fnExactIsIrreducibleAttributeUptoRow.holds Try.pinned (OpenSpec.upto fnExactIsIrreducibleAttributeSpec)

end Rows
end Go.Proofs.Ytbpicpapkpomhaa
