/-
  No cell of these rows narrows 'for every input' (looked for: loops, veiled, ifaces, maps, wideKeys, modest, calm, conditions, laid).
  DERIVED. THE GIVEN ROWS OF THIS SEAT. 7 by the template 'for every input the law returns true; each argument reads behind the call as it read before'; 0 by the template 'total and deterministic' (their statements: YtoiaomohdnhgcaaTotals.lean).
  GIVEN WITH THE SEED: the statements are not yours to turn. If you find one false, say at which input.
  Laid BY PROGRAM, IN A SANDBOX (cutbox-rows.mjs): the forced cells as the released guide's own fill.sh prints them over the translation 17efd841bc49af49… (all of the seat's roots in one cut). By AI agents, Wed Nov 11 2026. No macro, syntax, notation, axiom, sorry.
-/
import Derived.Test.YtoiaomohdnhgcaaChecked
import GoSem.Claim
import GoSem.ClaimJoined
import GoSem.ClaimMapViews
import Derived.JoinedTies
import Derived.KernelRfl
namespace Go.Proofs.Ytoiaomohdnhgcaa
/- THE CELL 'sum', in the pinned program and in every row, IS THE sha256 OF THE DUMP (.gsa) THAT YtoiaomohdnhgcaaProg.lean LOADS. Nothing in Lean hashes anything: it is a label: what it is worth is what the hold of that sum in a sandbox is worth. -/
noncomputable def Try.pinned : Pinned := { name := "ytoiaomohdnhgcaa", sum := "17efd841bc49af4937bb250fd66324b503c80c4f88b5aea1b20ac810af4df7b1", checked := Try.checked }
namespace Rows
def none {H : Type} : Left H := { results := [], args := [] }

/-- 'laws.FnExactSortLectic': WHATEVER THE INPUT: true; the input reads as it did. -/
def fnExactSortLecticSpec : ChangeSpec := { name := "fnExactSortLectic", fn := fun _ => fun
  | [d] => { results := [.lit (.bool true)], args := [d] }
  | _ => none }
def fnExactSortLecticRow : OpenClaim := { program := "ytoiaomohdnhgcaa", sum := "17efd841bc49af4937bb250fd66324b503c80c4f88b5aea1b20ac810af4df7b1", func := "loop.example/g00596/laws.FnExactSortLectic", spec := "fnExactSortLectic", unfollowed := true, recurses := true, apart := false }
def FnExactSortLecticSaid : Prop := fnExactSortLecticRow.holds Try.pinned (OpenSpec.ofChange fnExactSortLecticSpec)

/-- ITS FALSE NEIGHBOUR: 'it returns false'. Refute it at one input. -/
def fnExactSortLecticWrong : ChangeSpec := { name := "fnExactSortLectic", fn := fun _ => fun
  | [d] => { results := [.lit (.bool false)], args := [d] }
  | _ => none }
def FnExactSortLecticWrongFalsely : Prop := fnExactSortLecticRow.holds Try.pinned (OpenSpec.ofChange fnExactSortLecticWrong)

/-- 'laws.FnExactIsContext': WHATEVER THE INPUT: true; the input reads as it did. -/
def fnExactIsContextSpec : ChangeSpec := { name := "fnExactIsContext", fn := fun _ => fun
  | [d] => { results := [.lit (.bool true)], args := [d] }
  | _ => none }
def fnExactIsContextRow : OpenClaim := { program := "ytoiaomohdnhgcaa", sum := "17efd841bc49af4937bb250fd66324b503c80c4f88b5aea1b20ac810af4df7b1", func := "loop.example/g00596/laws.FnExactIsContext", spec := "fnExactIsContext", apart := false }
def FnExactIsContextSaid : Prop := fnExactIsContextRow.holds Try.pinned (OpenSpec.ofChange fnExactIsContextSpec)

/-- ITS FALSE NEIGHBOUR: 'it returns false'. Refute it at one input. -/
def fnExactIsContextWrong : ChangeSpec := { name := "fnExactIsContext", fn := fun _ => fun
  | [d] => { results := [.lit (.bool false)], args := [d] }
  | _ => none }
def FnExactIsContextWrongFalsely : Prop := fnExactIsContextRow.holds Try.pinned (OpenSpec.ofChange fnExactIsContextWrong)

/-- 'laws.FnExactObjectCount': WHATEVER THE INPUT: true; the input reads as it did. -/
def fnExactObjectCountSpec : ChangeSpec := { name := "fnExactObjectCount", fn := fun _ => fun
  | [d] => { results := [.lit (.bool true)], args := [d] }
  | _ => none }
def fnExactObjectCountRow : OpenClaim := { program := "ytoiaomohdnhgcaa", sum := "17efd841bc49af4937bb250fd66324b503c80c4f88b5aea1b20ac810af4df7b1", func := "loop.example/g00596/laws.FnExactObjectCount", spec := "fnExactObjectCount", apart := false }
def FnExactObjectCountSaid : Prop := fnExactObjectCountRow.holds Try.pinned (OpenSpec.ofChange fnExactObjectCountSpec)

/-- ITS FALSE NEIGHBOUR: 'it returns false'. Refute it at one input. -/
def fnExactObjectCountWrong : ChangeSpec := { name := "fnExactObjectCount", fn := fun _ => fun
  | [d] => { results := [.lit (.bool false)], args := [d] }
  | _ => none }
def FnExactObjectCountWrongFalsely : Prop := fnExactObjectCountRow.holds Try.pinned (OpenSpec.ofChange fnExactObjectCountWrong)

/-- 'laws.FnExactColumnOf': WHATEVER THE INPUT: true; the input reads as it did. -/
def fnExactColumnOfSpec : ChangeSpec := { name := "fnExactColumnOf", fn := fun _ => fun
  | [d1, d2] => { results := [.lit (.bool true)], args := [d1, d2] }
  | _ => none }
def fnExactColumnOfRow : OpenClaim := { program := "ytoiaomohdnhgcaa", sum := "17efd841bc49af4937bb250fd66324b503c80c4f88b5aea1b20ac810af4df7b1", func := "loop.example/g00596/laws.FnExactColumnOf", spec := "fnExactColumnOf", apart := false }
def FnExactColumnOfSaid : Prop := fnExactColumnOfRow.holds Try.pinned (OpenSpec.ofChange fnExactColumnOfSpec)

/-- ITS FALSE NEIGHBOUR: 'it returns false'. Refute it at one input. -/
def fnExactColumnOfWrong : ChangeSpec := { name := "fnExactColumnOf", fn := fun _ => fun
  | [d1, d2] => { results := [.lit (.bool false)], args := [d1, d2] }
  | _ => none }
def FnExactColumnOfWrongFalsely : Prop := fnExactColumnOfRow.holds Try.pinned (OpenSpec.ofChange fnExactColumnOfWrong)

/-- 'laws.FnExactDualContext': WHATEVER THE INPUT: true; the input reads as it did. -/
def fnExactDualContextSpec : ChangeSpec := { name := "fnExactDualContext", fn := fun _ => fun
  | [d] => { results := [.lit (.bool true)], args := [d] }
  | _ => none }
def fnExactDualContextRow : OpenClaim := { program := "ytoiaomohdnhgcaa", sum := "17efd841bc49af4937bb250fd66324b503c80c4f88b5aea1b20ac810af4df7b1", func := "loop.example/g00596/laws.FnExactDualContext", spec := "fnExactDualContext", apart := false }
def FnExactDualContextSaid : Prop := fnExactDualContextRow.holds Try.pinned (OpenSpec.ofChange fnExactDualContextSpec)

/-- ITS FALSE NEIGHBOUR: 'it returns false'. Refute it at one input. -/
def fnExactDualContextWrong : ChangeSpec := { name := "fnExactDualContext", fn := fun _ => fun
  | [d] => { results := [.lit (.bool false)], args := [d] }
  | _ => none }
def FnExactDualContextWrongFalsely : Prop := fnExactDualContextRow.holds Try.pinned (OpenSpec.ofChange fnExactDualContextWrong)

/-- 'laws.FnExactComplementContext': WHATEVER THE INPUT: true; the input reads as it did. -/
def fnExactComplementContextSpec : ChangeSpec := { name := "fnExactComplementContext", fn := fun _ => fun
  | [d] => { results := [.lit (.bool true)], args := [d] }
  | _ => none }
def fnExactComplementContextRow : OpenClaim := { program := "ytoiaomohdnhgcaa", sum := "17efd841bc49af4937bb250fd66324b503c80c4f88b5aea1b20ac810af4df7b1", func := "loop.example/g00596/laws.FnExactComplementContext", spec := "fnExactComplementContext", apart := false }
def FnExactComplementContextSaid : Prop := fnExactComplementContextRow.holds Try.pinned (OpenSpec.ofChange fnExactComplementContextSpec)

/-- ITS FALSE NEIGHBOUR: 'it returns false'. Refute it at one input. -/
def fnExactComplementContextWrong : ChangeSpec := { name := "fnExactComplementContext", fn := fun _ => fun
  | [d] => { results := [.lit (.bool false)], args := [d] }
  | _ => none }
def FnExactComplementContextWrongFalsely : Prop := fnExactComplementContextRow.holds Try.pinned (OpenSpec.ofChange fnExactComplementContextWrong)

/-- 'laws.FnExactEqualContext': WHATEVER THE INPUT: true; the input reads as it did. -/
def fnExactEqualContextSpec : ChangeSpec := { name := "fnExactEqualContext", fn := fun _ => fun
  | [d1, d2] => { results := [.lit (.bool true)], args := [d1, d2] }
  | _ => none }
def fnExactEqualContextRow : OpenClaim := { program := "ytoiaomohdnhgcaa", sum := "17efd841bc49af4937bb250fd66324b503c80c4f88b5aea1b20ac810af4df7b1", func := "loop.example/g00596/laws.FnExactEqualContext", spec := "fnExactEqualContext", apart := false }
def FnExactEqualContextSaid : Prop := fnExactEqualContextRow.holds Try.pinned (OpenSpec.ofChange fnExactEqualContextSpec)

/-- ITS FALSE NEIGHBOUR: 'it returns false'. Refute it at one input. -/
def fnExactEqualContextWrong : ChangeSpec := { name := "fnExactEqualContext", fn := fun _ => fun
  | [d1, d2] => { results := [.lit (.bool false)], args := [d1, d2] }
  | _ => none }
def FnExactEqualContextWrongFalsely : Prop := fnExactEqualContextRow.holds Try.pinned (OpenSpec.ofChange fnExactEqualContextWrong)

/- THE SECOND FORM. 'bulk': how many values and letters a reading holds, each counted each time it is reached (what is shared counts as often as it is met; a slice's spare places count too). A statement '..UptoSaid' is the law's where the arguments, and the package variables that the reading takes, are together of bulk at most 1048576: NARROWER than '..Said'. Prove '..Said' where nothing that the law and all that it calls make is longer than what came in: it says more and counts as full. Else prove '..UptoSaid'. A law counts once. -/
mutual
def uptoBulk {H : Type} : DataW H → Nat
  | .lit (.string bytes) => bytes.length + 1
  | .lit _ => 1
  | .nil => 1
  | .ptr d => uptoBulk d + 1
  | .slice elems spare => uptoBulkAll elems + uptoBulkAll spare + 1
  | .agg parts => uptoBulkAll parts + 1
  | .iface _ d => uptoBulk d + 1
  | .map entries => uptoBulkEntries entries + 1
  | .held _ => 1
def uptoBulkAll {H : Type} : List (DataW H) → Nat
  | [] => 0
  | d :: r => uptoBulk d + uptoBulkAll r
def uptoBulkEntries {H : Type} : List (Lit × DataW H) → Nat
  | [] => 0
  | x :: r => uptoBulkEntry x + uptoBulkEntries r
def uptoBulkEntry {H : Type} : Lit × DataW H → Nat
  | (.string bytes, d) => bytes.length + uptoBulk d + 1
  | (_, d) => uptoBulk d + 1
 end
def uptoSmall : (H : Type) → List (DataW H) → Bool := fun _ ds => decide (uptoBulkAll ds ≤ 1048576)
def OpenSpec.upto (s : _root_.Go.ChangeSpec) : _root_.Go.OpenSpec := { _root_.Go.OpenSpec.ofChange s with cond := some uptoSmall }

/-- 'laws.FnExactSortLectic', WHERE WHAT IT READS IS OF BULK AT MOST 1048576: true; the input reads as it did. -/
def fnExactSortLecticUptoRow : OpenClaim := { program := "ytoiaomohdnhgcaa", sum := "17efd841bc49af4937bb250fd66324b503c80c4f88b5aea1b20ac810af4df7b1", func := "loop.example/g00596/laws.FnExactSortLectic", spec := "fnExactSortLectic", unfollowed := true, recurses := true, apart := false, narrowed := true }
def FnExactSortLecticUptoSaid : Prop := fnExactSortLecticUptoRow.holds Try.pinned (OpenSpec.upto fnExactSortLecticSpec)

/-- 'laws.FnExactIsContext', WHERE WHAT IT READS IS OF BULK AT MOST 1048576: true; the input reads as it did. -/
def fnExactIsContextUptoRow : OpenClaim := { program := "ytoiaomohdnhgcaa", sum := "17efd841bc49af4937bb250fd66324b503c80c4f88b5aea1b20ac810af4df7b1", func := "loop.example/g00596/laws.FnExactIsContext", spec := "fnExactIsContext", apart := false, narrowed := true }
def FnExactIsContextUptoSaid : Prop := fnExactIsContextUptoRow.holds Try.pinned (OpenSpec.upto fnExactIsContextSpec)

/-- 'laws.FnExactObjectCount', WHERE WHAT IT READS IS OF BULK AT MOST 1048576: true; the input reads as it did. -/
def fnExactObjectCountUptoRow : OpenClaim := { program := "ytoiaomohdnhgcaa", sum := "17efd841bc49af4937bb250fd66324b503c80c4f88b5aea1b20ac810af4df7b1", func := "loop.example/g00596/laws.FnExactObjectCount", spec := "fnExactObjectCount", apart := false, narrowed := true }
def FnExactObjectCountUptoSaid : Prop := fnExactObjectCountUptoRow.holds Try.pinned (OpenSpec.upto fnExactObjectCountSpec)

/-- 'laws.FnExactColumnOf', WHERE WHAT IT READS IS OF BULK AT MOST 1048576: true; the input reads as it did. -/
def fnExactColumnOfUptoRow : OpenClaim := { program := "ytoiaomohdnhgcaa", sum := "17efd841bc49af4937bb250fd66324b503c80c4f88b5aea1b20ac810af4df7b1", func := "loop.example/g00596/laws.FnExactColumnOf", spec := "fnExactColumnOf", apart := false, narrowed := true }
def FnExactColumnOfUptoSaid : Prop := fnExactColumnOfUptoRow.holds Try.pinned (OpenSpec.upto fnExactColumnOfSpec)

/-- 'laws.FnExactDualContext', WHERE WHAT IT READS IS OF BULK AT MOST 1048576: true; the input reads as it did. -/
def fnExactDualContextUptoRow : OpenClaim := { program := "ytoiaomohdnhgcaa", sum := "17efd841bc49af4937bb250fd66324b503c80c4f88b5aea1b20ac810af4df7b1", func := "loop.example/g00596/laws.FnExactDualContext", spec := "fnExactDualContext", apart := false, narrowed := true }
def FnExactDualContextUptoSaid : Prop := fnExactDualContextUptoRow.holds Try.pinned (OpenSpec.upto fnExactDualContextSpec)

/-- 'laws.FnExactComplementContext', WHERE WHAT IT READS IS OF BULK AT MOST 1048576: true; the input reads as it did. -/
def fnExactComplementContextUptoRow : OpenClaim := { program := "ytoiaomohdnhgcaa", sum := "17efd841bc49af4937bb250fd66324b503c80c4f88b5aea1b20ac810af4df7b1", func := "loop.example/g00596/laws.FnExactComplementContext", spec := "fnExactComplementContext", apart := false, narrowed := true }
def FnExactComplementContextUptoSaid : Prop := fnExactComplementContextUptoRow.holds Try.pinned (OpenSpec.upto fnExactComplementContextSpec)

/-- 'laws.FnExactEqualContext', WHERE WHAT IT READS IS OF BULK AT MOST 1048576: true; the input reads as it did. -/
def fnExactEqualContextUptoRow : OpenClaim := { program := "ytoiaomohdnhgcaa", sum := "17efd841bc49af4937bb250fd66324b503c80c4f88b5aea1b20ac810af4df7b1", func := "loop.example/g00596/laws.FnExactEqualContext", spec := "fnExactEqualContext", apart := false, narrowed := true }
def FnExactEqualContextUptoSaid : Prop := fnExactEqualContextUptoRow.holds Try.pinned (OpenSpec.upto fnExactEqualContextSpec)

end Rows
end Go.Proofs.Ytoiaomohdnhgcaa
