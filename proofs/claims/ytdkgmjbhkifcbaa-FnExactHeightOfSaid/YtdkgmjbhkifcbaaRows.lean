/-
  No cell of these rows narrows 'for every input' (looked for: loops, veiled, ifaces, maps, wideKeys, modest, calm, conditions, laid).
  DERIVED. THE GIVEN ROWS OF THIS SEAT. 11 by the template 'for every input the law returns true; each argument reads behind the call as it read before'; 0 by the template 'total and deterministic' (their statements: YtdkgmjbhkifcbaaTotals.lean).
  GIVEN WITH THE SEED: the statements are not yours to turn. If you find one false, say at which input.
  Laid BY PROGRAM, IN A SANDBOX (cutbox-rows.mjs): the forced cells as the released guide's own fill.sh prints them over the translation e42ab3336abeca24… (all of the seat's roots in one cut). By AI agents, Wed Nov 11 2026. No macro, syntax, notation, axiom, sorry.
-/
import Derived.Test.YtdkgmjbhkifcbaaChecked
import GoSem.Claim
import GoSem.ClaimJoined
import GoSem.ClaimMapViews
import Derived.JoinedTies
import Derived.KernelRfl
namespace Go.Proofs.Ytdkgmjbhkifcbaa
/- THE CELL 'sum', in the pinned program and in every row, IS THE sha256 OF THE DUMP (.gsa) THAT YtdkgmjbhkifcbaaProg.lean LOADS. Nothing in Lean hashes anything: it is a label: what it is worth is what the hold of that sum in a sandbox is worth. -/
noncomputable def Try.pinned : Pinned := { name := "ytdkgmjbhkifcbaa", sum := "e42ab3336abeca244747cb81121439cb5623f8c3cb3dfed36fccbb4c9b5c7532", checked := Try.checked }
namespace Rows
def none {H : Type} : Left H := { results := [], args := [] }

/-- 'laws.FnDerivation': WHATEVER THE INPUT: true; the input reads as it did. -/
def fnDerivationSpec : ChangeSpec := { name := "fnDerivation", fn := fun _ => fun
  | [d] => { results := [.lit (.bool true)], args := [d] }
  | _ => none }
def fnDerivationRow : OpenClaim := { program := "ytdkgmjbhkifcbaa", sum := "e42ab3336abeca244747cb81121439cb5623f8c3cb3dfed36fccbb4c9b5c7532", func := "loop.example/g00596/laws.FnDerivation", spec := "fnDerivation", apart := false }
def FnDerivationSaid : Prop := fnDerivationRow.holds Try.pinned (OpenSpec.ofChange fnDerivationSpec)

/-- ITS FALSE NEIGHBOUR: 'it returns false'. Refute it at one input. -/
def fnDerivationWrong : ChangeSpec := { name := "fnDerivation", fn := fun _ => fun
  | [d] => { results := [.lit (.bool false)], args := [d] }
  | _ => none }
def FnDerivationWrongFalsely : Prop := fnDerivationRow.holds Try.pinned (OpenSpec.ofChange fnDerivationWrong)

/-- 'laws.FnConcepts': WHATEVER THE INPUT: true; the input reads as it did. -/
def fnConceptsSpec : ChangeSpec := { name := "fnConcepts", fn := fun _ => fun
  | [d] => { results := [.lit (.bool true)], args := [d] }
  | _ => none }
def fnConceptsRow : OpenClaim := { program := "ytdkgmjbhkifcbaa", sum := "e42ab3336abeca244747cb81121439cb5623f8c3cb3dfed36fccbb4c9b5c7532", func := "loop.example/g00596/laws.FnConcepts", spec := "fnConcepts", unfollowed := true, recurses := true, apart := false }
def FnConceptsSaid : Prop := fnConceptsRow.holds Try.pinned (OpenSpec.ofChange fnConceptsSpec)

/-- ITS FALSE NEIGHBOUR: 'it returns false'. Refute it at one input. -/
def fnConceptsWrong : ChangeSpec := { name := "fnConcepts", fn := fun _ => fun
  | [d] => { results := [.lit (.bool false)], args := [d] }
  | _ => none }
def FnConceptsWrongFalsely : Prop := fnConceptsRow.holds Try.pinned (OpenSpec.ofChange fnConceptsWrong)

/-- 'laws.FnLattice': WHATEVER THE INPUT: true; the input reads as it did. -/
def fnLatticeSpec : ChangeSpec := { name := "fnLattice", fn := fun _ => fun
  | [d] => { results := [.lit (.bool true)], args := [d] }
  | _ => none }
def fnLatticeRow : OpenClaim := { program := "ytdkgmjbhkifcbaa", sum := "e42ab3336abeca244747cb81121439cb5623f8c3cb3dfed36fccbb4c9b5c7532", func := "loop.example/g00596/laws.FnLattice", spec := "fnLattice", unfollowed := true, recurses := true, apart := false }
def FnLatticeSaid : Prop := fnLatticeRow.holds Try.pinned (OpenSpec.ofChange fnLatticeSpec)

/-- ITS FALSE NEIGHBOUR: 'it returns false'. Refute it at one input. -/
def fnLatticeWrong : ChangeSpec := { name := "fnLattice", fn := fun _ => fun
  | [d] => { results := [.lit (.bool false)], args := [d] }
  | _ => none }
def FnLatticeWrongFalsely : Prop := fnLatticeRow.holds Try.pinned (OpenSpec.ofChange fnLatticeWrong)

/-- 'laws.FnExactIsBelow': WHATEVER THE INPUT: true; the input reads as it did. -/
def fnExactIsBelowSpec : ChangeSpec := { name := "fnExactIsBelow", fn := fun _ => fun
  | [d1, d2, d3] => { results := [.lit (.bool true)], args := [d1, d2, d3] }
  | _ => none }
def fnExactIsBelowRow : OpenClaim := { program := "ytdkgmjbhkifcbaa", sum := "e42ab3336abeca244747cb81121439cb5623f8c3cb3dfed36fccbb4c9b5c7532", func := "loop.example/g00596/laws.FnExactIsBelow", spec := "fnExactIsBelow", unfollowed := true, recurses := true, apart := false }
def FnExactIsBelowSaid : Prop := fnExactIsBelowRow.holds Try.pinned (OpenSpec.ofChange fnExactIsBelowSpec)

/-- ITS FALSE NEIGHBOUR: 'it returns false'. Refute it at one input. -/
def fnExactIsBelowWrong : ChangeSpec := { name := "fnExactIsBelow", fn := fun _ => fun
  | [d1, d2, d3] => { results := [.lit (.bool false)], args := [d1, d2, d3] }
  | _ => none }
def FnExactIsBelowWrongFalsely : Prop := fnExactIsBelowRow.holds Try.pinned (OpenSpec.ofChange fnExactIsBelowWrong)

/-- 'laws.FnExactUpperCovers': WHATEVER THE INPUT: true; the input reads as it did. -/
def fnExactUpperCoversSpec : ChangeSpec := { name := "fnExactUpperCovers", fn := fun _ => fun
  | [d1, d2] => { results := [.lit (.bool true)], args := [d1, d2] }
  | _ => none }
def fnExactUpperCoversRow : OpenClaim := { program := "ytdkgmjbhkifcbaa", sum := "e42ab3336abeca244747cb81121439cb5623f8c3cb3dfed36fccbb4c9b5c7532", func := "loop.example/g00596/laws.FnExactUpperCovers", spec := "fnExactUpperCovers", unfollowed := true, recurses := true, apart := false }
def FnExactUpperCoversSaid : Prop := fnExactUpperCoversRow.holds Try.pinned (OpenSpec.ofChange fnExactUpperCoversSpec)

/-- ITS FALSE NEIGHBOUR: 'it returns false'. Refute it at one input. -/
def fnExactUpperCoversWrong : ChangeSpec := { name := "fnExactUpperCovers", fn := fun _ => fun
  | [d1, d2] => { results := [.lit (.bool false)], args := [d1, d2] }
  | _ => none }
def FnExactUpperCoversWrongFalsely : Prop := fnExactUpperCoversRow.holds Try.pinned (OpenSpec.ofChange fnExactUpperCoversWrong)

/-- 'laws.FnExactLowerCovers': WHATEVER THE INPUT: true; the input reads as it did. -/
def fnExactLowerCoversSpec : ChangeSpec := { name := "fnExactLowerCovers", fn := fun _ => fun
  | [d1, d2] => { results := [.lit (.bool true)], args := [d1, d2] }
  | _ => none }
def fnExactLowerCoversRow : OpenClaim := { program := "ytdkgmjbhkifcbaa", sum := "e42ab3336abeca244747cb81121439cb5623f8c3cb3dfed36fccbb4c9b5c7532", func := "loop.example/g00596/laws.FnExactLowerCovers", spec := "fnExactLowerCovers", unfollowed := true, recurses := true, apart := false }
def FnExactLowerCoversSaid : Prop := fnExactLowerCoversRow.holds Try.pinned (OpenSpec.ofChange fnExactLowerCoversSpec)

/-- ITS FALSE NEIGHBOUR: 'it returns false'. Refute it at one input. -/
def fnExactLowerCoversWrong : ChangeSpec := { name := "fnExactLowerCovers", fn := fun _ => fun
  | [d1, d2] => { results := [.lit (.bool false)], args := [d1, d2] }
  | _ => none }
def FnExactLowerCoversWrongFalsely : Prop := fnExactLowerCoversRow.holds Try.pinned (OpenSpec.ofChange fnExactLowerCoversWrong)

/-- 'laws.FnExactMeetOf': WHATEVER THE INPUT: true; the input reads as it did. -/
def fnExactMeetOfSpec : ChangeSpec := { name := "fnExactMeetOf", fn := fun _ => fun
  | [d1, d2, d3] => { results := [.lit (.bool true)], args := [d1, d2, d3] }
  | _ => none }
def fnExactMeetOfRow : OpenClaim := { program := "ytdkgmjbhkifcbaa", sum := "e42ab3336abeca244747cb81121439cb5623f8c3cb3dfed36fccbb4c9b5c7532", func := "loop.example/g00596/laws.FnExactMeetOf", spec := "fnExactMeetOf", unfollowed := true, recurses := true, apart := false }
def FnExactMeetOfSaid : Prop := fnExactMeetOfRow.holds Try.pinned (OpenSpec.ofChange fnExactMeetOfSpec)

/-- ITS FALSE NEIGHBOUR: 'it returns false'. Refute it at one input. -/
def fnExactMeetOfWrong : ChangeSpec := { name := "fnExactMeetOf", fn := fun _ => fun
  | [d1, d2, d3] => { results := [.lit (.bool false)], args := [d1, d2, d3] }
  | _ => none }
def FnExactMeetOfWrongFalsely : Prop := fnExactMeetOfRow.holds Try.pinned (OpenSpec.ofChange fnExactMeetOfWrong)

/-- 'laws.FnExactJoinOf': WHATEVER THE INPUT: true; the input reads as it did. -/
def fnExactJoinOfSpec : ChangeSpec := { name := "fnExactJoinOf", fn := fun _ => fun
  | [d1, d2, d3] => { results := [.lit (.bool true)], args := [d1, d2, d3] }
  | _ => none }
def fnExactJoinOfRow : OpenClaim := { program := "ytdkgmjbhkifcbaa", sum := "e42ab3336abeca244747cb81121439cb5623f8c3cb3dfed36fccbb4c9b5c7532", func := "loop.example/g00596/laws.FnExactJoinOf", spec := "fnExactJoinOf", unfollowed := true, recurses := true, apart := false }
def FnExactJoinOfSaid : Prop := fnExactJoinOfRow.holds Try.pinned (OpenSpec.ofChange fnExactJoinOfSpec)

/-- ITS FALSE NEIGHBOUR: 'it returns false'. Refute it at one input. -/
def fnExactJoinOfWrong : ChangeSpec := { name := "fnExactJoinOf", fn := fun _ => fun
  | [d1, d2, d3] => { results := [.lit (.bool false)], args := [d1, d2, d3] }
  | _ => none }
def FnExactJoinOfWrongFalsely : Prop := fnExactJoinOfRow.holds Try.pinned (OpenSpec.ofChange fnExactJoinOfWrong)

/-- 'laws.FnExactBottomOf': WHATEVER THE INPUT: true; the input reads as it did. -/
def fnExactBottomOfSpec : ChangeSpec := { name := "fnExactBottomOf", fn := fun _ => fun
  | [d] => { results := [.lit (.bool true)], args := [d] }
  | _ => none }
def fnExactBottomOfRow : OpenClaim := { program := "ytdkgmjbhkifcbaa", sum := "e42ab3336abeca244747cb81121439cb5623f8c3cb3dfed36fccbb4c9b5c7532", func := "loop.example/g00596/laws.FnExactBottomOf", spec := "fnExactBottomOf", unfollowed := true, recurses := true, apart := false }
def FnExactBottomOfSaid : Prop := fnExactBottomOfRow.holds Try.pinned (OpenSpec.ofChange fnExactBottomOfSpec)

/-- ITS FALSE NEIGHBOUR: 'it returns false'. Refute it at one input. -/
def fnExactBottomOfWrong : ChangeSpec := { name := "fnExactBottomOf", fn := fun _ => fun
  | [d] => { results := [.lit (.bool false)], args := [d] }
  | _ => none }
def FnExactBottomOfWrongFalsely : Prop := fnExactBottomOfRow.holds Try.pinned (OpenSpec.ofChange fnExactBottomOfWrong)

/-- 'laws.FnExactHeightOf': WHATEVER THE INPUT: true; the input reads as it did. -/
def fnExactHeightOfSpec : ChangeSpec := { name := "fnExactHeightOf", fn := fun _ => fun
  | [d] => { results := [.lit (.bool true)], args := [d] }
  | _ => none }
def fnExactHeightOfRow : OpenClaim := { program := "ytdkgmjbhkifcbaa", sum := "e42ab3336abeca244747cb81121439cb5623f8c3cb3dfed36fccbb4c9b5c7532", func := "loop.example/g00596/laws.FnExactHeightOf", spec := "fnExactHeightOf", unfollowed := true, recurses := true, apart := false }
def FnExactHeightOfSaid : Prop := fnExactHeightOfRow.holds Try.pinned (OpenSpec.ofChange fnExactHeightOfSpec)

/-- ITS FALSE NEIGHBOUR: 'it returns false'. Refute it at one input. -/
def fnExactHeightOfWrong : ChangeSpec := { name := "fnExactHeightOf", fn := fun _ => fun
  | [d] => { results := [.lit (.bool false)], args := [d] }
  | _ => none }
def FnExactHeightOfWrongFalsely : Prop := fnExactHeightOfRow.holds Try.pinned (OpenSpec.ofChange fnExactHeightOfWrong)

/-- 'laws.FnExactCountEdges': WHATEVER THE INPUT: true; the input reads as it did. -/
def fnExactCountEdgesSpec : ChangeSpec := { name := "fnExactCountEdges", fn := fun _ => fun
  | [d] => { results := [.lit (.bool true)], args := [d] }
  | _ => none }
def fnExactCountEdgesRow : OpenClaim := { program := "ytdkgmjbhkifcbaa", sum := "e42ab3336abeca244747cb81121439cb5623f8c3cb3dfed36fccbb4c9b5c7532", func := "loop.example/g00596/laws.FnExactCountEdges", spec := "fnExactCountEdges", unfollowed := true, recurses := true, apart := false }
def FnExactCountEdgesSaid : Prop := fnExactCountEdgesRow.holds Try.pinned (OpenSpec.ofChange fnExactCountEdgesSpec)

/-- ITS FALSE NEIGHBOUR: 'it returns false'. Refute it at one input. -/
def fnExactCountEdgesWrong : ChangeSpec := { name := "fnExactCountEdges", fn := fun _ => fun
  | [d] => { results := [.lit (.bool false)], args := [d] }
  | _ => none }
def FnExactCountEdgesWrongFalsely : Prop := fnExactCountEdgesRow.holds Try.pinned (OpenSpec.ofChange fnExactCountEdgesWrong)

/- THE SECOND FORM. 'bulk': how many values and letters a reading holds, each counted each time it is reached (what is shared counts as often as it is met; a slice's spare places count too). A statement '..UptoSaid' is the law's where the arguments, and the package variables that the reading takes, are together of bulk at most 1048576: NARROWER than '..Said'. Prove '..Said' where nothing that the law and all that it calls make is longer than what came in: it says more and counts as full. Else prove '..UptoSaid'. A law counts once. -/
mutual
def uptoBulk {H : Type} : DataW H → Nat
  | .lit (.string bytes) => bytes.length + 1
  | .lit _ => 1
  | .nil => 1
  | .ptr d => uptoBulk d + 1
  | .slice elems spare => uptoBulkAll elems + uptoBulkAll spare + 1
  | .agg parts => uptoBulkAll parts + 1
  | .iface _ d => uptoBulk d + 1
  | .map entries => uptoBulkEntries entries + 1
  | .held _ => 1
def uptoBulkAll {H : Type} : List (DataW H) → Nat
  | [] => 0
  | d :: r => uptoBulk d + uptoBulkAll r
def uptoBulkEntries {H : Type} : List (Lit × DataW H) → Nat
  | [] => 0
  | x :: r => uptoBulkEntry x + uptoBulkEntries r
def uptoBulkEntry {H : Type} : Lit × DataW H → Nat
  | (.string bytes, d) => bytes.length + uptoBulk d + 1
  | (_, d) => uptoBulk d + 1
 end
def uptoSmall : (H : Type) → List (DataW H) → Bool := fun _ ds => decide (uptoBulkAll ds ≤ 1048576)
def OpenSpec.upto (s : _root_.Go.ChangeSpec) : _root_.Go.OpenSpec := { _root_.Go.OpenSpec.ofChange s with cond := some uptoSmall }

/-- 'laws.FnDerivation', WHERE WHAT IT READS IS OF BULK AT MOST 1048576: true; the input reads as it did. -/
def fnDerivationUptoRow : OpenClaim := { program := "ytdkgmjbhkifcbaa", sum := "e42ab3336abeca244747cb81121439cb5623f8c3cb3dfed36fccbb4c9b5c7532", func := "loop.example/g00596/laws.FnDerivation", spec := "fnDerivation", apart := false, narrowed := true }
def FnDerivationUptoSaid : Prop := fnDerivationUptoRow.holds Try.pinned (OpenSpec.upto fnDerivationSpec)

/-- 'laws.FnConcepts', WHERE WHAT IT READS IS OF BULK AT MOST 1048576: true; the input reads as it did. -/
def fnConceptsUptoRow : OpenClaim := { program := "ytdkgmjbhkifcbaa", sum := "e42ab3336abeca244747cb81121439cb5623f8c3cb3dfed36fccbb4c9b5c7532", func := "loop.example/g00596/laws.FnConcepts", spec := "fnConcepts", unfollowed := true, recurses := true, apart := false, narrowed := true }
def FnConceptsUptoSaid : Prop := fnConceptsUptoRow.holds Try.pinned (OpenSpec.upto fnConceptsSpec)

/-- 'laws.FnLattice', WHERE WHAT IT READS IS OF BULK AT MOST 1048576: true; the input reads as it did. -/
def fnLatticeUptoRow : OpenClaim := { program := "ytdkgmjbhkifcbaa", sum := "e42ab3336abeca244747cb81121439cb5623f8c3cb3dfed36fccbb4c9b5c7532", func := "loop.example/g00596/laws.FnLattice", spec := "fnLattice", unfollowed := true, recurses := true, apart := false, narrowed := true }
def FnLatticeUptoSaid : Prop := fnLatticeUptoRow.holds Try.pinned (OpenSpec.upto fnLatticeSpec)

/-- 'laws.FnExactIsBelow', WHERE WHAT IT READS IS OF BULK AT MOST 1048576: true; the input reads as it did. -/
def fnExactIsBelowUptoRow : OpenClaim := { program := "ytdkgmjbhkifcbaa", sum := "e42ab3336abeca244747cb81121439cb5623f8c3cb3dfed36fccbb4c9b5c7532", func := "loop.example/g00596/laws.FnExactIsBelow", spec := "fnExactIsBelow", unfollowed := true, recurses := true, apart := false, narrowed := true }
def FnExactIsBelowUptoSaid : Prop := fnExactIsBelowUptoRow.holds Try.pinned (OpenSpec.upto fnExactIsBelowSpec)

/-- 'laws.FnExactUpperCovers', WHERE WHAT IT READS IS OF BULK AT MOST 1048576: true; the input reads as it did. -/
def fnExactUpperCoversUptoRow : OpenClaim := { program := "ytdkgmjbhkifcbaa", sum := "e42ab3336abeca244747cb81121439cb5623f8c3cb3dfed36fccbb4c9b5c7532", func := "loop.example/g00596/laws.FnExactUpperCovers", spec := "fnExactUpperCovers", unfollowed := true, recurses := true, apart := false, narrowed := true }
def FnExactUpperCoversUptoSaid : Prop := fnExactUpperCoversUptoRow.holds Try.pinned (OpenSpec.upto fnExactUpperCoversSpec)

/-- 'laws.FnExactLowerCovers', WHERE WHAT IT READS IS OF BULK AT MOST 1048576: true; the input reads as it did. -/
def fnExactLowerCoversUptoRow : OpenClaim := { program := "ytdkgmjbhkifcbaa", sum := "e42ab3336abeca244747cb81121439cb5623f8c3cb3dfed36fccbb4c9b5c7532", func := "loop.example/g00596/laws.FnExactLowerCovers", spec := "fnExactLowerCovers", unfollowed := true, recurses := true, apart := false, narrowed := true }
def FnExactLowerCoversUptoSaid : Prop := fnExactLowerCoversUptoRow.holds Try.pinned (OpenSpec.upto fnExactLowerCoversSpec)

/-- 'laws.FnExactMeetOf', WHERE WHAT IT READS IS OF BULK AT MOST 1048576: true; the input reads as it did. -/
def fnExactMeetOfUptoRow : OpenClaim := { program := "ytdkgmjbhkifcbaa", sum := "e42ab3336abeca244747cb81121439cb5623f8c3cb3dfed36fccbb4c9b5c7532", func := "loop.example/g00596/laws.FnExactMeetOf", spec := "fnExactMeetOf", unfollowed := true, recurses := true, apart := false, narrowed := true }
def FnExactMeetOfUptoSaid : Prop := fnExactMeetOfUptoRow.holds Try.pinned (OpenSpec.upto fnExactMeetOfSpec)

/-- 'laws.FnExactJoinOf', WHERE WHAT IT READS IS OF BULK AT MOST 1048576: true; the input reads as it did. -/
def fnExactJoinOfUptoRow : OpenClaim := { program := "ytdkgmjbhkifcbaa", sum := "e42ab3336abeca244747cb81121439cb5623f8c3cb3dfed36fccbb4c9b5c7532", func := "loop.example/g00596/laws.FnExactJoinOf", spec := "fnExactJoinOf", unfollowed := true, recurses := true, apart := false, narrowed := true }
def FnExactJoinOfUptoSaid : Prop := fnExactJoinOfUptoRow.holds Try.pinned (OpenSpec.upto fnExactJoinOfSpec)

/-- 'laws.FnExactBottomOf', WHERE WHAT IT READS IS OF BULK AT MOST 1048576: true; the input reads as it did. -/
def fnExactBottomOfUptoRow : OpenClaim := { program := "ytdkgmjbhkifcbaa", sum := "e42ab3336abeca244747cb81121439cb5623f8c3cb3dfed36fccbb4c9b5c7532", func := "loop.example/g00596/laws.FnExactBottomOf", spec := "fnExactBottomOf", unfollowed := true, recurses := true, apart := false, narrowed := true }
def FnExactBottomOfUptoSaid : Prop := fnExactBottomOfUptoRow.holds Try.pinned (OpenSpec.upto fnExactBottomOfSpec)

/-- 'laws.FnExactHeightOf', WHERE WHAT IT READS IS OF BULK AT MOST 1048576: true; the input reads as it did. -/
def fnExactHeightOfUptoRow : OpenClaim := { program := "ytdkgmjbhkifcbaa", sum := "e42ab3336abeca244747cb81121439cb5623f8c3cb3dfed36fccbb4c9b5c7532", func := "loop.example/g00596/laws.FnExactHeightOf", spec := "fnExactHeightOf", unfollowed := true, recurses := true, apart := false, narrowed := true }
def FnExactHeightOfUptoSaid : Prop := fnExactHeightOfUptoRow.holds Try.pinned (OpenSpec.upto fnExactHeightOfSpec)

/-- 'laws.FnExactCountEdges', WHERE WHAT IT READS IS OF BULK AT MOST 1048576: true; the input reads as it did. -/
def fnExactCountEdgesUptoRow : OpenClaim := { program := "ytdkgmjbhkifcbaa", sum := "e42ab3336abeca244747cb81121439cb5623f8c3cb3dfed36fccbb4c9b5c7532", func := "loop.example/g00596/laws.FnExactCountEdges", spec := "fnExactCountEdges", unfollowed := true, recurses := true, apart := false, narrowed := true }
def FnExactCountEdgesUptoSaid : Prop := fnExactCountEdgesUptoRow.holds Try.pinned (OpenSpec.upto fnExactCountEdgesSpec)

end Rows
end Go.Proofs.Ytdkgmjbhkifcbaa
