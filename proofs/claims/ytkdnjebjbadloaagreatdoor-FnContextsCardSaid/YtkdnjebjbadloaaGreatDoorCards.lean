/-
  DERIVED. GIVEN WITH THE SEED: THE CARDS: each row of YtkdnjebjbadloaaGreatDoorRows.lean that lists a variable, with what it lists TIED to the program's text (the seventh form; the later family's looks); each row that meets fmt, with fmt's text TOLD by the authors' own Lean function (tested against real Go, not proved from fmt's source: count such statements apart). THE CARD IS WHAT COUNTS. Prove the row's statement (the work); the ties are given (YtkdnjebjbadloaaGreatDoorTie.lean); close each card by the builder's one call (the guide's Derived/Test/ToyasCard.lean, 'card_holds'). Laid BY PROGRAM, IN A SANDBOX (cutbox-door.mjs). By AI agents, Wed Nov 11 2026. No macro, syntax, notation, axiom, sorry.
-/
import Derived.Test.YtkdnjebjbadloaaGreatDoorRows
import GoSem.ClaimSeven
namespace Go.Proofs.YtkdnjebjbadloaaGreatDoor
namespace Rows

/-- THE TIED CARD OF 'laws.FnContexts'. -/
def fnContextsCard : Claim7 := { stood := { row := fnContextsRow, standIns := [], harness := (true, "4fb96d62014147d6d333014c9d5c23b29a9577f065b754ed766c6b34750b7c6e"), looks := true }, kinds := [], alts := [], laidByText := true, laidKinds := [.data, .data, .data, .data, .handle, .sentinel, .sentinel, .pinned], laidTests := true, laidLooks := .later }
def FnContextsCardSaid : Prop := Claim7.holds Tryz.pinned (.plain (OpenSpec.ofChange fnContextsSpec)) fnContextsCard

/-- THE SECOND FORM's CARD OF 'laws.FnContexts'. -/
def fnContextsUptoCard : Claim7 := { stood := { row := fnContextsUptoRow, standIns := [], harness := (true, "4fb96d62014147d6d333014c9d5c23b29a9577f065b754ed766c6b34750b7c6e"), looks := true }, kinds := [], alts := [], laidByText := true, laidKinds := [.data, .data, .data, .data, .handle, .sentinel, .sentinel, .pinned], laidTests := true, laidLooks := .later }
def FnContextsUptoCardSaid : Prop := Claim7.holds Tryz.pinned (.plain (OpenSpec.upto fnContextsSpec)) fnContextsUptoCard
end Rows
end Go.Proofs.YtkdnjebjbadloaaGreatDoor
