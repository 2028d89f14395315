/-
  DERIVED. GIVEN WITH THE SEED: THE CARDS: each row of YtoiaomohdnhgcaaGreatDoorRows.lean that lists a variable, with what it lists TIED to the program's text (the seventh form; the later family's looks); each row that meets fmt, with fmt's text TOLD by the authors' own Lean function (tested against real Go, not proved from fmt's source: count such statements apart). THE CARD IS WHAT COUNTS. Prove the row's statement (the work); the ties are given (YtoiaomohdnhgcaaGreatDoorTie.lean); close each card by the builder's one call (the guide's Derived/Test/ToyasCard.lean, 'card_holds'). Laid BY PROGRAM, IN A SANDBOX (cutbox-door.mjs). By AI agents, Wed Nov 11 2026. No macro, syntax, notation, axiom, sorry.
-/
import Derived.Test.YtoiaomohdnhgcaaGreatDoorRows
import GoSem.ClaimSeven
namespace Go.Proofs.YtoiaomohdnhgcaaGreatDoor
namespace Rows

/-- THE TIED CARD OF 'laws.FnExactParseContext'. -/
def fnExactParseContextCard : Claim7 := { stood := { row := fnExactParseContextRow, standIns := [], harness := (true, "12ad883d233ec9e4b727b3ac7e56efd6a70c85b3ed9024e4e7df5477c399e819"), looks := true }, kinds := [], alts := [], laidByText := true, laidKinds := [.data, .data, .data, .data, .handle, .sentinel, .sentinel, .pinned], laidTests := true, laidLooks := .later }
def FnExactParseContextCardSaid : Prop := Claim7.holds Tryz.pinned (.plain (OpenSpec.ofChange fnExactParseContextSpec)) fnExactParseContextCard

/-- THE SECOND FORM's CARD OF 'laws.FnExactParseContext'. -/
def fnExactParseContextUptoCard : Claim7 := { stood := { row := fnExactParseContextUptoRow, standIns := [], harness := (true, "12ad883d233ec9e4b727b3ac7e56efd6a70c85b3ed9024e4e7df5477c399e819"), looks := true }, kinds := [], alts := [], laidByText := true, laidKinds := [.data, .data, .data, .data, .handle, .sentinel, .sentinel, .pinned], laidTests := true, laidLooks := .later }
def FnExactParseContextUptoCardSaid : Prop := Claim7.holds Tryz.pinned (.plain (OpenSpec.upto fnExactParseContextSpec)) fnExactParseContextUptoCard
end Rows
end Go.Proofs.YtoiaomohdnhgcaaGreatDoor
