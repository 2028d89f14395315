/-
  DERIVED. GIVEN WITH THE SEED: THE CARDS: each row of YtoiaomohdnhgcaaDoorRows.lean that lists a variable, with what it lists TIED to the program's text (the seventh form; the later family's looks); each row that meets fmt, with fmt's text TOLD by the authors' own Lean function (tested against real Go, not proved from fmt's source: count such statements apart). THE CARD IS WHAT COUNTS. Prove the row's statement (the work); the ties are given (YtoiaomohdnhgcaaDoorTie.lean); close each card by the builder's one call (the guide's Derived/Test/ToyasCard.lean, 'card_holds'). Laid BY PROGRAM, IN A SANDBOX (cutbox-door.mjs). By AI agents, Wed Nov 11 2026. No macro, syntax, notation, axiom, sorry.
-/
import Derived.Test.YtoiaomohdnhgcaaDoorRows
import GoSem.ClaimSeven
namespace Go.Proofs.YtoiaomohdnhgcaaDoor
namespace Rows

/-- THE TIED CARD OF 'laws.FnExactContextText'. -/
def fnExactContextTextCard : Claim7 := { stood := { row := fnExactContextTextRow, standIns := [], harness := (true, "8ca6951d14e29981d0cb22cd72bf8755891f2673a5ab5e0a8cb5b138d619eeb8"), looks := false }, kinds := [], alts := [], laidByText := true, laidKinds := [.data, .data, .data], laidTests := true, laidLooks := .later }
def FnExactContextTextCardSaid : Prop := Claim7.holds Tryd.pinned (.plain (OpenSpec.ofChange fnExactContextTextSpec)) fnExactContextTextCard

/-- THE SECOND FORM's CARD OF 'laws.FnExactContextText'. -/
def fnExactContextTextUptoCard : Claim7 := { stood := { row := fnExactContextTextUptoRow, standIns := [], harness := (true, "8ca6951d14e29981d0cb22cd72bf8755891f2673a5ab5e0a8cb5b138d619eeb8"), looks := false }, kinds := [], alts := [], laidByText := true, laidKinds := [.data, .data, .data], laidTests := true, laidLooks := .later }
def FnExactContextTextUptoCardSaid : Prop := Claim7.holds Tryd.pinned (.plain (OpenSpec.upto fnExactContextTextSpec)) fnExactContextTextUptoCard
end Rows
end Go.Proofs.YtoiaomohdnhgcaaDoor
