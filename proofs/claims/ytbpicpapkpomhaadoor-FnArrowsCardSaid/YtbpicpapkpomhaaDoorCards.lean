/-
  DERIVED. GIVEN WITH THE SEED: THE CARDS: each row of YtbpicpapkpomhaaDoorRows.lean that lists a variable, with what it lists TIED to the program's text (the seventh form; the later family's looks); each row that meets fmt, with fmt's text TOLD by the authors' own Lean function (tested against real Go, not proved from fmt's source: count such statements apart). THE CARD IS WHAT COUNTS. Prove the row's statement (the work); the ties are given (YtbpicpapkpomhaaDoorTie.lean); close each card by the builder's one call (the guide's Derived/Test/ToyasCard.lean, 'card_holds'). Laid BY PROGRAM, IN A SANDBOX (cutbox-door.mjs). By AI agents, Wed Nov 11 2026. No macro, syntax, notation, axiom, sorry.
-/
import Derived.Test.YtbpicpapkpomhaaDoorRows
import GoSem.ClaimSeven
namespace Go.Proofs.YtbpicpapkpomhaaDoor
namespace Rows

/-- THE TIED CARD OF 'laws.FnArrows'. -/
def fnArrowsCard : Claim7 := { stood := { row := fnArrowsRow, standIns := [], harness := (true, "32ba514b2d3adf5bb1604763b0dbaff15256595bd3529033933c70842688dee4"), looks := false }, kinds := [], alts := [], laidByText := true, laidKinds := [.data], laidTests := true, laidLooks := .later }
def FnArrowsCardSaid : Prop := Claim7.holds Tryd.pinned (.plain (OpenSpec.ofChange fnArrowsSpec)) fnArrowsCard

/-- THE TIED CARD OF 'laws.FnExactArrowText'. -/
def fnExactArrowTextCard : Claim7 := { stood := { row := fnExactArrowTextRow, standIns := [], harness := (true, "32ba514b2d3adf5bb1604763b0dbaff15256595bd3529033933c70842688dee4"), looks := false }, kinds := [], alts := [], laidByText := true, laidKinds := [.data], laidTests := true, laidLooks := .later }
def FnExactArrowTextCardSaid : Prop := Claim7.holds Tryd.pinned (.plain (OpenSpec.ofChange fnExactArrowTextSpec)) fnExactArrowTextCard

/-- THE SECOND FORM's CARD OF 'laws.FnArrows'. -/
def fnArrowsUptoCard : Claim7 := { stood := { row := fnArrowsUptoRow, standIns := [], harness := (true, "32ba514b2d3adf5bb1604763b0dbaff15256595bd3529033933c70842688dee4"), looks := false }, kinds := [], alts := [], laidByText := true, laidKinds := [.data], laidTests := true, laidLooks := .later }
def FnArrowsUptoCardSaid : Prop := Claim7.holds Tryd.pinned (.plain (OpenSpec.upto fnArrowsSpec)) fnArrowsUptoCard

/-- THE SECOND FORM's CARD OF 'laws.FnExactArrowText'. -/
def fnExactArrowTextUptoCard : Claim7 := { stood := { row := fnExactArrowTextUptoRow, standIns := [], harness := (true, "32ba514b2d3adf5bb1604763b0dbaff15256595bd3529033933c70842688dee4"), looks := false }, kinds := [], alts := [], laidByText := true, laidKinds := [.data], laidTests := true, laidLooks := .later }
def FnExactArrowTextUptoCardSaid : Prop := Claim7.holds Tryd.pinned (.plain (OpenSpec.upto fnExactArrowTextSpec)) fnExactArrowTextUptoCard
end Rows
end Go.Proofs.YtbpicpapkpomhaaDoor
