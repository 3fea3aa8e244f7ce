/-
  DERIVED. GIVEN WITH THE SEED: THE CARDS: each row of YtdmekpokgnieeaaDoorRows.lean that lists a variable, with what it lists TIED to the program's text (the seventh form; the later family's looks); each row that meets fmt, with fmt's text TOLD by the authors' own Lean function (tested against real Go, not proved from fmt's source: count such statements apart). THE CARD IS WHAT COUNTS. Prove the row's statement (the work); the ties are given (YtdmekpokgnieeaaDoorTie.lean); close each card by the builder's one call (the guide's Derived/Test/ToyasCard.lean, 'card_holds'). Laid BY PROGRAM, IN A SANDBOX (cutbox-door.mjs). By AI agents, Wed Nov 11 2026. No macro, syntax, notation, axiom, sorry.
-/
import Derived.Test.YtdmekpokgnieeaaDoorRows
import GoSem.ClaimSeven
namespace Go.Proofs.YtdmekpokgnieeaaDoor
namespace Rows

/-- THE TIED CARD OF 'deduplaw05.CutLengths'. -/
def cutLengthsCard : Claim7 := { stood := { row := cutLengthsRow, standIns := [], harness := (true, "3cd65a72373487afc3061410eabc575f9f66a0ddfe1e23f7085c724fc30cbe4b"), looks := false }, kinds := [], alts := [], laidByText := true, laidKinds := [.data, .data], laidTests := true, laidLooks := .later }
def CutLengthsCardSaid : Prop := Claim7.holds Tryd.pinned (.plain (OpenSpec.ofChange cutLengthsSpec)) cutLengthsCard

/-- THE TIED CARD OF 'deduplaw05.CutPieces'. -/
def cutPiecesCard : Claim7 := { stood := { row := cutPiecesRow, standIns := [], harness := (true, "3cd65a72373487afc3061410eabc575f9f66a0ddfe1e23f7085c724fc30cbe4b"), looks := false }, kinds := [], alts := [], laidByText := true, laidKinds := [.data, .data], laidTests := true, laidLooks := .later }
def CutPiecesCardSaid : Prop := Claim7.holds Tryd.pinned (.plain (OpenSpec.ofChange cutPiecesSpec)) cutPiecesCard

/-- THE TIED CARD OF 'deduplaw05.CutAgain'. -/
def cutAgainCard : Claim7 := { stood := { row := cutAgainRow, standIns := [], harness := (true, "3cd65a72373487afc3061410eabc575f9f66a0ddfe1e23f7085c724fc30cbe4b"), looks := false }, kinds := [], alts := [], laidByText := true, laidKinds := [.data, .data], laidTests := true, laidLooks := .later }
def CutAgainCardSaid : Prop := Claim7.holds Tryd.pinned (.plain (OpenSpec.ofChange cutAgainSpec)) cutAgainCard

/-- THE SECOND FORM's CARD OF 'deduplaw05.CutLengths'. -/
def cutLengthsUptoCard : Claim7 := { stood := { row := cutLengthsUptoRow, standIns := [], harness := (true, "3cd65a72373487afc3061410eabc575f9f66a0ddfe1e23f7085c724fc30cbe4b"), looks := false }, kinds := [], alts := [], laidByText := true, laidKinds := [.data, .data], laidTests := true, laidLooks := .later }
def CutLengthsUptoCardSaid : Prop := Claim7.holds Tryd.pinned (.plain (OpenSpec.upto cutLengthsSpec)) cutLengthsUptoCard

/-- THE SECOND FORM's CARD OF 'deduplaw05.CutPieces'. -/
def cutPiecesUptoCard : Claim7 := { stood := { row := cutPiecesUptoRow, standIns := [], harness := (true, "3cd65a72373487afc3061410eabc575f9f66a0ddfe1e23f7085c724fc30cbe4b"), looks := false }, kinds := [], alts := [], laidByText := true, laidKinds := [.data, .data], laidTests := true, laidLooks := .later }
def CutPiecesUptoCardSaid : Prop := Claim7.holds Tryd.pinned (.plain (OpenSpec.upto cutPiecesSpec)) cutPiecesUptoCard

/-- THE SECOND FORM's CARD OF 'deduplaw05.CutAgain'. -/
def cutAgainUptoCard : Claim7 := { stood := { row := cutAgainUptoRow, standIns := [], harness := (true, "3cd65a72373487afc3061410eabc575f9f66a0ddfe1e23f7085c724fc30cbe4b"), looks := false }, kinds := [], alts := [], laidByText := true, laidKinds := [.data, .data], laidTests := true, laidLooks := .later }
def CutAgainUptoCardSaid : Prop := Claim7.holds Tryd.pinned (.plain (OpenSpec.upto cutAgainSpec)) cutAgainUptoCard
end Rows
end Go.Proofs.YtdmekpokgnieeaaDoor
