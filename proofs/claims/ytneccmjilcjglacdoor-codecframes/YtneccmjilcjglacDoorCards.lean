/-
  DERIVED. GIVEN WITH THE SEED: THE CARDS: each row of YtneccmjilcjglacDoorRows.lean that lists a variable, with what it lists TIED to the program's text (the seventh form; the later family's looks); each row that meets fmt, with fmt's text TOLD by the authors' own Lean function (tested against real Go, not proved from fmt's source: count such statements apart). THE CARD IS WHAT COUNTS. Prove the row's statement (the work); the ties are given (YtneccmjilcjglacDoorTie.lean); close each card by the builder's one call (the guide's Derived/Test/ToyasCard.lean, 'card_holds'). Laid BY PROGRAM, IN A SANDBOX (cutbox-door.mjs). By AI agents, Wed Nov 11 2026. No macro, syntax, notation, axiom, sorry.
-/
import Derived.Test.YtneccmjilcjglacDoorRows
import GoSem.ClaimSeven
namespace Go.Proofs.YtneccmjilcjglacDoor
namespace Rows

/-- THE TIED CARD OF 'deduplaw02.CodecSplits'. -/
def codecSplitsCard : Claim7 := { stood := { row := codecSplitsRow, standIns := [], harness := (true, "cd3f4c26dd7e5d4660aa9774bfa35f1a906ea7a3122af3f1f39f273db3973351"), looks := false }, kinds := [], alts := [], laidByText := true, laidKinds := [.data], laidTests := true, laidLooks := .later }
def CodecSplitsCardSaid : Prop := Claim7.holds Tryd.pinned (.plain (OpenSpec.ofChange codecSplitsSpec)) codecSplitsCard

/-- THE TIED CARD OF 'deduplaw02.CodecOrder'. -/
def codecOrderCard : Claim7 := { stood := { row := codecOrderRow, standIns := [], harness := (true, "cd3f4c26dd7e5d4660aa9774bfa35f1a906ea7a3122af3f1f39f273db3973351"), looks := false }, kinds := [], alts := [], laidByText := true, laidKinds := [.data], laidTests := true, laidLooks := .later }
def CodecOrderCardSaid : Prop := Claim7.holds Tryd.pinned (.plain (OpenSpec.ofChange codecOrderSpec)) codecOrderCard

/-- THE TIED CARD OF 'deduplaw02.CodecFrames'. -/
def codecFramesCard : Claim7 := { stood := { row := codecFramesRow, standIns := [], harness := (true, "cd3f4c26dd7e5d4660aa9774bfa35f1a906ea7a3122af3f1f39f273db3973351"), looks := false }, kinds := [], alts := [], laidByText := true, laidKinds := [.data], laidTests := true, laidLooks := .later }
def CodecFramesCardSaid : Prop := Claim7.holds Tryd.pinned (.plain (OpenSpec.ofChange codecFramesSpec)) codecFramesCard

/-- THE TIED CARD OF 'deduplaw02.CodecUnframes'. -/
def codecUnframesCard : Claim7 := { stood := { row := codecUnframesRow, standIns := [], harness := (true, "cd3f4c26dd7e5d4660aa9774bfa35f1a906ea7a3122af3f1f39f273db3973351"), looks := false }, kinds := [], alts := [], laidByText := true, laidKinds := [.data], laidTests := true, laidLooks := .later }
def CodecUnframesCardSaid : Prop := Claim7.holds Tryd.pinned (.plain (OpenSpec.ofChange codecUnframesSpec)) codecUnframesCard

/-- THE TIED CARD OF 'deduplaw02.CodecTurned'. -/
def codecTurnedCard : Claim7 := { stood := { row := codecTurnedRow, standIns := [], harness := (true, "cd3f4c26dd7e5d4660aa9774bfa35f1a906ea7a3122af3f1f39f273db3973351"), looks := false }, kinds := [], alts := [], laidByText := true, laidKinds := [.data], laidTests := true, laidLooks := .later }
def CodecTurnedCardSaid : Prop := Claim7.holds Tryd.pinned (.plain (OpenSpec.ofChange codecTurnedSpec)) codecTurnedCard

/-- THE TIED CARD OF 'deduplaw02.CodecNobody'. -/
def codecNobodyCard : Claim7 := { stood := { row := codecNobodyRow, standIns := [], harness := (true, "cd3f4c26dd7e5d4660aa9774bfa35f1a906ea7a3122af3f1f39f273db3973351"), looks := false }, kinds := [], alts := [], laidByText := true, laidKinds := [.data], laidTests := true, laidLooks := .later }
def CodecNobodyCardSaid : Prop := Claim7.holds Tryd.pinned (.plain (OpenSpec.ofChange codecNobodySpec)) codecNobodyCard

/-- THE SECOND FORM's CARD OF 'deduplaw02.CodecSplits'. -/
def codecSplitsUptoCard : Claim7 := { stood := { row := codecSplitsUptoRow, standIns := [], harness := (true, "cd3f4c26dd7e5d4660aa9774bfa35f1a906ea7a3122af3f1f39f273db3973351"), looks := false }, kinds := [], alts := [], laidByText := true, laidKinds := [.data], laidTests := true, laidLooks := .later }
def CodecSplitsUptoCardSaid : Prop := Claim7.holds Tryd.pinned (.plain (OpenSpec.upto codecSplitsSpec)) codecSplitsUptoCard

/-- THE SECOND FORM's CARD OF 'deduplaw02.CodecOrder'. -/
def codecOrderUptoCard : Claim7 := { stood := { row := codecOrderUptoRow, standIns := [], harness := (true, "cd3f4c26dd7e5d4660aa9774bfa35f1a906ea7a3122af3f1f39f273db3973351"), looks := false }, kinds := [], alts := [], laidByText := true, laidKinds := [.data], laidTests := true, laidLooks := .later }
def CodecOrderUptoCardSaid : Prop := Claim7.holds Tryd.pinned (.plain (OpenSpec.upto codecOrderSpec)) codecOrderUptoCard

/-- THE SECOND FORM's CARD OF 'deduplaw02.CodecFrames'. -/
def codecFramesUptoCard : Claim7 := { stood := { row := codecFramesUptoRow, standIns := [], harness := (true, "cd3f4c26dd7e5d4660aa9774bfa35f1a906ea7a3122af3f1f39f273db3973351"), looks := false }, kinds := [], alts := [], laidByText := true, laidKinds := [.data], laidTests := true, laidLooks := .later }
def CodecFramesUptoCardSaid : Prop := Claim7.holds Tryd.pinned (.plain (OpenSpec.upto codecFramesSpec)) codecFramesUptoCard

/-- THE SECOND FORM's CARD OF 'deduplaw02.CodecUnframes'. -/
def codecUnframesUptoCard : Claim7 := { stood := { row := codecUnframesUptoRow, standIns := [], harness := (true, "cd3f4c26dd7e5d4660aa9774bfa35f1a906ea7a3122af3f1f39f273db3973351"), looks := false }, kinds := [], alts := [], laidByText := true, laidKinds := [.data], laidTests := true, laidLooks := .later }
def CodecUnframesUptoCardSaid : Prop := Claim7.holds Tryd.pinned (.plain (OpenSpec.upto codecUnframesSpec)) codecUnframesUptoCard

/-- THE SECOND FORM's CARD OF 'deduplaw02.CodecTurned'. -/
def codecTurnedUptoCard : Claim7 := { stood := { row := codecTurnedUptoRow, standIns := [], harness := (true, "cd3f4c26dd7e5d4660aa9774bfa35f1a906ea7a3122af3f1f39f273db3973351"), looks := false }, kinds := [], alts := [], laidByText := true, laidKinds := [.data], laidTests := true, laidLooks := .later }
def CodecTurnedUptoCardSaid : Prop := Claim7.holds Tryd.pinned (.plain (OpenSpec.upto codecTurnedSpec)) codecTurnedUptoCard

/-- THE SECOND FORM's CARD OF 'deduplaw02.CodecNobody'. -/
def codecNobodyUptoCard : Claim7 := { stood := { row := codecNobodyUptoRow, standIns := [], harness := (true, "cd3f4c26dd7e5d4660aa9774bfa35f1a906ea7a3122af3f1f39f273db3973351"), looks := false }, kinds := [], alts := [], laidByText := true, laidKinds := [.data], laidTests := true, laidLooks := .later }
def CodecNobodyUptoCardSaid : Prop := Claim7.holds Tryd.pinned (.plain (OpenSpec.upto codecNobodySpec)) codecNobodyUptoCard
end Rows
end Go.Proofs.YtneccmjilcjglacDoor
