/-
  DERIVED. GIVEN WITH THE SEED: THE CARDS: each row of YtlilgfcacoooaaaDoorRows.lean that lists a variable, with what it lists TIED to the program's text (the seventh form; the later family's looks); each row that meets fmt, with fmt's text TOLD by the authors' own Lean function (tested against real Go, not proved from fmt's source: count such statements apart). THE CARD IS WHAT COUNTS. Prove the row's statement (the work); the ties are given (YtlilgfcacoooaaaDoorTie.lean); close each card by the builder's one call (the guide's Derived/Test/ToyasCard.lean, 'card_holds'). Laid BY PROGRAM, IN A SANDBOX (cutbox-door.mjs). By AI agents, Wed Nov 11 2026. No macro, syntax, notation, axiom, sorry.
-/
import Derived.Test.YtlilgfcacoooaaaDoorRows
import GoSem.ClaimSeven
namespace Go.Proofs.YtlilgfcacoooaaaDoor
namespace Rows

/-- THE TIED CARD OF 'deduplaw04.LayoutChecks'. -/
def layoutChecksCard : Claim7 := { stood := { row := layoutChecksRow, standIns := [], harness := (true, "c76f5a232876b8521c691d40de204f5a0a134a55b2e612c92272382f60e3fe78"), looks := false }, kinds := [], alts := [], laidByText := true, laidKinds := [.data], laidTests := true, laidLooks := .later }
def LayoutChecksCardSaid : Prop := Claim7.holds Tryd.pinned (.plain (OpenSpec.ofChange layoutChecksSpec)) layoutChecksCard

/-- THE TIED CARD OF 'deduplaw04.LayoutKinds'. -/
def layoutKindsCard : Claim7 := { stood := { row := layoutKindsRow, standIns := [], harness := (true, "c76f5a232876b8521c691d40de204f5a0a134a55b2e612c92272382f60e3fe78"), looks := false }, kinds := [], alts := [], laidByText := true, laidKinds := [.data], laidTests := true, laidLooks := .later }
def LayoutKindsCardSaid : Prop := Claim7.holds Tryd.pinned (.plain (OpenSpec.ofChange layoutKindsSpec)) layoutKindsCard

/-- THE TIED CARD OF 'deduplaw04.LayoutParts'. -/
def layoutPartsCard : Claim7 := { stood := { row := layoutPartsRow, standIns := [], harness := (true, "c76f5a232876b8521c691d40de204f5a0a134a55b2e612c92272382f60e3fe78"), looks := false }, kinds := [], alts := [], laidByText := true, laidKinds := [.data], laidTests := true, laidLooks := .later }
def LayoutPartsCardSaid : Prop := Claim7.holds Tryd.pinned (.plain (OpenSpec.ofChange layoutPartsSpec)) layoutPartsCard

/-- THE TIED CARD OF 'deduplaw04.LayoutEncodes'. -/
def layoutEncodesCard : Claim7 := { stood := { row := layoutEncodesRow, standIns := [], harness := (true, "c76f5a232876b8521c691d40de204f5a0a134a55b2e612c92272382f60e3fe78"), looks := false }, kinds := [], alts := [], laidByText := true, laidKinds := [.data], laidTests := true, laidLooks := .later }
def LayoutEncodesCardSaid : Prop := Claim7.holds Tryd.pinned (.plain (OpenSpec.ofChange layoutEncodesSpec)) layoutEncodesCard

/-- THE TIED CARD OF 'deduplaw04.LayoutDecodes'. -/
def layoutDecodesCard : Claim7 := { stood := { row := layoutDecodesRow, standIns := [], harness := (true, "c76f5a232876b8521c691d40de204f5a0a134a55b2e612c92272382f60e3fe78"), looks := false }, kinds := [], alts := [], laidByText := true, laidKinds := [.data], laidTests := true, laidLooks := .later }
def LayoutDecodesCardSaid : Prop := Claim7.holds Tryd.pinned (.plain (OpenSpec.ofChange layoutDecodesSpec)) layoutDecodesCard

/-- THE TIED CARD OF 'deduplaw04.LayoutChooses'. -/
def layoutChoosesCard : Claim7 := { stood := { row := layoutChoosesRow, standIns := [], harness := (true, "c76f5a232876b8521c691d40de204f5a0a134a55b2e612c92272382f60e3fe78"), looks := false }, kinds := [], alts := [], laidByText := true, laidKinds := [.data], laidTests := true, laidLooks := .later }
def LayoutChoosesCardSaid : Prop := Claim7.holds Tryd.pinned (.plain (OpenSpec.ofChange layoutChoosesSpec)) layoutChoosesCard

/-- THE TIED CARD OF 'deduplaw04.LayoutOneOrOther'. -/
def layoutOneOrOtherCard : Claim7 := { stood := { row := layoutOneOrOtherRow, standIns := [], harness := (true, "c76f5a232876b8521c691d40de204f5a0a134a55b2e612c92272382f60e3fe78"), looks := false }, kinds := [], alts := [], laidByText := true, laidKinds := [.data], laidTests := true, laidLooks := .later }
def LayoutOneOrOtherCardSaid : Prop := Claim7.holds Tryd.pinned (.plain (OpenSpec.ofChange layoutOneOrOtherSpec)) layoutOneOrOtherCard

/-- THE TIED CARD OF 'deduplaw04.LayoutNames'. -/
def layoutNamesCard : Claim7 := { stood := { row := layoutNamesRow, standIns := [], harness := (true, "c76f5a232876b8521c691d40de204f5a0a134a55b2e612c92272382f60e3fe78"), looks := false }, kinds := [], alts := [], laidByText := true, laidKinds := [.data], laidTests := true, laidLooks := .later }
def LayoutNamesCardSaid : Prop := Claim7.holds Tryd.pinned (.plain (OpenSpec.ofChange layoutNamesSpec)) layoutNamesCard

/-- THE TIED CARD OF 'deduplaw02.CodecWrites'. -/
def codecWritesCard : Claim7 := { stood := { row := codecWritesRow, standIns := [], harness := (true, "c76f5a232876b8521c691d40de204f5a0a134a55b2e612c92272382f60e3fe78"), looks := false }, kinds := [], alts := [], laidByText := true, laidKinds := [.data], laidTests := true, laidLooks := .later }
def CodecWritesCardSaid : Prop := Claim7.holds Tryd.pinned (.plain (OpenSpec.ofChange codecWritesSpec)) codecWritesCard

/-- THE TIED CARD OF 'deduplaw02.CodecReads'. -/
def codecReadsCard : Claim7 := { stood := { row := codecReadsRow, standIns := [], harness := (true, "c76f5a232876b8521c691d40de204f5a0a134a55b2e612c92272382f60e3fe78"), looks := false }, kinds := [], alts := [], laidByText := true, laidKinds := [.data], laidTests := true, laidLooks := .later }
def CodecReadsCardSaid : Prop := Claim7.holds Tryd.pinned (.plain (OpenSpec.ofChange codecReadsSpec)) codecReadsCard

/-- THE TIED CARD OF 'deduplaw02.CodecBack'. -/
def codecBackCard : Claim7 := { stood := { row := codecBackRow, standIns := [], harness := (true, "c76f5a232876b8521c691d40de204f5a0a134a55b2e612c92272382f60e3fe78"), looks := false }, kinds := [], alts := [], laidByText := true, laidKinds := [.data], laidTests := true, laidLooks := .later }
def CodecBackCardSaid : Prop := Claim7.holds Tryd.pinned (.plain (OpenSpec.ofChange codecBackSpec)) codecBackCard

/-- THE TIED CARD OF 'deduplaw02.CodecTurned'. -/
def codecTurnedCard : Claim7 := { stood := { row := codecTurnedRow, standIns := [], harness := (true, "c76f5a232876b8521c691d40de204f5a0a134a55b2e612c92272382f60e3fe78"), looks := false }, kinds := [], alts := [], laidByText := true, laidKinds := [.data], laidTests := true, laidLooks := .later }
def CodecTurnedCardSaid : Prop := Claim7.holds Tryd.pinned (.plain (OpenSpec.ofChange codecTurnedSpec)) codecTurnedCard

/-- THE SECOND FORM's CARD OF 'deduplaw04.LayoutChecks'. -/
def layoutChecksUptoCard : Claim7 := { stood := { row := layoutChecksUptoRow, standIns := [], harness := (true, "c76f5a232876b8521c691d40de204f5a0a134a55b2e612c92272382f60e3fe78"), looks := false }, kinds := [], alts := [], laidByText := true, laidKinds := [.data], laidTests := true, laidLooks := .later }
def LayoutChecksUptoCardSaid : Prop := Claim7.holds Tryd.pinned (.plain (OpenSpec.upto layoutChecksSpec)) layoutChecksUptoCard

/-- THE SECOND FORM's CARD OF 'deduplaw04.LayoutKinds'. -/
def layoutKindsUptoCard : Claim7 := { stood := { row := layoutKindsUptoRow, standIns := [], harness := (true, "c76f5a232876b8521c691d40de204f5a0a134a55b2e612c92272382f60e3fe78"), looks := false }, kinds := [], alts := [], laidByText := true, laidKinds := [.data], laidTests := true, laidLooks := .later }
def LayoutKindsUptoCardSaid : Prop := Claim7.holds Tryd.pinned (.plain (OpenSpec.upto layoutKindsSpec)) layoutKindsUptoCard

/-- THE SECOND FORM's CARD OF 'deduplaw04.LayoutParts'. -/
def layoutPartsUptoCard : Claim7 := { stood := { row := layoutPartsUptoRow, standIns := [], harness := (true, "c76f5a232876b8521c691d40de204f5a0a134a55b2e612c92272382f60e3fe78"), looks := false }, kinds := [], alts := [], laidByText := true, laidKinds := [.data], laidTests := true, laidLooks := .later }
def LayoutPartsUptoCardSaid : Prop := Claim7.holds Tryd.pinned (.plain (OpenSpec.upto layoutPartsSpec)) layoutPartsUptoCard

/-- THE SECOND FORM's CARD OF 'deduplaw04.LayoutEncodes'. -/
def layoutEncodesUptoCard : Claim7 := { stood := { row := layoutEncodesUptoRow, standIns := [], harness := (true, "c76f5a232876b8521c691d40de204f5a0a134a55b2e612c92272382f60e3fe78"), looks := false }, kinds := [], alts := [], laidByText := true, laidKinds := [.data], laidTests := true, laidLooks := .later }
def LayoutEncodesUptoCardSaid : Prop := Claim7.holds Tryd.pinned (.plain (OpenSpec.upto layoutEncodesSpec)) layoutEncodesUptoCard

/-- THE SECOND FORM's CARD OF 'deduplaw04.LayoutDecodes'. -/
def layoutDecodesUptoCard : Claim7 := { stood := { row := layoutDecodesUptoRow, standIns := [], harness := (true, "c76f5a232876b8521c691d40de204f5a0a134a55b2e612c92272382f60e3fe78"), looks := false }, kinds := [], alts := [], laidByText := true, laidKinds := [.data], laidTests := true, laidLooks := .later }
def LayoutDecodesUptoCardSaid : Prop := Claim7.holds Tryd.pinned (.plain (OpenSpec.upto layoutDecodesSpec)) layoutDecodesUptoCard

/-- THE SECOND FORM's CARD OF 'deduplaw04.LayoutChooses'. -/
def layoutChoosesUptoCard : Claim7 := { stood := { row := layoutChoosesUptoRow, standIns := [], harness := (true, "c76f5a232876b8521c691d40de204f5a0a134a55b2e612c92272382f60e3fe78"), looks := false }, kinds := [], alts := [], laidByText := true, laidKinds := [.data], laidTests := true, laidLooks := .later }
def LayoutChoosesUptoCardSaid : Prop := Claim7.holds Tryd.pinned (.plain (OpenSpec.upto layoutChoosesSpec)) layoutChoosesUptoCard

/-- THE SECOND FORM's CARD OF 'deduplaw04.LayoutOneOrOther'. -/
def layoutOneOrOtherUptoCard : Claim7 := { stood := { row := layoutOneOrOtherUptoRow, standIns := [], harness := (true, "c76f5a232876b8521c691d40de204f5a0a134a55b2e612c92272382f60e3fe78"), looks := false }, kinds := [], alts := [], laidByText := true, laidKinds := [.data], laidTests := true, laidLooks := .later }
def LayoutOneOrOtherUptoCardSaid : Prop := Claim7.holds Tryd.pinned (.plain (OpenSpec.upto layoutOneOrOtherSpec)) layoutOneOrOtherUptoCard

/-- THE SECOND FORM's CARD OF 'deduplaw04.LayoutNames'. -/
def layoutNamesUptoCard : Claim7 := { stood := { row := layoutNamesUptoRow, standIns := [], harness := (true, "c76f5a232876b8521c691d40de204f5a0a134a55b2e612c92272382f60e3fe78"), looks := false }, kinds := [], alts := [], laidByText := true, laidKinds := [.data], laidTests := true, laidLooks := .later }
def LayoutNamesUptoCardSaid : Prop := Claim7.holds Tryd.pinned (.plain (OpenSpec.upto layoutNamesSpec)) layoutNamesUptoCard

/-- THE SECOND FORM's CARD OF 'deduplaw02.CodecWrites'. -/
def codecWritesUptoCard : Claim7 := { stood := { row := codecWritesUptoRow, standIns := [], harness := (true, "c76f5a232876b8521c691d40de204f5a0a134a55b2e612c92272382f60e3fe78"), looks := false }, kinds := [], alts := [], laidByText := true, laidKinds := [.data], laidTests := true, laidLooks := .later }
def CodecWritesUptoCardSaid : Prop := Claim7.holds Tryd.pinned (.plain (OpenSpec.upto codecWritesSpec)) codecWritesUptoCard

/-- THE SECOND FORM's CARD OF 'deduplaw02.CodecReads'. -/
def codecReadsUptoCard : Claim7 := { stood := { row := codecReadsUptoRow, standIns := [], harness := (true, "c76f5a232876b8521c691d40de204f5a0a134a55b2e612c92272382f60e3fe78"), looks := false }, kinds := [], alts := [], laidByText := true, laidKinds := [.data], laidTests := true, laidLooks := .later }
def CodecReadsUptoCardSaid : Prop := Claim7.holds Tryd.pinned (.plain (OpenSpec.upto codecReadsSpec)) codecReadsUptoCard

/-- THE SECOND FORM's CARD OF 'deduplaw02.CodecBack'. -/
def codecBackUptoCard : Claim7 := { stood := { row := codecBackUptoRow, standIns := [], harness := (true, "c76f5a232876b8521c691d40de204f5a0a134a55b2e612c92272382f60e3fe78"), looks := false }, kinds := [], alts := [], laidByText := true, laidKinds := [.data], laidTests := true, laidLooks := .later }
def CodecBackUptoCardSaid : Prop := Claim7.holds Tryd.pinned (.plain (OpenSpec.upto codecBackSpec)) codecBackUptoCard

/-- THE SECOND FORM's CARD OF 'deduplaw02.CodecTurned'. -/
def codecTurnedUptoCard : Claim7 := { stood := { row := codecTurnedUptoRow, standIns := [], harness := (true, "c76f5a232876b8521c691d40de204f5a0a134a55b2e612c92272382f60e3fe78"), looks := false }, kinds := [], alts := [], laidByText := true, laidKinds := [.data], laidTests := true, laidLooks := .later }
def CodecTurnedUptoCardSaid : Prop := Claim7.holds Tryd.pinned (.plain (OpenSpec.upto codecTurnedSpec)) codecTurnedUptoCard
end Rows
end Go.Proofs.YtlilgfcacoooaaaDoor
