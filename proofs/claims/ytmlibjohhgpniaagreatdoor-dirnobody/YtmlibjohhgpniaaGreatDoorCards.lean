/-
  DERIVED. GIVEN WITH THE SEED: THE CARDS: each row of YtmlibjohhgpniaaGreatDoorRows.lean that lists a variable, with what it lists TIED to the program's text (the seventh form; the later family's looks); each row that meets fmt, with fmt's text TOLD by the authors' own Lean function (tested against real Go, not proved from fmt's source: count such statements apart). THE CARD IS WHAT COUNTS. Prove the row's statement (the work); the ties are given (YtmlibjohhgpniaaGreatDoorTie.lean); close each card by the builder's one call (the guide's Derived/Test/ToyasCard.lean, 'card_holds'). Laid BY PROGRAM, IN A SANDBOX (cutbox-door.mjs). By AI agents, Wed Nov 11 2026. No macro, syntax, notation, axiom, sorry.
-/
import Derived.Test.YtmlibjohhgpniaaGreatDoorRows
import GoSem.ClaimSeven
namespace Go.Proofs.YtmlibjohhgpniaaGreatDoor
namespace Rows

/-- THE TIED CARD OF 'deduplaw11.TreeNobody'. -/
def treeNobodyCard : Claim7 := { stood := { row := treeNobodyRow, standIns := [], harness := (true, "79ebdcba7a49c9ec7e93da13bfcae399f4b28f8eb1bd21b6d542112870195848"), looks := false }, kinds := [], alts := [], laidByText := true, laidKinds := [.data], laidTests := true, laidLooks := .later }
def TreeNobodyCardSaid : Prop := Claim7.holds Tryz.pinned (.plain (OpenSpec.ofChange treeNobodySpec)) treeNobodyCard

/-- THE TIED CARD OF 'deduplaw16.ExtentNobody'. -/
def extentNobodyCard : Claim7 := { stood := { row := extentNobodyRow, standIns := [], harness := (true, "79ebdcba7a49c9ec7e93da13bfcae399f4b28f8eb1bd21b6d542112870195848"), looks := false }, kinds := [], alts := [], laidByText := true, laidKinds := [.data], laidTests := true, laidLooks := .later }
def ExtentNobodyCardSaid : Prop := Claim7.holds Tryz.pinned (.plain (OpenSpec.ofChange extentNobodySpec)) extentNobodyCard

/-- THE TIED CARD OF 'deduplaw18.InodeNobody'. -/
def inodeNobodyCard : Claim7 := { stood := { row := inodeNobodyRow, standIns := [], harness := (true, "79ebdcba7a49c9ec7e93da13bfcae399f4b28f8eb1bd21b6d542112870195848"), looks := false }, kinds := [], alts := [], laidByText := true, laidKinds := [.data], laidTests := true, laidLooks := .later }
def InodeNobodyCardSaid : Prop := Claim7.holds Tryz.pinned (.plain (OpenSpec.ofChange inodeNobodySpec)) inodeNobodyCard

/-- THE TIED CARD OF 'deduplaw19.DirNobody'. -/
def dirNobodyCard : Claim7 := { stood := { row := dirNobodyRow, standIns := [], harness := (true, "79ebdcba7a49c9ec7e93da13bfcae399f4b28f8eb1bd21b6d542112870195848"), looks := false }, kinds := [], alts := [], laidByText := true, laidKinds := [.data], laidTests := true, laidLooks := .later }
def DirNobodyCardSaid : Prop := Claim7.holds Tryz.pinned (.plain (OpenSpec.ofChange dirNobodySpec)) dirNobodyCard

/-- THE SECOND FORM's CARD OF 'deduplaw11.TreeNobody'. -/
def treeNobodyUptoCard : Claim7 := { stood := { row := treeNobodyUptoRow, standIns := [], harness := (true, "79ebdcba7a49c9ec7e93da13bfcae399f4b28f8eb1bd21b6d542112870195848"), looks := false }, kinds := [], alts := [], laidByText := true, laidKinds := [.data], laidTests := true, laidLooks := .later }
def TreeNobodyUptoCardSaid : Prop := Claim7.holds Tryz.pinned (.plain (OpenSpec.upto treeNobodySpec)) treeNobodyUptoCard

/-- THE SECOND FORM's CARD OF 'deduplaw16.ExtentNobody'. -/
def extentNobodyUptoCard : Claim7 := { stood := { row := extentNobodyUptoRow, standIns := [], harness := (true, "79ebdcba7a49c9ec7e93da13bfcae399f4b28f8eb1bd21b6d542112870195848"), looks := false }, kinds := [], alts := [], laidByText := true, laidKinds := [.data], laidTests := true, laidLooks := .later }
def ExtentNobodyUptoCardSaid : Prop := Claim7.holds Tryz.pinned (.plain (OpenSpec.upto extentNobodySpec)) extentNobodyUptoCard

/-- THE SECOND FORM's CARD OF 'deduplaw18.InodeNobody'. -/
def inodeNobodyUptoCard : Claim7 := { stood := { row := inodeNobodyUptoRow, standIns := [], harness := (true, "79ebdcba7a49c9ec7e93da13bfcae399f4b28f8eb1bd21b6d542112870195848"), looks := false }, kinds := [], alts := [], laidByText := true, laidKinds := [.data], laidTests := true, laidLooks := .later }
def InodeNobodyUptoCardSaid : Prop := Claim7.holds Tryz.pinned (.plain (OpenSpec.upto inodeNobodySpec)) inodeNobodyUptoCard

/-- THE SECOND FORM's CARD OF 'deduplaw19.DirNobody'. -/
def dirNobodyUptoCard : Claim7 := { stood := { row := dirNobodyUptoRow, standIns := [], harness := (true, "79ebdcba7a49c9ec7e93da13bfcae399f4b28f8eb1bd21b6d542112870195848"), looks := false }, kinds := [], alts := [], laidByText := true, laidKinds := [.data], laidTests := true, laidLooks := .later }
def DirNobodyUptoCardSaid : Prop := Claim7.holds Tryz.pinned (.plain (OpenSpec.upto dirNobodySpec)) dirNobodyUptoCard
end Rows
end Go.Proofs.YtmlibjohhgpniaaGreatDoor
