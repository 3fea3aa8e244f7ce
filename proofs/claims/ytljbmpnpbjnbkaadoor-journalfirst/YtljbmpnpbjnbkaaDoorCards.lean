/-
  DERIVED. GIVEN WITH THE SEED: THE CARDS: each row of YtljbmpnpbjnbkaaDoorRows.lean that lists a variable, with what it lists TIED to the program's text (the seventh form; the later family's looks); each row that meets fmt, with fmt's text TOLD by the authors' own Lean function (tested against real Go, not proved from fmt's source: count such statements apart). THE CARD IS WHAT COUNTS. Prove the row's statement (the work); the ties are given (YtljbmpnpbjnbkaaDoorTie.lean); close each card by the builder's one call (the guide's Derived/Test/ToyasCard.lean, 'card_holds'). Laid BY PROGRAM, IN A SANDBOX (cutbox-door.mjs). By AI agents, Wed Nov 11 2026. No macro, syntax, notation, axiom, sorry.
-/
import Derived.Test.YtljbmpnpbjnbkaaDoorRows
import GoSem.ClaimSeven
namespace Go.Proofs.YtljbmpnpbjnbkaaDoor
namespace Rows

/-- THE TIED CARD OF 'deduplaw07.JournalWrites'. -/
def journalWritesCard : Claim7 := { stood := { row := journalWritesRow, standIns := [], harness := (true, "ba97f4f84123e5d84444a8f5c0f08ab80c1d1b7c2ddd34ab961d5cff0905f383"), looks := false }, kinds := [], alts := [], laidByText := true, laidKinds := [.data], laidTests := true, laidLooks := .later }
def JournalWritesCardSaid : Prop := Claim7.holds Tryd.pinned (.plain (OpenSpec.ofChange journalWritesSpec)) journalWritesCard

/-- THE TIED CARD OF 'deduplaw07.JournalScans'. -/
def journalScansCard : Claim7 := { stood := { row := journalScansRow, standIns := [], harness := (true, "ba97f4f84123e5d84444a8f5c0f08ab80c1d1b7c2ddd34ab961d5cff0905f383"), looks := false }, kinds := [], alts := [], laidByText := true, laidKinds := [.data], laidTests := true, laidLooks := .later }
def JournalScansCardSaid : Prop := Claim7.holds Tryd.pinned (.plain (OpenSpec.ofChange journalScansSpec)) journalScansCard

/-- THE TIED CARD OF 'deduplaw07.JournalFirst'. -/
def journalFirstCard : Claim7 := { stood := { row := journalFirstRow, standIns := [], harness := (true, "ba97f4f84123e5d84444a8f5c0f08ab80c1d1b7c2ddd34ab961d5cff0905f383"), looks := false }, kinds := [], alts := [], laidByText := true, laidKinds := [.data], laidTests := true, laidLooks := .later }
def JournalFirstCardSaid : Prop := Claim7.holds Tryd.pinned (.plain (OpenSpec.ofChange journalFirstSpec)) journalFirstCard

/-- THE TIED CARD OF 'deduplaw07.JournalNobody'. -/
def journalNobodyCard : Claim7 := { stood := { row := journalNobodyRow, standIns := [], harness := (true, "ba97f4f84123e5d84444a8f5c0f08ab80c1d1b7c2ddd34ab961d5cff0905f383"), looks := false }, kinds := [], alts := [], laidByText := true, laidKinds := [.data], laidTests := true, laidLooks := .later }
def JournalNobodyCardSaid : Prop := Claim7.holds Tryd.pinned (.plain (OpenSpec.ofChange journalNobodySpec)) journalNobodyCard

/-- THE TIED CARD OF 'deduplaw07.JournalForks'. -/
def journalForksCard : Claim7 := { stood := { row := journalForksRow, standIns := [], harness := (true, "ba97f4f84123e5d84444a8f5c0f08ab80c1d1b7c2ddd34ab961d5cff0905f383"), looks := false }, kinds := [], alts := [], laidByText := true, laidKinds := [.data], laidTests := true, laidLooks := .later }
def JournalForksCardSaid : Prop := Claim7.holds Tryd.pinned (.plain (OpenSpec.ofChange journalForksSpec)) journalForksCard

/-- THE SECOND FORM's CARD OF 'deduplaw07.JournalWrites'. -/
def journalWritesUptoCard : Claim7 := { stood := { row := journalWritesUptoRow, standIns := [], harness := (true, "ba97f4f84123e5d84444a8f5c0f08ab80c1d1b7c2ddd34ab961d5cff0905f383"), looks := false }, kinds := [], alts := [], laidByText := true, laidKinds := [.data], laidTests := true, laidLooks := .later }
def JournalWritesUptoCardSaid : Prop := Claim7.holds Tryd.pinned (.plain (OpenSpec.upto journalWritesSpec)) journalWritesUptoCard

/-- THE SECOND FORM's CARD OF 'deduplaw07.JournalScans'. -/
def journalScansUptoCard : Claim7 := { stood := { row := journalScansUptoRow, standIns := [], harness := (true, "ba97f4f84123e5d84444a8f5c0f08ab80c1d1b7c2ddd34ab961d5cff0905f383"), looks := false }, kinds := [], alts := [], laidByText := true, laidKinds := [.data], laidTests := true, laidLooks := .later }
def JournalScansUptoCardSaid : Prop := Claim7.holds Tryd.pinned (.plain (OpenSpec.upto journalScansSpec)) journalScansUptoCard

/-- THE SECOND FORM's CARD OF 'deduplaw07.JournalFirst'. -/
def journalFirstUptoCard : Claim7 := { stood := { row := journalFirstUptoRow, standIns := [], harness := (true, "ba97f4f84123e5d84444a8f5c0f08ab80c1d1b7c2ddd34ab961d5cff0905f383"), looks := false }, kinds := [], alts := [], laidByText := true, laidKinds := [.data], laidTests := true, laidLooks := .later }
def JournalFirstUptoCardSaid : Prop := Claim7.holds Tryd.pinned (.plain (OpenSpec.upto journalFirstSpec)) journalFirstUptoCard

/-- THE SECOND FORM's CARD OF 'deduplaw07.JournalNobody'. -/
def journalNobodyUptoCard : Claim7 := { stood := { row := journalNobodyUptoRow, standIns := [], harness := (true, "ba97f4f84123e5d84444a8f5c0f08ab80c1d1b7c2ddd34ab961d5cff0905f383"), looks := false }, kinds := [], alts := [], laidByText := true, laidKinds := [.data], laidTests := true, laidLooks := .later }
def JournalNobodyUptoCardSaid : Prop := Claim7.holds Tryd.pinned (.plain (OpenSpec.upto journalNobodySpec)) journalNobodyUptoCard

/-- THE SECOND FORM's CARD OF 'deduplaw07.JournalForks'. -/
def journalForksUptoCard : Claim7 := { stood := { row := journalForksUptoRow, standIns := [], harness := (true, "ba97f4f84123e5d84444a8f5c0f08ab80c1d1b7c2ddd34ab961d5cff0905f383"), looks := false }, kinds := [], alts := [], laidByText := true, laidKinds := [.data], laidTests := true, laidLooks := .later }
def JournalForksUptoCardSaid : Prop := Claim7.holds Tryd.pinned (.plain (OpenSpec.upto journalForksSpec)) journalForksUptoCard
end Rows
end Go.Proofs.YtljbmpnpbjnbkaaDoor
