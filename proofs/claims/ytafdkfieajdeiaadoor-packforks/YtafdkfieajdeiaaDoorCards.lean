/-
  DERIVED. GIVEN WITH THE SEED: THE CARDS: each row of YtafdkfieajdeiaaDoorRows.lean that lists a variable, with what it lists TIED to the program's text (the seventh form; the later family's looks); each row that meets fmt, with fmt's text TOLD by the authors' own Lean function (tested against real Go, not proved from fmt's source: count such statements apart). THE CARD IS WHAT COUNTS. Prove the row's statement (the work); the ties are given (YtafdkfieajdeiaaDoorTie.lean); close each card by the builder's one call (the guide's Derived/Test/ToyasCard.lean, 'card_holds'). Laid BY PROGRAM, IN A SANDBOX (cutbox-door.mjs). By AI agents, Wed Nov 11 2026. No macro, syntax, notation, axiom, sorry.
-/
import Derived.Test.YtafdkfieajdeiaaDoorRows
import GoSem.ClaimSeven
namespace Go.Proofs.YtafdkfieajdeiaaDoor
namespace Rows

/-- THE TIED CARD OF 'deduplaw13.PackPlays'. -/
def packPlaysCard : Claim7 := { stood := { row := packPlaysRow, standIns := [], harness := (true, "c6649a144bd741c13750413f6e69192d429c19d63cb8310af698030c34c2229f"), looks := false }, kinds := [], alts := [], laidByText := true, laidKinds := [.data], laidTests := true, laidLooks := .later }
def PackPlaysCardSaid : Prop := Claim7.holds Tryd.pinned (.plain (OpenSpec.ofChange packPlaysSpec)) packPlaysCard

/-- THE TIED CARD OF 'deduplaw13.PackScans'. -/
def packScansCard : Claim7 := { stood := { row := packScansRow, standIns := [], harness := (true, "c6649a144bd741c13750413f6e69192d429c19d63cb8310af698030c34c2229f"), looks := false }, kinds := [], alts := [], laidByText := true, laidKinds := [.data], laidTests := true, laidLooks := .later }
def PackScansCardSaid : Prop := Claim7.holds Tryd.pinned (.plain (OpenSpec.ofChange packScansSpec)) packScansCard

/-- THE TIED CARD OF 'deduplaw13.PackChunks'. -/
def packChunksCard : Claim7 := { stood := { row := packChunksRow, standIns := [], harness := (true, "c6649a144bd741c13750413f6e69192d429c19d63cb8310af698030c34c2229f"), looks := false }, kinds := [], alts := [], laidByText := true, laidKinds := [.data], laidTests := true, laidLooks := .later }
def PackChunksCardSaid : Prop := Claim7.holds Tryd.pinned (.plain (OpenSpec.ofChange packChunksSpec)) packChunksCard

/-- THE TIED CARD OF 'deduplaw13.PackBack'. -/
def packBackCard : Claim7 := { stood := { row := packBackRow, standIns := [], harness := (true, "c6649a144bd741c13750413f6e69192d429c19d63cb8310af698030c34c2229f"), looks := false }, kinds := [], alts := [], laidByText := true, laidKinds := [.data], laidTests := true, laidLooks := .later }
def PackBackCardSaid : Prop := Claim7.holds Tryd.pinned (.plain (OpenSpec.ofChange packBackSpec)) packBackCard

/-- THE TIED CARD OF 'deduplaw13.PackNobody'. -/
def packNobodyCard : Claim7 := { stood := { row := packNobodyRow, standIns := [], harness := (true, "c6649a144bd741c13750413f6e69192d429c19d63cb8310af698030c34c2229f"), looks := false }, kinds := [], alts := [], laidByText := true, laidKinds := [.data], laidTests := true, laidLooks := .later }
def PackNobodyCardSaid : Prop := Claim7.holds Tryd.pinned (.plain (OpenSpec.ofChange packNobodySpec)) packNobodyCard

/-- THE TIED CARD OF 'deduplaw13.PackForks'. -/
def packForksCard : Claim7 := { stood := { row := packForksRow, standIns := [], harness := (true, "c6649a144bd741c13750413f6e69192d429c19d63cb8310af698030c34c2229f"), looks := false }, kinds := [], alts := [], laidByText := true, laidKinds := [.data], laidTests := true, laidLooks := .later }
def PackForksCardSaid : Prop := Claim7.holds Tryd.pinned (.plain (OpenSpec.ofChange packForksSpec)) packForksCard

/-- THE SECOND FORM's CARD OF 'deduplaw13.PackPlays'. -/
def packPlaysUptoCard : Claim7 := { stood := { row := packPlaysUptoRow, standIns := [], harness := (true, "c6649a144bd741c13750413f6e69192d429c19d63cb8310af698030c34c2229f"), looks := false }, kinds := [], alts := [], laidByText := true, laidKinds := [.data], laidTests := true, laidLooks := .later }
def PackPlaysUptoCardSaid : Prop := Claim7.holds Tryd.pinned (.plain (OpenSpec.upto packPlaysSpec)) packPlaysUptoCard

/-- THE SECOND FORM's CARD OF 'deduplaw13.PackScans'. -/
def packScansUptoCard : Claim7 := { stood := { row := packScansUptoRow, standIns := [], harness := (true, "c6649a144bd741c13750413f6e69192d429c19d63cb8310af698030c34c2229f"), looks := false }, kinds := [], alts := [], laidByText := true, laidKinds := [.data], laidTests := true, laidLooks := .later }
def PackScansUptoCardSaid : Prop := Claim7.holds Tryd.pinned (.plain (OpenSpec.upto packScansSpec)) packScansUptoCard

/-- THE SECOND FORM's CARD OF 'deduplaw13.PackChunks'. -/
def packChunksUptoCard : Claim7 := { stood := { row := packChunksUptoRow, standIns := [], harness := (true, "c6649a144bd741c13750413f6e69192d429c19d63cb8310af698030c34c2229f"), looks := false }, kinds := [], alts := [], laidByText := true, laidKinds := [.data], laidTests := true, laidLooks := .later }
def PackChunksUptoCardSaid : Prop := Claim7.holds Tryd.pinned (.plain (OpenSpec.upto packChunksSpec)) packChunksUptoCard

/-- THE SECOND FORM's CARD OF 'deduplaw13.PackBack'. -/
def packBackUptoCard : Claim7 := { stood := { row := packBackUptoRow, standIns := [], harness := (true, "c6649a144bd741c13750413f6e69192d429c19d63cb8310af698030c34c2229f"), looks := false }, kinds := [], alts := [], laidByText := true, laidKinds := [.data], laidTests := true, laidLooks := .later }
def PackBackUptoCardSaid : Prop := Claim7.holds Tryd.pinned (.plain (OpenSpec.upto packBackSpec)) packBackUptoCard

/-- THE SECOND FORM's CARD OF 'deduplaw13.PackNobody'. -/
def packNobodyUptoCard : Claim7 := { stood := { row := packNobodyUptoRow, standIns := [], harness := (true, "c6649a144bd741c13750413f6e69192d429c19d63cb8310af698030c34c2229f"), looks := false }, kinds := [], alts := [], laidByText := true, laidKinds := [.data], laidTests := true, laidLooks := .later }
def PackNobodyUptoCardSaid : Prop := Claim7.holds Tryd.pinned (.plain (OpenSpec.upto packNobodySpec)) packNobodyUptoCard

/-- THE SECOND FORM's CARD OF 'deduplaw13.PackForks'. -/
def packForksUptoCard : Claim7 := { stood := { row := packForksUptoRow, standIns := [], harness := (true, "c6649a144bd741c13750413f6e69192d429c19d63cb8310af698030c34c2229f"), looks := false }, kinds := [], alts := [], laidByText := true, laidKinds := [.data], laidTests := true, laidLooks := .later }
def PackForksUptoCardSaid : Prop := Claim7.holds Tryd.pinned (.plain (OpenSpec.upto packForksSpec)) packForksUptoCard
end Rows
end Go.Proofs.YtafdkfieajdeiaaDoor
