/-
  DERIVED. GIVEN WITH THE SEED: THE CARDS: each row of YtpjgghalnkfdkaaDoorRows.lean that lists a variable, with what it lists TIED to the program's text (the seventh form; the later family's looks); each row that meets fmt, with fmt's text TOLD by the authors' own Lean function (tested against real Go, not proved from fmt's source: count such statements apart). THE CARD IS WHAT COUNTS. Prove the row's statement (the work); the ties are given (YtpjgghalnkfdkaaDoorTie.lean); close each card by the builder's one call (the guide's Derived/Test/ToyasCard.lean, 'card_holds'). Laid BY PROGRAM, IN A SANDBOX (cutbox-door.mjs). By AI agents, Wed Nov 11 2026. No macro, syntax, notation, axiom, sorry.
-/
import Derived.Test.YtpjgghalnkfdkaaDoorRows
import GoSem.ClaimSeven
namespace Go.Proofs.YtpjgghalnkfdkaaDoor
namespace Rows

/-- THE TIED CARD OF 'deduplaw09.NodeEncodes'. -/
def nodeEncodesCard : Claim7 := { stood := { row := nodeEncodesRow, standIns := [], harness := (true, "37704853a00e3046437a86b835264d22924774ed1aae20367f38a7d364acd300"), looks := false }, kinds := [], alts := [], laidByText := true, laidKinds := [.data], laidTests := true, laidLooks := .later }
def NodeEncodesCardSaid : Prop := Claim7.holds Tryd.pinned (.plain (OpenSpec.ofChange nodeEncodesSpec)) nodeEncodesCard

/-- THE TIED CARD OF 'deduplaw09.NodeDecodes'. -/
def nodeDecodesCard : Claim7 := { stood := { row := nodeDecodesRow, standIns := [], harness := (true, "37704853a00e3046437a86b835264d22924774ed1aae20367f38a7d364acd300"), looks := false }, kinds := [], alts := [], laidByText := true, laidKinds := [.data], laidTests := true, laidLooks := .later }
def NodeDecodesCardSaid : Prop := Claim7.holds Tryd.pinned (.plain (OpenSpec.ofChange nodeDecodesSpec)) nodeDecodesCard

/-- THE TIED CARD OF 'deduplaw09.NodePuts'. -/
def nodePutsCard : Claim7 := { stood := { row := nodePutsRow, standIns := [], harness := (true, "37704853a00e3046437a86b835264d22924774ed1aae20367f38a7d364acd300"), looks := false }, kinds := [], alts := [], laidByText := true, laidKinds := [.data], laidTests := true, laidLooks := .later }
def NodePutsCardSaid : Prop := Claim7.holds Tryd.pinned (.plain (OpenSpec.ofChange nodePutsSpec)) nodePutsCard

/-- THE TIED CARD OF 'deduplaw09.NodeSplits'. -/
def nodeSplitsCard : Claim7 := { stood := { row := nodeSplitsRow, standIns := [], harness := (true, "37704853a00e3046437a86b835264d22924774ed1aae20367f38a7d364acd300"), looks := false }, kinds := [], alts := [], laidByText := true, laidKinds := [.data], laidTests := true, laidLooks := .later }
def NodeSplitsCardSaid : Prop := Claim7.holds Tryd.pinned (.plain (OpenSpec.ofChange nodeSplitsSpec)) nodeSplitsCard

/-- THE TIED CARD OF 'deduplaw09.NodeMaps'. -/
def nodeMapsCard : Claim7 := { stood := { row := nodeMapsRow, standIns := [], harness := (true, "37704853a00e3046437a86b835264d22924774ed1aae20367f38a7d364acd300"), looks := false }, kinds := [], alts := [], laidByText := true, laidKinds := [.data], laidTests := true, laidLooks := .later }
def NodeMapsCardSaid : Prop := Claim7.holds Tryd.pinned (.plain (OpenSpec.ofChange nodeMapsSpec)) nodeMapsCard

/-- THE SECOND FORM's CARD OF 'deduplaw09.NodeEncodes'. -/
def nodeEncodesUptoCard : Claim7 := { stood := { row := nodeEncodesUptoRow, standIns := [], harness := (true, "37704853a00e3046437a86b835264d22924774ed1aae20367f38a7d364acd300"), looks := false }, kinds := [], alts := [], laidByText := true, laidKinds := [.data], laidTests := true, laidLooks := .later }
def NodeEncodesUptoCardSaid : Prop := Claim7.holds Tryd.pinned (.plain (OpenSpec.upto nodeEncodesSpec)) nodeEncodesUptoCard

/-- THE SECOND FORM's CARD OF 'deduplaw09.NodeDecodes'. -/
def nodeDecodesUptoCard : Claim7 := { stood := { row := nodeDecodesUptoRow, standIns := [], harness := (true, "37704853a00e3046437a86b835264d22924774ed1aae20367f38a7d364acd300"), looks := false }, kinds := [], alts := [], laidByText := true, laidKinds := [.data], laidTests := true, laidLooks := .later }
def NodeDecodesUptoCardSaid : Prop := Claim7.holds Tryd.pinned (.plain (OpenSpec.upto nodeDecodesSpec)) nodeDecodesUptoCard

/-- THE SECOND FORM's CARD OF 'deduplaw09.NodePuts'. -/
def nodePutsUptoCard : Claim7 := { stood := { row := nodePutsUptoRow, standIns := [], harness := (true, "37704853a00e3046437a86b835264d22924774ed1aae20367f38a7d364acd300"), looks := false }, kinds := [], alts := [], laidByText := true, laidKinds := [.data], laidTests := true, laidLooks := .later }
def NodePutsUptoCardSaid : Prop := Claim7.holds Tryd.pinned (.plain (OpenSpec.upto nodePutsSpec)) nodePutsUptoCard

/-- THE SECOND FORM's CARD OF 'deduplaw09.NodeSplits'. -/
def nodeSplitsUptoCard : Claim7 := { stood := { row := nodeSplitsUptoRow, standIns := [], harness := (true, "37704853a00e3046437a86b835264d22924774ed1aae20367f38a7d364acd300"), looks := false }, kinds := [], alts := [], laidByText := true, laidKinds := [.data], laidTests := true, laidLooks := .later }
def NodeSplitsUptoCardSaid : Prop := Claim7.holds Tryd.pinned (.plain (OpenSpec.upto nodeSplitsSpec)) nodeSplitsUptoCard

/-- THE SECOND FORM's CARD OF 'deduplaw09.NodeMaps'. -/
def nodeMapsUptoCard : Claim7 := { stood := { row := nodeMapsUptoRow, standIns := [], harness := (true, "37704853a00e3046437a86b835264d22924774ed1aae20367f38a7d364acd300"), looks := false }, kinds := [], alts := [], laidByText := true, laidKinds := [.data], laidTests := true, laidLooks := .later }
def NodeMapsUptoCardSaid : Prop := Claim7.holds Tryd.pinned (.plain (OpenSpec.upto nodeMapsSpec)) nodeMapsUptoCard
end Rows
end Go.Proofs.YtpjgghalnkfdkaaDoor
