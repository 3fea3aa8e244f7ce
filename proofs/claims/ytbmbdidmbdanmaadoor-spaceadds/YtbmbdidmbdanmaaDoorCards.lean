/-
  DERIVED. GIVEN WITH THE SEED: THE CARDS: each row of YtbmbdidmbdanmaaDoorRows.lean that lists a variable, with what it lists TIED to the program's text (the seventh form; the later family's looks); each row that meets fmt, with fmt's text TOLD by the authors' own Lean function (tested against real Go, not proved from fmt's source: count such statements apart). THE CARD IS WHAT COUNTS. Prove the row's statement (the work); the ties are given (YtbmbdidmbdanmaaDoorTie.lean); close each card by the builder's one call (the guide's Derived/Test/ToyasCard.lean, 'card_holds'). Laid BY PROGRAM, IN A SANDBOX (cutbox-door.mjs). By AI agents, Wed Nov 11 2026. No macro, syntax, notation, axiom, sorry.
-/
import Derived.Test.YtbmbdidmbdanmaaDoorRows
import GoSem.ClaimSeven
namespace Go.Proofs.YtbmbdidmbdanmaaDoor
namespace Rows

/-- THE TIED CARD OF 'deduplaw06.SpaceDoes'. -/
def spaceDoesCard : Claim7 := { stood := { row := spaceDoesRow, standIns := [], harness := (true, "99deb0e30045c337862f5ccca5148c002ff979bba99be7dc4af840e0ae63fc8a"), looks := false }, kinds := [], alts := [], laidByText := true, laidKinds := [.data], laidTests := true, laidLooks := .later }
def SpaceDoesCardSaid : Prop := Claim7.holds Tryd.pinned (.plain (OpenSpec.ofChange spaceDoesSpec)) spaceDoesCard

/-- THE TIED CARD OF 'deduplaw06.SpaceLooks'. -/
def spaceLooksCard : Claim7 := { stood := { row := spaceLooksRow, standIns := [], harness := (true, "99deb0e30045c337862f5ccca5148c002ff979bba99be7dc4af840e0ae63fc8a"), looks := false }, kinds := [], alts := [], laidByText := true, laidKinds := [.data], laidTests := true, laidLooks := .later }
def SpaceLooksCardSaid : Prop := Claim7.holds Tryd.pinned (.plain (OpenSpec.ofChange spaceLooksSpec)) spaceLooksCard

/-- THE TIED CARD OF 'deduplaw06.SpaceForks'. -/
def spaceForksCard : Claim7 := { stood := { row := spaceForksRow, standIns := [], harness := (true, "99deb0e30045c337862f5ccca5148c002ff979bba99be7dc4af840e0ae63fc8a"), looks := false }, kinds := [], alts := [], laidByText := true, laidKinds := [.data], laidTests := true, laidLooks := .later }
def SpaceForksCardSaid : Prop := Claim7.holds Tryd.pinned (.plain (OpenSpec.ofChange spaceForksSpec)) spaceForksCard

/-- THE TIED CARD OF 'deduplaw06.SpaceApart'. -/
def spaceApartCard : Claim7 := { stood := { row := spaceApartRow, standIns := [], harness := (true, "99deb0e30045c337862f5ccca5148c002ff979bba99be7dc4af840e0ae63fc8a"), looks := false }, kinds := [], alts := [], laidByText := true, laidKinds := [.data], laidTests := true, laidLooks := .later }
def SpaceApartCardSaid : Prop := Claim7.holds Tryd.pinned (.plain (OpenSpec.ofChange spaceApartSpec)) spaceApartCard

/-- THE TIED CARD OF 'deduplaw06.SpaceAdds'. -/
def spaceAddsCard : Claim7 := { stood := { row := spaceAddsRow, standIns := [], harness := (true, "99deb0e30045c337862f5ccca5148c002ff979bba99be7dc4af840e0ae63fc8a"), looks := false }, kinds := [], alts := [], laidByText := true, laidKinds := [.data], laidTests := true, laidLooks := .later }
def SpaceAddsCardSaid : Prop := Claim7.holds Tryd.pinned (.plain (OpenSpec.ofChange spaceAddsSpec)) spaceAddsCard

/-- THE TIED CARD OF 'deduplaw06.SpaceReserves'. -/
def spaceReservesCard : Claim7 := { stood := { row := spaceReservesRow, standIns := [], harness := (true, "99deb0e30045c337862f5ccca5148c002ff979bba99be7dc4af840e0ae63fc8a"), looks := false }, kinds := [], alts := [], laidByText := true, laidKinds := [.data], laidTests := true, laidLooks := .later }
def SpaceReservesCardSaid : Prop := Claim7.holds Tryd.pinned (.plain (OpenSpec.ofChange spaceReservesSpec)) spaceReservesCard

/-- THE TIED CARD OF 'deduplaw06.SpaceNobody'. -/
def spaceNobodyCard : Claim7 := { stood := { row := spaceNobodyRow, standIns := [], harness := (true, "99deb0e30045c337862f5ccca5148c002ff979bba99be7dc4af840e0ae63fc8a"), looks := false }, kinds := [], alts := [], laidByText := true, laidKinds := [.data], laidTests := true, laidLooks := .later }
def SpaceNobodyCardSaid : Prop := Claim7.holds Tryd.pinned (.plain (OpenSpec.ofChange spaceNobodySpec)) spaceNobodyCard

/-- THE SECOND FORM's CARD OF 'deduplaw06.SpaceDoes'. -/
def spaceDoesUptoCard : Claim7 := { stood := { row := spaceDoesUptoRow, standIns := [], harness := (true, "99deb0e30045c337862f5ccca5148c002ff979bba99be7dc4af840e0ae63fc8a"), looks := false }, kinds := [], alts := [], laidByText := true, laidKinds := [.data], laidTests := true, laidLooks := .later }
def SpaceDoesUptoCardSaid : Prop := Claim7.holds Tryd.pinned (.plain (OpenSpec.upto spaceDoesSpec)) spaceDoesUptoCard

/-- THE SECOND FORM's CARD OF 'deduplaw06.SpaceLooks'. -/
def spaceLooksUptoCard : Claim7 := { stood := { row := spaceLooksUptoRow, standIns := [], harness := (true, "99deb0e30045c337862f5ccca5148c002ff979bba99be7dc4af840e0ae63fc8a"), looks := false }, kinds := [], alts := [], laidByText := true, laidKinds := [.data], laidTests := true, laidLooks := .later }
def SpaceLooksUptoCardSaid : Prop := Claim7.holds Tryd.pinned (.plain (OpenSpec.upto spaceLooksSpec)) spaceLooksUptoCard

/-- THE SECOND FORM's CARD OF 'deduplaw06.SpaceForks'. -/
def spaceForksUptoCard : Claim7 := { stood := { row := spaceForksUptoRow, standIns := [], harness := (true, "99deb0e30045c337862f5ccca5148c002ff979bba99be7dc4af840e0ae63fc8a"), looks := false }, kinds := [], alts := [], laidByText := true, laidKinds := [.data], laidTests := true, laidLooks := .later }
def SpaceForksUptoCardSaid : Prop := Claim7.holds Tryd.pinned (.plain (OpenSpec.upto spaceForksSpec)) spaceForksUptoCard

/-- THE SECOND FORM's CARD OF 'deduplaw06.SpaceApart'. -/
def spaceApartUptoCard : Claim7 := { stood := { row := spaceApartUptoRow, standIns := [], harness := (true, "99deb0e30045c337862f5ccca5148c002ff979bba99be7dc4af840e0ae63fc8a"), looks := false }, kinds := [], alts := [], laidByText := true, laidKinds := [.data], laidTests := true, laidLooks := .later }
def SpaceApartUptoCardSaid : Prop := Claim7.holds Tryd.pinned (.plain (OpenSpec.upto spaceApartSpec)) spaceApartUptoCard

/-- THE SECOND FORM's CARD OF 'deduplaw06.SpaceAdds'. -/
def spaceAddsUptoCard : Claim7 := { stood := { row := spaceAddsUptoRow, standIns := [], harness := (true, "99deb0e30045c337862f5ccca5148c002ff979bba99be7dc4af840e0ae63fc8a"), looks := false }, kinds := [], alts := [], laidByText := true, laidKinds := [.data], laidTests := true, laidLooks := .later }
def SpaceAddsUptoCardSaid : Prop := Claim7.holds Tryd.pinned (.plain (OpenSpec.upto spaceAddsSpec)) spaceAddsUptoCard

/-- THE SECOND FORM's CARD OF 'deduplaw06.SpaceReserves'. -/
def spaceReservesUptoCard : Claim7 := { stood := { row := spaceReservesUptoRow, standIns := [], harness := (true, "99deb0e30045c337862f5ccca5148c002ff979bba99be7dc4af840e0ae63fc8a"), looks := false }, kinds := [], alts := [], laidByText := true, laidKinds := [.data], laidTests := true, laidLooks := .later }
def SpaceReservesUptoCardSaid : Prop := Claim7.holds Tryd.pinned (.plain (OpenSpec.upto spaceReservesSpec)) spaceReservesUptoCard

/-- THE SECOND FORM's CARD OF 'deduplaw06.SpaceNobody'. -/
def spaceNobodyUptoCard : Claim7 := { stood := { row := spaceNobodyUptoRow, standIns := [], harness := (true, "99deb0e30045c337862f5ccca5148c002ff979bba99be7dc4af840e0ae63fc8a"), looks := false }, kinds := [], alts := [], laidByText := true, laidKinds := [.data], laidTests := true, laidLooks := .later }
def SpaceNobodyUptoCardSaid : Prop := Claim7.holds Tryd.pinned (.plain (OpenSpec.upto spaceNobodySpec)) spaceNobodyUptoCard
end Rows
end Go.Proofs.YtbmbdidmbdanmaaDoor
