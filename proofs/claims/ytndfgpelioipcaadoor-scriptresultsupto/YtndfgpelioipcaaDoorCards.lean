/-
  DERIVED. GIVEN WITH THE SEED: THE CARDS: each row of YtndfgpelioipcaaDoorRows.lean that lists a variable, with what it lists TIED to the program's text (the seventh form; the later family's looks); each row that meets fmt, with fmt's text TOLD by the authors' own Lean function (tested against real Go, not proved from fmt's source: count such statements apart). THE CARD IS WHAT COUNTS. Prove the row's statement (the work); the ties are given (YtndfgpelioipcaaDoorTie.lean); close each card by the builder's one call (the guide's Derived/Test/ToyasCard.lean, 'card_holds'). Laid BY PROGRAM, IN A SANDBOX (cutbox-door.mjs). By AI agents, Wed Nov 11 2026. No macro, syntax, notation, axiom, sorry.
-/
import Derived.Test.YtndfgpelioipcaaDoorRows
import GoSem.ClaimSeven
namespace Go.Proofs.YtndfgpelioipcaaDoor
namespace Rows

/-- THE TIED CARD OF 'deduplaw26.ScriptQuotes'. -/
def scriptQuotesCard : Claim7 := { stood := { row := scriptQuotesRow, standIns := [], harness := (true, "3e86b95dea997df95f7ce163ca2b2bbac262d8f2a4430ea89264cd80bdd1d27d"), looks := true }, kinds := [], alts := [], laidByText := true, laidKinds := [.data, .data, .data, .sentinel, .sentinel], laidTests := true, laidLooks := .later }
def ScriptQuotesCardSaid : Prop := Claim7.holds Tryd.pinned (.plain (OpenSpec.ofChange scriptQuotesSpec)) scriptQuotesCard

/-- THE TIED CARD OF 'deduplaw26.ScriptUnquotes'. -/
def scriptUnquotesCard : Claim7 := { stood := { row := scriptUnquotesRow, standIns := [], harness := (true, "3e86b95dea997df95f7ce163ca2b2bbac262d8f2a4430ea89264cd80bdd1d27d"), looks := true }, kinds := [], alts := [], laidByText := true, laidKinds := [.data, .data, .data, .sentinel, .sentinel], laidTests := true, laidLooks := .later }
def ScriptUnquotesCardSaid : Prop := Claim7.holds Tryd.pinned (.plain (OpenSpec.ofChange scriptUnquotesSpec)) scriptUnquotesCard

/-- THE TIED CARD OF 'deduplaw26.ScriptOps'. -/
def scriptOpsCard : Claim7 := { stood := { row := scriptOpsRow, standIns := [], harness := (true, "3e86b95dea997df95f7ce163ca2b2bbac262d8f2a4430ea89264cd80bdd1d27d"), looks := true }, kinds := [], alts := [], laidByText := true, laidKinds := [.data, .data, .data, .sentinel, .sentinel], laidTests := true, laidLooks := .later }
def ScriptOpsCardSaid : Prop := Claim7.holds Tryd.pinned (.plain (OpenSpec.ofChange scriptOpsSpec)) scriptOpsCard

/-- THE TIED CARD OF 'deduplaw26.ScriptLines'. -/
def scriptLinesCard : Claim7 := { stood := { row := scriptLinesRow, standIns := [], harness := (true, "3e86b95dea997df95f7ce163ca2b2bbac262d8f2a4430ea89264cd80bdd1d27d"), looks := true }, kinds := [], alts := [], laidByText := true, laidKinds := [.data, .data, .data, .sentinel, .sentinel], laidTests := true, laidLooks := .later }
def ScriptLinesCardSaid : Prop := Claim7.holds Tryd.pinned (.plain (OpenSpec.ofChange scriptLinesSpec)) scriptLinesCard

/-- THE TIED CARD OF 'deduplaw26.ScriptResults'. -/
def scriptResultsCard : Claim7 := { stood := { row := scriptResultsRow, standIns := [], harness := (true, "3e86b95dea997df95f7ce163ca2b2bbac262d8f2a4430ea89264cd80bdd1d27d"), looks := true }, kinds := [], alts := [], laidByText := true, laidKinds := [.data, .data, .data, .sentinel, .sentinel], laidTests := true, laidLooks := .later }
def ScriptResultsCardSaid : Prop := Claim7.holds Tryd.pinned (.plain (OpenSpec.ofChange scriptResultsSpec)) scriptResultsCard

/-- THE TIED CARD OF 'deduplaw26.ScriptNames'. -/
def scriptNamesCard : Claim7 := { stood := { row := scriptNamesRow, standIns := [], harness := (true, "3e86b95dea997df95f7ce163ca2b2bbac262d8f2a4430ea89264cd80bdd1d27d"), looks := true }, kinds := [], alts := [], laidByText := true, laidKinds := [.data, .data, .data, .sentinel, .sentinel], laidTests := true, laidLooks := .later }
def ScriptNamesCardSaid : Prop := Claim7.holds Tryd.pinned (.plain (OpenSpec.ofChange scriptNamesSpec)) scriptNamesCard

/-- THE SECOND FORM's CARD OF 'deduplaw26.ScriptQuotes'. -/
def scriptQuotesUptoCard : Claim7 := { stood := { row := scriptQuotesUptoRow, standIns := [], harness := (true, "3e86b95dea997df95f7ce163ca2b2bbac262d8f2a4430ea89264cd80bdd1d27d"), looks := true }, kinds := [], alts := [], laidByText := true, laidKinds := [.data, .data, .data, .sentinel, .sentinel], laidTests := true, laidLooks := .later }
def ScriptQuotesUptoCardSaid : Prop := Claim7.holds Tryd.pinned (.plain (OpenSpec.upto scriptQuotesSpec)) scriptQuotesUptoCard

/-- THE SECOND FORM's CARD OF 'deduplaw26.ScriptUnquotes'. -/
def scriptUnquotesUptoCard : Claim7 := { stood := { row := scriptUnquotesUptoRow, standIns := [], harness := (true, "3e86b95dea997df95f7ce163ca2b2bbac262d8f2a4430ea89264cd80bdd1d27d"), looks := true }, kinds := [], alts := [], laidByText := true, laidKinds := [.data, .data, .data, .sentinel, .sentinel], laidTests := true, laidLooks := .later }
def ScriptUnquotesUptoCardSaid : Prop := Claim7.holds Tryd.pinned (.plain (OpenSpec.upto scriptUnquotesSpec)) scriptUnquotesUptoCard

/-- THE SECOND FORM's CARD OF 'deduplaw26.ScriptOps'. -/
def scriptOpsUptoCard : Claim7 := { stood := { row := scriptOpsUptoRow, standIns := [], harness := (true, "3e86b95dea997df95f7ce163ca2b2bbac262d8f2a4430ea89264cd80bdd1d27d"), looks := true }, kinds := [], alts := [], laidByText := true, laidKinds := [.data, .data, .data, .sentinel, .sentinel], laidTests := true, laidLooks := .later }
def ScriptOpsUptoCardSaid : Prop := Claim7.holds Tryd.pinned (.plain (OpenSpec.upto scriptOpsSpec)) scriptOpsUptoCard

/-- THE SECOND FORM's CARD OF 'deduplaw26.ScriptLines'. -/
def scriptLinesUptoCard : Claim7 := { stood := { row := scriptLinesUptoRow, standIns := [], harness := (true, "3e86b95dea997df95f7ce163ca2b2bbac262d8f2a4430ea89264cd80bdd1d27d"), looks := true }, kinds := [], alts := [], laidByText := true, laidKinds := [.data, .data, .data, .sentinel, .sentinel], laidTests := true, laidLooks := .later }
def ScriptLinesUptoCardSaid : Prop := Claim7.holds Tryd.pinned (.plain (OpenSpec.upto scriptLinesSpec)) scriptLinesUptoCard

/-- THE SECOND FORM's CARD OF 'deduplaw26.ScriptResults'. -/
def scriptResultsUptoCard : Claim7 := { stood := { row := scriptResultsUptoRow, standIns := [], harness := (true, "3e86b95dea997df95f7ce163ca2b2bbac262d8f2a4430ea89264cd80bdd1d27d"), looks := true }, kinds := [], alts := [], laidByText := true, laidKinds := [.data, .data, .data, .sentinel, .sentinel], laidTests := true, laidLooks := .later }
def ScriptResultsUptoCardSaid : Prop := Claim7.holds Tryd.pinned (.plain (OpenSpec.upto scriptResultsSpec)) scriptResultsUptoCard

/-- THE SECOND FORM's CARD OF 'deduplaw26.ScriptNames'. -/
def scriptNamesUptoCard : Claim7 := { stood := { row := scriptNamesUptoRow, standIns := [], harness := (true, "3e86b95dea997df95f7ce163ca2b2bbac262d8f2a4430ea89264cd80bdd1d27d"), looks := true }, kinds := [], alts := [], laidByText := true, laidKinds := [.data, .data, .data, .sentinel, .sentinel], laidTests := true, laidLooks := .later }
def ScriptNamesUptoCardSaid : Prop := Claim7.holds Tryd.pinned (.plain (OpenSpec.upto scriptNamesSpec)) scriptNamesUptoCard
end Rows
end Go.Proofs.YtndfgpelioipcaaDoor
