/- The table, as the rows list it; facts of this program that every codec law's row asks. -/
import Derived.Test.YtafdkfieajdeiaaDoorCards
import Derived.Test.YtafdkfieajdeiaaDoorTie
import Derived.Test.YtafdkfieajdeiaaDoorAwake
import Derived.Test.YtafdkfieajdeiaaDoorLawKit
import Derived.Deep.DeepHandedRow
import Derived.Lib.LaidTab
import Derived.Lib.SmallJoins
namespace Go.Proofs.YtafdkfieajdeiaaDoor
open Go.ChangeShapes Go.WideShapes Go.ChangeAt Go.RowKit

theorem own : ownKnob Tryd.prog.godebug = none := by kernel_rfl
theorem laidOut : laidOutB Tryd.prog = true := by kernel_rfl
/-- The listed variable's name, as the rows have it. -/
def tabName : String := (Rows.packPlaysRow.laid.map fun x => x.1).headD default
theorem gTab : Tryd.prog.globalNamed tabName = some 0 := by kernel_rfl
theorem gTabType : (Tryd.prog.globals[0]?).map (·.type) = some 119 := by kernel_rfl
theorem cellsTab : Tryd.prog.cellsOf 119 = 16 := by kernel_rfl
theorem cells32 : Tryd.prog.cellsOf 22 = 1 := by kernel_rfl
/-- The block in which it lies. -/
abbrev tabBlock : Nat := 0
def tabInts : List Int := crcTab.map Int.ofNat
theorem tab_laid {W : World} (h : laidMetH Tryd.prog Rows.packPlaysRow.laid W) : Tab W := by
  have hT : Lib.TabIs Tryd.prog W tabName .u32 tabInts := Lib.tabIs_of_head (rest := []) gTab gTabType Tryd.underlying119 Tryd.underlying22 cells32 cellsTab h
  intro j hj
  have := hT.cell gTab j (by simpa [tabInts, crcTab] using hj)
  rw [this]
  have e : tabInts.getD j 0 = ((crcT j : Nat) : Int) := by
    have : ∀ i : Fin 16, tabInts.getD i.val 0 = ((crcT i.val : Nat) : Int) := by decide
    exact this ⟨j, hj⟩
  rw [e]
end Go.Proofs.YtafdkfieajdeiaaDoor
