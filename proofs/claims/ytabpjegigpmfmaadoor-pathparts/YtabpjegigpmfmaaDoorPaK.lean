/- The library's tables as the rows list them (nobody reads them); facts of this program that every law's row asks. -/
import Derived.Test.YtabpjegigpmfmaaDoorCards
import Derived.Test.YtabpjegigpmfmaaDoorTie
import Derived.Test.YtabpjegigpmfmaaDoorLawKit
import Derived.Test.YtabpjegigpmfmaaDoorPaA
import Derived.Deep.DeepHandedRow
import Derived.Lib.LaidTab
import Derived.Lib.SmallJoins
namespace Go.Proofs.YtabpjegigpmfmaaDoor
open Go.ChangeShapes Go.WideShapes Go.ChangeAt Go.RowKit Go.Joins Go.ChangeMaps
set_option linter.unusedVariables false
theorem own : ownKnob Tryd.prog.godebug = none := by kernel_rfl
theorem laidOut : laidOutB Tryd.prog = true := by kernel_rfl
def intsOf : DataW Unit → List Int
  | .lit (.int _ z) => [z]
  | .agg l => l.map fun
    | .lit (.int _ z) => z
    | _ => 0
  | _ => []
def partsOf : DataW Unit → List (DataW Unit)
  | .agg l => l
  | _ => []
/-- A world in which both tables lie as the library's text lays them. -/
def tabWorld (w : World) : World :=
  { w with heap := (w.heap.modify 1 fun | .cells _ t frozen => .cells ((intsOf Go.Pinned.utf8First).map (Value.int .u8)).toArray t frozen | o => o).modify 2 fun | .cells _ t frozen => .cells (((partsOf Rows.laid_unicode_utf8_acceptRanges).map intsOf).flatten.map (Value.int .u8)).toArray t frozen | o => o }
end Go.Proofs.YtabpjegigpmfmaaDoor
