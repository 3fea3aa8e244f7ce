/- For the rows of a seat without package variables. -/
import Derived.Test.YtelngbkbdihdnaaRows
import Derived.Test.YtelngbkbdihdnaaLawKit
import Derived.Deep.DeepHandedRow
import Derived.Lib.LaidTab
import Derived.Lib.SmallJoins
namespace Go.Proofs.Ytelngbkbdihdnaa
open Go.RowKit
theorem own : ownKnob Try.prog.godebug = none := by kernel_rfl
theorem laidOut : laidOutB Try.prog = true := by kernel_rfl
end Go.Proofs.Ytelngbkbdihdnaa
