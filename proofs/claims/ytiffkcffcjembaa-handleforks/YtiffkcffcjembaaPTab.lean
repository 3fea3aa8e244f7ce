/- For the rows of a seat without package variables. -/
import Derived.Test.YtiffkcffcjembaaRows
import Derived.Test.YtiffkcffcjembaaLawKit
import Derived.Deep.DeepHandedRow
import Derived.Lib.LaidTab
import Derived.Lib.SmallJoins
namespace Go.Proofs.Ytiffkcffcjembaa
open Go.RowKit
theorem own : ownKnob Try.prog.godebug = none := by kernel_rfl
theorem laidOut : laidOutB Try.prog = true := by kernel_rfl
end Go.Proofs.Ytiffkcffcjembaa
