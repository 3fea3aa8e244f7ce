/- The cells of a step, and of what it is made of. -/
import Derived.Test.YtfeaaielopaonaaDoorCTab
namespace Go.Proofs.YtfeaaielopaonaaDoor
theorem cellsOp3 : Tryd.prog.cellsOf 28 = 3 := by kernel_rfl
theorem bytesOp : Tryd.prog.bytesOf 28 = 32 := by kernel_rfl
theorem cellsI1 : Tryd.prog.cellsOf 3 = 1 := by kernel_rfl
theorem cellsU1 : Tryd.prog.cellsOf 26 = 1 := by kernel_rfl
theorem cellsS1 : Tryd.prog.cellsOf 9 = 1 := by kernel_rfl
end Go.Proofs.YtfeaaielopaonaaDoor
