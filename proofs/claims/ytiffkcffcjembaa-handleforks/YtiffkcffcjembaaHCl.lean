/- The library's own texts, held against the shelf's. (Made by mkhcl.py.) -/
import Derived.Shelf.SlMaps.Clone
import Derived.Test.YtiffkcffcjembaaRows
namespace Go.Proofs.Ytiffkcffcjembaa
open Go.Shelf
def cloneA_ren : Go.Shelf.Ren := ⟨fun | 5 => 27 | 7 => 33 | n => n, fun | 23 => 46 | 25 => 3 | 3 => 3 | 4 => 4 | 20 => 20 | n => n, fun | n => n⟩
theorem cloneA : Go.Proofs.SlLaysW.n5 Try.prog cloneA_ren := {
  mixed := by kernel_rfl
  f5 := ⟨Try.f27.name, by decide, Try.func27.trans (congrArg some (by kernel_rfl))⟩
  f7 := Try.func33.trans (congrArg some (by kernel_rfl))
  t4 := Try.underlying4
  a4 := Try.isAgg4
  z4 := Try.sizeOf4
  v4 := Try.zeroValue4
  t20 := Try.underlying20
  a20 := Try.isAgg20
  z20 := Try.sizeOf20
  v20 := Try.zeroValue20
  t23 := Try.underlying46
  a23 := Try.isAgg46
  z23 := Try.sizeOf46
  v23 := Try.zeroValue46 }
end Go.Proofs.Ytiffkcffcjembaa
