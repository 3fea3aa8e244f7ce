/- slices.Insert of texts: the library's own text, held against the shelf's. (Made by mkins.py.) -/
import Derived.Shelf.Spec.SlicesInsertGrow
import Derived.Test.YtmlibjohhgpniaaGreatDoorRows
namespace Go.Proofs.YtmlibjohhgpniaaGreatDoor
open Go.Shelf
def insLay_ren : Go.Shelf.Ren := ⟨fun | 22 => 116 | 29 => 157 | 30 => 158 | 36 => 191 | 17 => 218 | n => n, fun | 24 => 84 | 9 => 9 | 3 => 3 | 4 => 4 | 0 => 0 | n => n, fun | n => n⟩
theorem insLay : Go.Proofs.Lays2.n22 Tryz.prog insLay_ren := {
  mixed := by kernel_rfl
  f17 := Tryz.func218.trans (congrArg some (by kernel_rfl))
  f22 := Tryz.func116.trans (congrArg some (by kernel_rfl))
  f29 := Tryz.func157.trans (congrArg some (by kernel_rfl))
  f30 := Tryz.func158.trans (congrArg some (by kernel_rfl))
  f36 := Tryz.func191.trans (congrArg some (by kernel_rfl))
  t0 := Tryz.underlying0
  a0 := Tryz.isAgg0
  z0 := Tryz.sizeOf0
  v0 := Tryz.zeroValue0
  t3 := Tryz.underlying3
  a3 := Tryz.isAgg3
  z3 := Tryz.sizeOf3
  v3 := Tryz.zeroValue3
  t4 := Tryz.underlying4
  a4 := Tryz.isAgg4
  z4 := Tryz.sizeOf4
  v4 := Tryz.zeroValue4
  t9 := Tryz.underlying9
  a9 := Tryz.isAgg9
  z9 := Tryz.sizeOf9
  v9 := Tryz.zeroValue9
  t24 := Tryz.underlying84
  a24 := Tryz.isAgg84
  z24 := Tryz.sizeOf84
  v24 := Tryz.zeroValue84
  i9 := by kernel_rfl }
end Go.Proofs.YtmlibjohhgpniaaGreatDoor
