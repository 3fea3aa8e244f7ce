/- The library's variables as the rows list them: two tables, the powers of ten, two errors; facts of this program that every law's row asks. -/
import Derived.Test.YtndfgpelioipcaaDoorCards
import Derived.Test.YtndfgpelioipcaaDoorTie
import Derived.Test.YtndfgpelioipcaaDoorLawKit
import Derived.Test.YtndfgpelioipcaaDoorSc6
import Derived.Deep.DeepHandedRow
import Derived.Deep.DeepWitnessRowRef
import Derived.Lib.LaidTab
import Derived.Lib.SmallJoins
import Derived.Stop.LaidErr
namespace Go.Proofs.YtndfgpelioipcaaDoor
open Go.ChangeShapes Go.WideShapes Go.ChangeAt Go.RowKit Go.Joins Go.ChangeMaps
set_option linter.unusedVariables false
theorem own : ownKnob Tryd.prog.godebug = none := by kernel_rfl
theorem laidOut : laidOutB Tryd.prog = true := by kernel_rfl
def intsOf : DataW Unit → List Int
  | .lit (.int _ z) => [z]
  | .agg l => l.map fun
    | .lit (.int _ z) => z
    | _ => 0
  | _ => []
abbrev synS : ByteArray := { data := #[105, 110, 118, 97, 108, 105, 100, 32, 115, 121, 110, 116, 97, 120] }
abbrev rngS : ByteArray := { data := #[118, 97, 108, 117, 101, 32, 111, 117, 116, 32, 111, 102, 32, 114, 97, 110, 103, 101] }
def put (h : Array Obj) (g : Nat) (cs : Array Value) : Array Obj := h.modify g fun
  | .cells _ t frozen => .cells cs t frozen
  | o => o
/-- A world in which all of them lie as the library's text lays them; the errors' structs are the blocks N and N + 1. -/
def laidWorld (w : World) (N : Nat) : World :=
  { w with heap := put (put (put (put (put w.heap 2 #[.iface 119 (.pointer (some ⟨N, 0, none⟩))]) 3 #[.iface 119 (.pointer (some ⟨N + 1, 0, none⟩))]) 1 ((intsOf Rows.laid_internal_strconv_uint64pow10).map (Value.int .u64)).toArray) 4 ((intsOf Rows.laid_math_bits_deBruijn32tab).map (Value.int .u8)).toArray) 5 ((intsOf Rows.laid_math_bits_deBruijn64tab).map (Value.int .u8)).toArray }
theorem gES : Tryd.prog.globalNamed "strconv.ErrSyntax" = some 2 := by kernel_rfl
theorem gEST : (Tryd.prog.globals[(2 : Nat)]?).map (·.type) = some 85 := by kernel_rfl
theorem gER : Tryd.prog.globalNamed "strconv.ErrRange" = some 3 := by kernel_rfl
theorem gERT : (Tryd.prog.globals[(3 : Nat)]?).map (·.type) = some 85 := by kernel_rfl
theorem gPT : Tryd.prog.globalNamed "internal/strconv.uint64pow10" = some 1 := by kernel_rfl
theorem gPTT : (Tryd.prog.globals[(1 : Nat)]?).map (·.type) = some 108 := by kernel_rfl
theorem cellsES : Tryd.prog.cellsOf 121 = 1 := by kernel_rfl
theorem cellsS1 : Tryd.prog.cellsOf 9 = 1 := by kernel_rfl
theorem cellsU64 : Tryd.prog.cellsOf 72 = 1 := by kernel_rfl
theorem cellsPT : Tryd.prog.cellsOf 108 = 20 := by kernel_rfl
theorem star : "*" ++ "errors.errorString" = "*errors.errorString" := by decide
theorem rowES (u : TypeId) (h : Tryd.prog.typeName? 3 u = some "*errors.errorString") : u = 119 :=
  typeName_ptr_named (nm := "errors.errorString") (by rw [star]; kernel_rfl) (by kernel_rfl) (by decide) u (by rw [star]; exact h)
set_option maxRecDepth 100000 in
theorem tab_laid {W : World} (h : laidMetH Tryd.prog Rows.scriptNamesRow.laid W) : Tb W := by
  have h0 : laidMet Tryd.prog Rows.scriptNamesRow.laid W := h
  have h2 := h0.tail.tail
  have h3 := h2.tail
  have h4 := h3.tail
  obtain ⟨a0, s0, hv0, -, -, -⟩ := laid_sentinel h4 gES gEST Tryd.underlying85 rowES Tryd.underlying119 Tryd.underlying121 rfl rfl Tryd.underlying9 cellsES cellsS1
  obtain ⟨a1, s1, hv1, -, -, -⟩ := laid_sentinel h3 gER gERT Tryd.underlying85 rowES Tryd.underlying119 Tryd.underlying121 rfl rfl Tryd.underlying9 cellsES cellsS1
  refine ⟨?_, ⟨_, _, by have h0 := World.var?_cell gES hv0 0; simpa using h0⟩, ⟨_, _, by have h0 := World.var?_cell gER hv1 0; simpa using h0⟩⟩
  exact Lib.tabIs_of_head (k := .u64) (zs := Lib.pow10Tab) gPT gPTT Tryd.underlying108 Tryd.underlying72 cellsU64 cellsPT h2
theorem bulk_string {H : Type} (s : ByteArray) : s.size ≤ Rows.uptoBulk (H := H) (.lit (.string s.data.toList)) := by rw [Rows.uptoBulk, size_list]; omega
end Go.Proofs.YtndfgpelioipcaaDoor
