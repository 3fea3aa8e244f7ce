/- cut's gear, zeros and their callees, walked. -/
import Derived.Test.YtbmbdidmbdanmaaDoorRows
import Derived.Test.YtbmbdidmbdanmaaDoorBase
import Derived.Test.YtbmbdidmbdanmaaDoorCutP
import Derived.Deep.RegionWith
import Derived.BigQuiet
import Derived.Deep.QuietTactic
import Derived.StillTailTactics
import Derived.Handy
import Derived.Laws.BitsAllLaws
namespace Go.Proofs.YtbmbdidmbdanmaaDoor
open Go.RowKit
set_option linter.unusedVariables false

/-- Nothing that was there has turned. -/
abbrev Same (w w' : World) : Prop := Kept (fun _ => False) w w'
theorem same_alloc (w : World) (o : Obj) : Same w (w.alloc o) := (Kept.refl _ _).alloc _
/-- The library's table. -/
def deB : List Nat := [0, 1, 56, 2, 57, 49, 28, 3, 61, 58, 42, 50, 38, 29, 17, 4, 62, 47, 59, 36, 45, 43, 51, 22, 53, 39, 33, 30, 24, 18, 12, 5, 63, 55, 48, 27, 60, 41, 37, 16, 46, 35, 44, 21, 52, 32, 23, 11, 54, 26, 40, 15, 34, 20, 31, 10, 25, 14, 19, 9, 13, 8, 7, 6]
def Tab (w : World) : Prop := ∀ j, j < 64 → w.cell? ⟨0, j, none⟩ = some (.int .u8 (deB.getD j 0 : Nat))
theorem Tab.kept {S : Nat → Prop} {a w : World} (h : Tab a) (hk : Kept S a w) (hs : ¬ S 0) : Tab w := fun j hj => hk.cell (p := ⟨0, j, none⟩) hs (h j hj)
theorem Tab.lt {w : World} (h : Tab w) : 0 < w.heap.size := World.block_lt_of_cell? w _ (h 0 (by decide))
theorem Tab.same {w w' : World} (h : Tab w) (k : Same w w') : Tab w' := h.kept k (fun h => h)
theorem Tab.drew {w : World} (h : Tab w) : Tab w.drew := h
set_option maxHeartbeats 400000 in
set_option maxRecDepth 100000 in
theorem tz64_any (k : Nat) (h1 : 4 ≤ k) (h2 : k ≤ 16) (w : World) (hT : Tab w) : Calls Tryd.prog 61 #[.int .u64 (2 ^ k : Nat)] w fun e w' => e = .returned (.int .i64 k) ∧ w = w' := by
  have hk : k = 4 ∨ k = 5 ∨ k = 6 ∨ k = 7 ∨ k = 8 ∨ k = 9 ∨ k = 10 ∨ k = 11 ∨ k = 12 ∨ k = 13 ∨ k = 14 ∨ k = 15 ∨ k = 16 := by omega
  have t := fun j h => hT j h
  rcases hk with rfl | rfl | rfl | rfl | rfl | rfl | rfl | rfl | rfl | rfl | rfl | rfl | rfl
  all_goals
    go_enter Tryd.func61, Tryd.ntmps61
    go_wp2
    go_returns
    exact ⟨congrArg (fun n => Ending.returned (.int .i64 n)) (by decide +kernel), rfl⟩
theorem u64xor (a b : Nat) (ha : a < 18446744073709551616) (hb : b < 18446744073709551616) : bits .xor .u64 (a : Int) (b : Int) = ((a ^^^ b : Nat) : Int) := u64_xor_nat a b ha hb
theorem mixA_int (x : Nat) (h : x < 18446744073709551616) : IntKind.u64.wrap (bits .xor .u64 (x : Int) ((x : Int) / 1073741824) * 13787848793156543929) = (mixA x : Int) := by
  rw [show (x : Int) / 1073741824 = ((x / 1073741824 : Nat) : Int) by omega, u64xor _ _ h (by omega), IntKind.wrap_u64]
  unfold mixA
  generalize x ^^^ x / 1073741824 = y
  omega
theorem mixB_int (x : Nat) (h : x < 18446744073709551616) : IntKind.u64.wrap (bits .xor .u64 (x : Int) ((x : Int) / 134217728) * 10723151780598845931) = (mixB x : Int) := by
  rw [show (x : Int) / 134217728 = ((x / 134217728 : Nat) : Int) by omega, u64xor _ _ h (by omega), IntKind.wrap_u64]
  unfold mixB
  generalize x ^^^ x / 134217728 = y
  omega
theorem mixC_int (x : Nat) (h : x < 18446744073709551616) : bits .xor .u64 (x : Int) ((x : Int) / 2147483648) = (mixC x : Int) := by
  rw [show (x : Int) / 2147483648 = ((x / 2147483648 : Nat) : Int) by omega, u64xor _ _ h (by omega)]
  rfl
end Go.Proofs.YtbmbdidmbdanmaaDoor
