/- journal's right, gone over: the rooms ahead of the first sector that is not right. -/
import Derived.Test.YtljbmpnpbjnbkaaDoorJC
namespace Go.Proofs.YtljbmpnpbjnbkaaDoor
open Go.RowKit Go.Shelf
set_option linter.unusedVariables false
set_option linter.unusedSimpArgs false
attribute [local go_sem] Oper.semAt_some
/-- Where a room lies in its image. -/
abbrev encU (n : Nat) (img : List UInt8) (b off : Nat) {m : Nat} (x : Fin m) : Array Value := #[.slice (some ⟨b, off + x.val * n + 24, none⟩) (usedJ (secP n x.val img)) (n - 24)]
set_option maxHeartbeats 1000000 in
set_option maxRecDepth 100000 in
theorem right_fn (n gen : Nat) (ao : Option Addr) (L cap : Nat) (w : World) : Calls Tryd.prog 42 #[.int .i64 n, .int .u64 gen, .slice ao L cap] w fun e w' => ∃ B, e = .returned (.func (.func 52) #[] #[.pointer (some ⟨B + 2, 0, none⟩), .pointer (some ⟨B, 0, none⟩), .pointer (some ⟨B + 1, 0, none⟩)]) ∧ w.heap.size ≤ B ∧ w'.heap[B]? = some (.cells #[.int .i64 n] 3 (0, 0)) ∧ w'.heap[B + 1]? = some (.cells #[.int .u64 gen] 22 (0, 0)) ∧ w'.heap[B + 2]? = some (.cells #[.slice ao L cap] 39 (0, 0)) ∧ Same w w' := by
  go_enter Tryd.func42, Tryd.ntmps42
  go_wp2
  go_returns
  refine ⟨w.heap.size, by simp, by simp, blk_alloc (blk_alloc (blk_new _ _) _) _, blk_alloc ?_ _, ?_, (((Kept.refl _ w).alloc _).alloc _).alloc _⟩
  · have := blk_new (w.alloc (.cells #[.int .i64 n] 3)) (.cells #[.int .u64 gen] 22); simpa using this
  · have := blk_new ((w.alloc (.cells #[.int .i64 n] 3)).alloc (.cells #[.int .u64 gen] 22)) (.cells #[.slice ao L cap] 39); simpa using this
end Go.Proofs.YtljbmpnpbjnbkaaDoor
