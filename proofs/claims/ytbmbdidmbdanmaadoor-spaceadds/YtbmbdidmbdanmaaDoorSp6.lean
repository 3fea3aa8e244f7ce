/- or of two bitmaps; a Space's taken; places. -/
import Derived.Test.YtbmbdidmbdanmaaDoorSp5
namespace Go.Proofs.YtbmbdidmbdanmaaDoor
open Go.RowKit
set_option linter.unusedVariables false

set_option maxHeartbeats 1000000 in
set_option maxRecDepth 100000 in
theorem sp_placesYes (g first count : Nat) (u v : Nat → Bool) (res : Nat) (af ac : Int) (w : World) (h : SpAt g first count u v res w) (h1 : 1 ≤ ac) (h2 : (first : Int) ≤ af) (h3 : af + ac ≤ (first : Int) + count) :
    Calls Tryd.prog 48 #[.pointer (some ⟨g, 0, none⟩), .agg #[.int .i64 af, .int .i64 ac]] w fun r w' => r = .returned (.tuple #[.int .i64 (af - first), .int .i64 (af - first + ac), .bool true]) ∧ Same w w' := by
  obtain ⟨cs, hb, hsz, q0, q1, hu, hv, q2⟩ := h.box
  have l3 := h.fits
  have c0 : ∀ W, Same w W → W.cell? ⟨g, 0, none⟩ = some (.int .i64 first) := fun W k => (blk_cell (blk_kept k (fun h => h) hb)).trans q0
  have c1 : ∀ W, Same w W → W.cell? ⟨g, 1, none⟩ = some (.int .i64 count) := fun W k => (blk_cell (blk_kept k (fun h => h) hb)).trans q1
  have d0 := fun o => c0 (w.alloc o) (same_alloc _ _)
  have d1 := fun o => c1 (w.alloc o) (same_alloc _ _)
  clear hb h hu hv q0 q1 q2 c0 c1
  go_enter Tryd.func48, Tryd.ntmps48
  have m1 : IntKind.i64.wrap ((first : Int) + (count : Int)) = (first : Int) + (count : Int) := by rw [IntKind.wrap_i64]; omega
  have m2 : IntKind.i64.wrap ((first : Int) + (count : Int) - af) = (first : Int) + (count : Int) - af := by rw [IntKind.wrap_i64]; omega
  have m3 : IntKind.i64.wrap (af - (first : Int)) = af - (first : Int) := by rw [IntKind.wrap_i64]; omega
  have m4 : IntKind.i64.wrap (af - (first : Int) + ac) = af - (first : Int) + ac := by rw [IntKind.wrap_i64]; omega
  go_wp2
  go_quiet (fail)
  go_wp2
  have KQ : Same (w.alloc (.cells #[.int .i64 af, .int .i64 ac] 30)) ((w.alloc (.cells #[.int .i64 af, .int .i64 ac] 30)).drewN nq) := (Kept.refl _ _).drewN _
  have HQ := hidden KQ
  have x0 : ((w.alloc (.cells #[.int .i64 af, .int .i64 ac] 30)).drewN nq).cell? ⟨w.heap.size, 0, none⟩ = some (.int .i64 af) := blk_cell (blk_kept KQ (fun h => h) (blk_new w _))
  have x1 : ((w.alloc (.cells #[.int .i64 af, .int .i64 ac] 30)).drewN nq).cell? ⟨w.heap.size, 1, none⟩ = some (.int .i64 ac) := blk_cell (blk_kept KQ (fun h => h) (blk_new w _))
  have x2 : ((w.alloc (.cells #[.int .i64 af, .int .i64 ac] 30)).drewN nq).cell? ⟨g, 0, none⟩ = some (.int .i64 first) := KQ.cell (p := ⟨g, 0, none⟩) (fun h => h) (d0 _)
  clear d0 d1 KQ
  generalize (w.alloc (.cells #[.int .i64 af, .int .i64 ac] 30)).drewN nq = WQ at *
  go_quiet (fail)
  go_wp2
  first
    | (go_returns; exact ⟨rfl, Kept.trans (same_alloc _ _) (HQ.out.drewN _)⟩)
    | (go_quiet (fail); go_wp2; go_returns; exact ⟨rfl, Kept.trans (same_alloc _ _) ((HQ.out.drewN _).drewN _)⟩)
end Go.Proofs.YtbmbdidmbdanmaaDoor
