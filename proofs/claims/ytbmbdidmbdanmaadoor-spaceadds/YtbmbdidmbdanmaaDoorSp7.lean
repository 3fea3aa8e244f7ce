/- The methods of a Space that New did not give (nil, or one all zero). -/
import Derived.Test.YtbmbdidmbdanmaaDoorSp5
/- or of two bitmaps; a Space's taken; places. -/
namespace Go.Proofs.YtbmbdidmbdanmaaDoor
open Go.RowKit
set_option linter.unusedVariables false

set_option maxHeartbeats 1000000 in
set_option maxRecDepth 100000 in
theorem sp_placesYes (g first count : Nat) (u v : Nat → Bool) (res : Nat) (af ac : Int) (w : World) (h : SpAt g first count u v res w) (h1 : 1 ≤ ac) (h2 : (first : Int) ≤ af) (h3 : af + ac ≤ (first : Int) + count) :
    Calls Tryd.prog 48 #[.pointer (some ⟨g, 0, none⟩), .agg #[.int .i64 af, .int .i64 ac]] w fun r w' => r = .returned (.tuple #[.int .i64 (af - first), .int .i64 (af - first + ac), .bool true]) ∧ Same w w' := by
  obtain ⟨cs, hb, hsz, q0, q1, hu, hv, q2⟩ := h.box
  have l3 := h.fits
  have c0 : ∀ W, Same w W → W.cell? ⟨g, 0, none⟩ = some (.int .i64 first) := fun W k => (blk_cell (blk_kept k (fun h => h) hb)).trans q0
  have c1 : ∀ W, Same w W → W.cell? ⟨g, 1, none⟩ = some (.int .i64 count) := fun W k => (blk_cell (blk_kept k (fun h => h) hb)).trans q1
  have d0 := fun o => c0 (w.alloc o) (same_alloc _ _)
  have d1 := fun o => c1 (w.alloc o) (same_alloc _ _)
  clear hb h hu hv q0 q1 q2 c0 c1
  go_enter Tryd.func48, Tryd.ntmps48
  have m1 : IntKind.i64.wrap ((first : Int) + (count : Int)) = (first : Int) + (count : Int) := by rw [IntKind.wrap_i64]; omega
  have m2 : IntKind.i64.wrap ((first : Int) + (count : Int) - af) = (first : Int) + (count : Int) - af := by rw [IntKind.wrap_i64]; omega
  have m3 : IntKind.i64.wrap (af - (first : Int)) = af - (first : Int) := by rw [IntKind.wrap_i64]; omega
  have m4 : IntKind.i64.wrap (af - (first : Int) + ac) = af - (first : Int) + ac := by rw [IntKind.wrap_i64]; omega
  go_wp2
  go_quiet (fail)
  go_wp2
  have KQ : Same (w.alloc (.cells #[.int .i64 af, .int .i64 ac] 30)) ((w.alloc (.cells #[.int .i64 af, .int .i64 ac] 30)).drewN nq) := (Kept.refl _ _).drewN _
  have HQ := hidden KQ
  have x0 : ((w.alloc (.cells #[.int .i64 af, .int .i64 ac] 30)).drewN nq).cell? ⟨w.heap.size, 0, none⟩ = some (.int .i64 af) := blk_cell (blk_kept KQ (fun h => h) (blk_new w _))
  have x1 : ((w.alloc (.cells #[.int .i64 af, .int .i64 ac] 30)).drewN nq).cell? ⟨w.heap.size, 1, none⟩ = some (.int .i64 ac) := blk_cell (blk_kept KQ (fun h => h) (blk_new w _))
  have x2 : ((w.alloc (.cells #[.int .i64 af, .int .i64 ac] 30)).drewN nq).cell? ⟨g, 0, none⟩ = some (.int .i64 first) := KQ.cell (p := ⟨g, 0, none⟩) (fun h => h) (d0 _)
  clear d0 d1 KQ
  generalize (w.alloc (.cells #[.int .i64 af, .int .i64 ac] 30)).drewN nq = WQ at *
  go_quiet (fail)
  go_wp2
  first
    | (go_returns; exact ⟨rfl, Kept.trans (same_alloc _ _) (HQ.out.drewN _)⟩)
    | (go_quiet (fail); go_wp2; go_returns; exact ⟨rfl, Kept.trans (same_alloc _ _) ((HQ.out.drewN _).drewN _)⟩)
end Go.Proofs.YtbmbdidmbdanmaaDoor
namespace Go.Proofs.YtbmbdidmbdanmaaDoor
open Go.RowKit
set_option linter.unusedVariables false

/-- No Space: nil, or one whose count is 0. -/
def NoSp (v : Value) (w : World) : Prop := v = .pointer none ∨ ∃ g, v = .pointer (some ⟨g, 0, none⟩) ∧ w.cell? ⟨g, 1, none⟩ = some (.int .i64 0)
theorem NoSp.same {v : Value} {w w' : World} (h : NoSp v w) (k : Same w w') : NoSp v w' := by
  rcases h with h | ⟨g, h, c⟩
  · exact Or.inl h
  · exact Or.inr ⟨g, h, k.cell (p := ⟨g, 1, none⟩) (fun h => h) c⟩
set_option maxHeartbeats 1000000 in
set_option maxRecDepth 100000 in
theorem no_made (v : Value) (w : World) (h : NoSp v w) : Calls Tryd.prog 44 #[v] w fun r w' => r = .returned (.bool false) ∧ w = w' := by
  rcases h with rfl | ⟨g, rfl, c1⟩
  · exact sp_madeNil w
  · go_enter Tryd.func44, Tryd.ntmps44
    go_wp2
    go_returns
    exact ⟨rfl, rfl⟩
set_option maxHeartbeats 1000000 in
set_option maxRecDepth 100000 in
theorem no_Left (v : Value) (w : World) (h : NoSp v w) : Calls Tryd.prog 25 #[v] w fun r w' => r = .returned (.int .i64 0) ∧ w = w' := by
  have A := hidden (no_made v w h)
  clear h
  go_enter Tryd.func25, Tryd.ntmps25
  go_wp2_with (go_at_call 44; refine A.out.mono ?_; rintro e w1 ⟨rfl, rfl⟩)
  go_returns
  exact ⟨rfl, rfl⟩
set_option maxHeartbeats 1000000 in
set_option maxRecDepth 100000 in
theorem no_Used (v : Value) (w : World) (h : NoSp v w) : Calls Tryd.prog 23 #[v] w fun r w' => r = .returned (.int .i64 0) ∧ w = w' := by
  have A := hidden (no_made v w h)
  clear h
  go_enter Tryd.func23, Tryd.ntmps23
  go_wp2_with (go_at_call 44; refine A.out.mono ?_; rintro e w1 ⟨rfl, rfl⟩)
  go_returns
  exact ⟨rfl, rfl⟩
set_option maxHeartbeats 1000000 in
set_option maxRecDepth 100000 in
theorem no_Waiting (v : Value) (w : World) (h : NoSp v w) : Calls Tryd.prog 24 #[v] w fun r w' => r = .returned (.int .i64 0) ∧ w = w' := by
  have A := hidden (no_made v w h)
  clear h
  go_enter Tryd.func24, Tryd.ntmps24
  go_wp2_with (go_at_call 44; refine A.out.mono ?_; rintro e w1 ⟨rfl, rfl⟩)
  go_returns
  exact ⟨rfl, rfl⟩
set_option maxHeartbeats 1000000 in
set_option maxRecDepth 100000 in
theorem no_Settle (v : Value) (w : World) (h : NoSp v w) : Calls Tryd.prog 18 #[v] w fun r w' => r = .returned (.int .i64 0) ∧ w = w' := by
  have A := hidden (no_made v w h)
  clear h
  go_enter Tryd.func18, Tryd.ntmps18
  go_wp2_with (go_at_call 44; refine A.out.mono ?_; rintro e w1 ⟨rfl, rfl⟩)
  go_returns
  exact ⟨rfl, rfl⟩
set_option maxHeartbeats 1000000 in
set_option maxRecDepth 100000 in
theorem no_Reserve (v : Value) (n : Int) (w : World) (h : NoSp v w) : Calls Tryd.prog 19 #[v, .int .i64 n] w fun r w' => r = .returned (.int .i64 6) ∧ w = w' := by
  have A := hidden (no_made v w h)
  clear h
  go_enter Tryd.func19, Tryd.ntmps19
  go_wp2_with (go_at_call 44; refine A.out.mono ?_; rintro e w1 ⟨rfl, rfl⟩)
  go_returns
  exact ⟨rfl, rfl⟩
set_option maxHeartbeats 1000000 in
set_option maxRecDepth 100000 in
theorem no_Release (v : Value) (n : Int) (w : World) (h : NoSp v w) : Calls Tryd.prog 20 #[v, .int .i64 n] w fun r w' => r = .returned (.int .i64 6) ∧ w = w' := by
  have A := hidden (no_made v w h)
  clear h
  go_enter Tryd.func20, Tryd.ntmps20
  go_wp2_with (go_at_call 44; refine A.out.mono ?_; rintro e w1 ⟨rfl, rfl⟩)
  go_returns
  exact ⟨rfl, rfl⟩
end Go.Proofs.YtbmbdidmbdanmaaDoor
