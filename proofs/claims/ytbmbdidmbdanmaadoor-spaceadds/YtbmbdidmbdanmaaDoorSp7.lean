/- The methods of a Space that New did not give (nil, or one all zero). -/
import Derived.Test.YtbmbdidmbdanmaaDoorSp6
namespace Go.Proofs.YtbmbdidmbdanmaaDoor
open Go.RowKit
set_option linter.unusedVariables false

/-- No Space: nil, or one whose count is 0. -/
def NoSp (v : Value) (w : World) : Prop := v = .pointer none ∨ ∃ g, v = .pointer (some ⟨g, 0, none⟩) ∧ w.cell? ⟨g, 1, none⟩ = some (.int .i64 0)
theorem NoSp.same {v : Value} {w w' : World} (h : NoSp v w) (k : Same w w') : NoSp v w' := by
  rcases h with h | ⟨g, h, c⟩
  · exact Or.inl h
  · exact Or.inr ⟨g, h, k.cell (p := ⟨g, 1, none⟩) (fun h => h) c⟩
set_option maxHeartbeats 1000000 in
set_option maxRecDepth 100000 in
theorem no_made (v : Value) (w : World) (h : NoSp v w) : Calls Tryd.prog 44 #[v] w fun r w' => r = .returned (.bool false) ∧ w = w' := by
  rcases h with rfl | ⟨g, rfl, c1⟩
  · exact sp_madeNil w
  · go_enter Tryd.func44, Tryd.ntmps44
    go_wp2
    go_returns
    exact ⟨rfl, rfl⟩
set_option maxHeartbeats 1000000 in
set_option maxRecDepth 100000 in
theorem no_Left (v : Value) (w : World) (h : NoSp v w) : Calls Tryd.prog 25 #[v] w fun r w' => r = .returned (.int .i64 0) ∧ w = w' := by
  have A := hidden (no_made v w h)
  clear h
  go_enter Tryd.func25, Tryd.ntmps25
  go_wp2_with (go_at_call 44; refine A.out.mono ?_; rintro e w1 ⟨rfl, rfl⟩)
  go_returns
  exact ⟨rfl, rfl⟩
set_option maxHeartbeats 1000000 in
set_option maxRecDepth 100000 in
theorem no_Used (v : Value) (w : World) (h : NoSp v w) : Calls Tryd.prog 23 #[v] w fun r w' => r = .returned (.int .i64 0) ∧ w = w' := by
  have A := hidden (no_made v w h)
  clear h
  go_enter Tryd.func23, Tryd.ntmps23
  go_wp2_with (go_at_call 44; refine A.out.mono ?_; rintro e w1 ⟨rfl, rfl⟩)
  go_returns
  exact ⟨rfl, rfl⟩
set_option maxHeartbeats 1000000 in
set_option maxRecDepth 100000 in
theorem no_Waiting (v : Value) (w : World) (h : NoSp v w) : Calls Tryd.prog 24 #[v] w fun r w' => r = .returned (.int .i64 0) ∧ w = w' := by
  have A := hidden (no_made v w h)
  clear h
  go_enter Tryd.func24, Tryd.ntmps24
  go_wp2_with (go_at_call 44; refine A.out.mono ?_; rintro e w1 ⟨rfl, rfl⟩)
  go_returns
  exact ⟨rfl, rfl⟩
set_option maxHeartbeats 1000000 in
set_option maxRecDepth 100000 in
theorem no_Settle (v : Value) (w : World) (h : NoSp v w) : Calls Tryd.prog 18 #[v] w fun r w' => r = .returned (.int .i64 0) ∧ w = w' := by
  have A := hidden (no_made v w h)
  clear h
  go_enter Tryd.func18, Tryd.ntmps18
  go_wp2_with (go_at_call 44; refine A.out.mono ?_; rintro e w1 ⟨rfl, rfl⟩)
  go_returns
  exact ⟨rfl, rfl⟩
set_option maxHeartbeats 1000000 in
set_option maxRecDepth 100000 in
theorem no_Reserve (v : Value) (n : Int) (w : World) (h : NoSp v w) : Calls Tryd.prog 19 #[v, .int .i64 n] w fun r w' => r = .returned (.int .i64 6) ∧ w = w' := by
  have A := hidden (no_made v w h)
  clear h
  go_enter Tryd.func19, Tryd.ntmps19
  go_wp2_with (go_at_call 44; refine A.out.mono ?_; rintro e w1 ⟨rfl, rfl⟩)
  go_returns
  exact ⟨rfl, rfl⟩
set_option maxHeartbeats 1000000 in
set_option maxRecDepth 100000 in
theorem no_Release (v : Value) (n : Int) (w : World) (h : NoSp v w) : Calls Tryd.prog 20 #[v, .int .i64 n] w fun r w' => r = .returned (.int .i64 6) ∧ w = w' := by
  have A := hidden (no_made v w h)
  clear h
  go_enter Tryd.func20, Tryd.ntmps20
  go_wp2_with (go_at_call 44; refine A.out.mono ?_; rintro e w1 ⟨rfl, rfl⟩)
  go_returns
  exact ⟨rfl, rfl⟩
end Go.Proofs.YtbmbdidmbdanmaaDoor
