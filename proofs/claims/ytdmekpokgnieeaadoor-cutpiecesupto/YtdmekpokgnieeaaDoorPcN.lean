/- CutPieces where the shape may not be, walked. -/
import Derived.Test.YtdmekpokgnieeaaDoorPcO
namespace Go.Proofs.YtdmekpokgnieeaaDoor
open Go.RowKit Go.WideShapes Go.Shelf
set_option linter.unusedVariables false
attribute [local go_sem ↓] Go.wp_at_zero Go.wp_at_succ
set_option maxHeartbeats 4000000 in
set_option maxRecDepth 100000 in
theorem pieces_no {mn no mx : Int} (hn : ¬ CutOk mn no mx) (seed : Nat) (v : Value) (w : World) (h0 : -9223372036854775808 ≤ no) (h1 : no ≤ 9223372036854775807) (hT : Tab w) :
    Calls Tryd.prog 4 #[.agg #[.int .i64 mn, .int .i64 no, .int .i64 mx, .int .u64 seed], v] w fun e w' => e = .returned (.bool true) ∧ Same w w' := by
  have HLv := hidden (fun W (k : Same w W) => lives_any W (hT.same k))
  have HNw := hidden (fun W => cutNew_no hn seed W)
  have HCk := hidden (fun W => refCheck_no hn seed W h0 h1)
  have K0 : Hid (Same w (w.alloc (.cells #[.int .i64 mn, .int .i64 no, .int .i64 mx, .int .u64 seed] 24))) := hidden (same_alloc _ _)
  clear hT hn
  go_enter Tryd.func4, Tryd.ntmps4
  go_wp2_with (first
    | (go_at_call 6; refine (HLv.out _ K0.out).mono ?_; rintro e w1 ⟨rfl, k1⟩; have b0 : w1.cell? ⟨w.heap.size, 0, none⟩ = some (.int .i64 mn) := box_cell 0 k1 rfl; have b1 : w1.cell? ⟨w.heap.size, 1, none⟩ = some (.int .i64 no) := box_cell 1 k1 rfl; have b2 : w1.cell? ⟨w.heap.size, 2, none⟩ = some (.int .i64 mx) := box_cell 2 k1 rfl; have b3 : w1.cell? ⟨w.heap.size, 3, none⟩ = some (.int .u64 seed) := box_cell 3 k1 rfl; have K1 := hidden (Kept.trans K0.out k1); clear k1)
    | (go_at_call 11; refine (HNw.out _).mono ?_; rintro e w2 ⟨rfl, k2⟩; have K2 := hidden (Kept.trans K1.out k2); have d0 : w2.cell? ⟨w.heap.size, 0, none⟩ = some (.int .i64 mn) := k2.cell (p := ⟨w.heap.size, 0, none⟩) (fun h => h) b0; have d1 : w2.cell? ⟨w.heap.size, 1, none⟩ = some (.int .i64 no) := k2.cell (p := ⟨w.heap.size, 1, none⟩) (fun h => h) b1; have d2 : w2.cell? ⟨w.heap.size, 2, none⟩ = some (.int .i64 mx) := k2.cell (p := ⟨w.heap.size, 2, none⟩) (fun h => h) b2; have d3 : w2.cell? ⟨w.heap.size, 3, none⟩ = some (.int .u64 seed) := k2.cell (p := ⟨w.heap.size, 3, none⟩) (fun h => h) b3; clear k2)
    | (go_at_call 12; refine (HCk.out _).mono ?_; rintro e w3 ⟨rfl, k3⟩; have K3 := hidden (Kept.trans K2.out k3); clear k3))
  all_goals
    go_returns
    exact ⟨rfl, K3.out⟩
end Go.Proofs.YtdmekpokgnieeaaDoor
