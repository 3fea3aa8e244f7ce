/- inode: what its calls tell of no tree; a step of deduplaw18, opened. (Made by mkin8.py.) -/
import Derived.Test.YtmlibjohhgpniaaGreatDoorIn7
import Derived.Test.YtmlibjohhgpniaaGreatDoorCTab
namespace Go.Proofs.YtmlibjohhgpniaaGreatDoor
open Go.ChangeShapes Go.WideShapes Go.ChangeAt Go.RowKit Go.Joins Go.ChangeMaps
set_option linter.unusedVariables false
set_option linter.unusedSimpArgs false
set_option maxHeartbeats 1000000 in
set_option maxRecDepth 100000 in
theorem ni_valueOf (pf k : Int) (w : World) : Calls Tryz.prog 80 #[.pointer none, .int .u8 pf, .int .i64 k] w fun e w' => e = .returned (.tuple #[.string ⟨#[]⟩, .int .i64 6]) ∧ Same w w' := by
  go_enter Tryz.func80, Tryz.ntmps80
  go_wp2
  go_returns
  exact ⟨rfl, by repeat (first | exact Kept.refl _ _ | exact K1.out | refine Kept.alloc ?_ _)⟩
set_option maxHeartbeats 1000000 in
set_option maxRecDepth 100000 in
theorem ni_without (pf k : Int) (w : World) : Calls Tryz.prog 88 #[.pointer none, .int .u8 pf, .int .i64 k] w fun e w' => e = .returned (.tuple #[.pointer none, .int .i64 6]) ∧ Same w w' := by
  have HV := hidden (fun W => ni_valueOf pf k W)
  go_enter Tryz.func88, Tryz.ntmps88
  go_wp2_with (go_at_call 80; refine (HV.out _).mono ?_; rintro e w1 ⟨rfl, q1⟩; have K1 := hidden q1; clear q1)
  go_returns
  exact ⟨rfl, by repeat (first | exact Kept.refl _ _ | exact K1.out | refine Kept.alloc ?_ _)⟩
set_option maxHeartbeats 1000000 in
set_option maxRecDepth 100000 in
theorem ni_Remove (k : Int) (w : World) : Calls Tryz.prog 30 #[.pointer none, .int .i64 k] w fun e w' => e = .returned (.tuple #[.pointer none, .int .i64 6]) ∧ Same w w' := by
  have HV := hidden (fun W => ni_without 105 k W)
  go_enter Tryz.func30, Tryz.ntmps30
  go_wp2_with (go_at_call 88; refine (HV.out _).mono ?_; rintro e w1 ⟨rfl, q1⟩; have K1 := hidden q1; clear q1)
  go_returns
  exact ⟨rfl, by repeat (first | exact Kept.refl _ _ | exact K1.out | refine Kept.alloc ?_ _)⟩
set_option maxHeartbeats 1000000 in
set_option maxRecDepth 100000 in
theorem ni_Adopt (k : Int) (w : World) : Calls Tryz.prog 34 #[.pointer none, .int .i64 k] w fun e w' => e = .returned (.tuple #[.pointer none, .int .i64 6]) ∧ Same w w' := by
  have HV := hidden (fun W => ni_without 111 k W)
  go_enter Tryz.func34, Tryz.ntmps34
  go_wp2_with (go_at_call 88; refine (HV.out _).mono ?_; rintro e w1 ⟨rfl, q1⟩; have K1 := hidden q1; clear q1)
  go_returns
  exact ⟨rfl, by repeat (first | exact Kept.refl _ _ | exact K1.out | refine Kept.alloc ?_ _)⟩
set_option maxHeartbeats 1000000 in
set_option maxRecDepth 100000 in
theorem ni_Get (k : Int) (w : World) : Calls Tryz.prog 27 #[.pointer none, .int .i64 k] w fun e w' => e = .returned (.tuple #[.agg #[.int .i64 0, .bool false, .int .i64 0, .int .i64 0, .int .i64 0], .int .i64 6]) ∧ Same w w' := by
  have HV := hidden (fun W => ni_valueOf 105 k W)
  go_enter Tryz.func27, Tryz.ntmps27
  go_wp2_with (go_at_call 80; refine (HV.out _).mono ?_; rintro e w1 ⟨rfl, q1⟩; have K1 := hidden ((same_alloc w (.cells #[.int .i64 0, .bool false, .int .i64 0, .int .i64 0, .int .i64 0] 62)).trans q1); have B1 := hidden (blk_kept q1 (fun h => h) (blk_new w (.cells #[.int .i64 0, .bool false, .int .i64 0, .int .i64 0, .int .i64 0] 62))); have y0 : w1.cell? ⟨w.heap.size, 0, none⟩ = some (.int .i64 0) := blk_cell B1.out; have f0 : w1.frozen? ⟨w.heap.size, 0, none⟩ = false := blk_free B1.out; have y1 : w1.cell? ⟨w.heap.size, 1, none⟩ = some (.bool false) := blk_cell B1.out; have f1 : w1.frozen? ⟨w.heap.size, 1, none⟩ = false := blk_free B1.out; have y2 : w1.cell? ⟨w.heap.size, 2, none⟩ = some (.int .i64 0) := blk_cell B1.out; have f2 : w1.frozen? ⟨w.heap.size, 2, none⟩ = false := blk_free B1.out; have y3 : w1.cell? ⟨w.heap.size, 3, none⟩ = some (.int .i64 0) := blk_cell B1.out; have f3 : w1.frozen? ⟨w.heap.size, 3, none⟩ = false := blk_free B1.out; have y4 : w1.cell? ⟨w.heap.size, 4, none⟩ = some (.int .i64 0) := blk_cell B1.out; have f4 : w1.frozen? ⟨w.heap.size, 4, none⟩ = false := blk_free B1.out; clear q1)
  have gf := fill5 B1.out (.int .i64 0) (.bool false) (.int .i64 0) (.int .i64 0) (.int .i64 0)
  have sf := same_fill5 K1.out (g := w.heap.size) (Nat.le_refl _) (.int .i64 0) (.bool false) (.int .i64 0) (.int .i64 0) (.int .i64 0)
  generalize (((((w1.setCell ⟨w.heap.size, 0, none⟩ (.int .i64 0)).setCell ⟨w.heap.size, 1, none⟩ (.bool false)).setCell ⟨w.heap.size, 2, none⟩ (.int .i64 0)).setCell ⟨w.heap.size, 3, none⟩ (.int .i64 0)).setCell ⟨w.heap.size, 4, none⟩ (.int .i64 0)) = WF at gf sf ⊢
  have qq0 := blk_cell (j := 0) gf
  have qq1 := blk_cell (j := 1) gf
  have qq2 := blk_cell (j := 2) gf
  have qq3 := blk_cell (j := 3) gf
  have qq4 := blk_cell (j := 4) gf
  refine bodyPost_ret (v := .tuple #[.agg #[.int .i64 0, .bool false, .int .i64 0, .int .i64 0, .int .i64 0], .int .i64 6]) (by simp [results, Tryz.results27, go_sem, qq0, qq1, qq2, qq3, qq4]) rfl ⟨rfl, sf⟩
set_option maxHeartbeats 1000000 in
set_option maxRecDepth 100000 in
theorem ni_Put (a : Int) (d : Bool) (b c e : Int) (w : World) : Calls Tryz.prog 28 #[.pointer none, .agg #[.int .i64 a, .bool d, .int .i64 b, .int .i64 c, .int .i64 e]] w fun e w' => e = .returned (.tuple #[.pointer none, .int .i64 6]) ∧ Same w w' := by
  go_enter Tryz.func28, Tryz.ntmps28
  go_wp2
  go_returns
  exact ⟨rfl, by repeat (first | exact Kept.refl _ _ | exact K1.out | refine Kept.alloc ?_ _)⟩
set_option maxHeartbeats 1000000 in
set_option maxRecDepth 100000 in
theorem ni_New (d : Bool) (k : Int) (w : World) : Calls Tryz.prog 29 #[.pointer none, .bool d, .int .i64 k] w fun e w' => e = .returned (.tuple #[.pointer none, .agg #[.int .i64 0, .bool false, .int .i64 0, .int .i64 0, .int .i64 0], .int .i64 6]) ∧ Same w w' := by
  go_enter Tryz.func29, Tryz.ntmps29
  go_wp2
  have gf := blk_new w (.cells #[.int .i64 0, .bool false, .int .i64 0, .int .i64 0, .int .i64 0] 62)
  have sf := same_alloc w (.cells #[.int .i64 0, .bool false, .int .i64 0, .int .i64 0, .int .i64 0] 62)
  generalize w.alloc (.cells #[.int .i64 0, .bool false, .int .i64 0, .int .i64 0, .int .i64 0] 62) = WF at gf sf ⊢
  have qq0 := blk_cell (j := 0) gf
  have qq1 := blk_cell (j := 1) gf
  have qq2 := blk_cell (j := 2) gf
  have qq3 := blk_cell (j := 3) gf
  have qq4 := blk_cell (j := 4) gf
  refine bodyPost_ret (v := .tuple #[.pointer none, .agg #[.int .i64 0, .bool false, .int .i64 0, .int .i64 0, .int .i64 0], .int .i64 6]) (by simp [results, Tryz.results29, go_sem, qq0, qq1, qq2, qq3, qq4]) rfl ⟨rfl, sf⟩
set_option maxHeartbeats 1000000 in
set_option maxRecDepth 100000 in
theorem ni_Link (k by' : Int) (w : World) : Calls Tryz.prog 32 #[.pointer none, .int .i64 k, .int .i64 by'] w fun e w' => e = .returned (.tuple #[.pointer none, .agg #[.int .i64 0, .bool false, .int .i64 0, .int .i64 0, .int .i64 0], .int .i64 6]) ∧ Same w w' := by
  have HV := hidden (fun W => ni_Get k W)
  go_enter Tryz.func32, Tryz.ntmps32
  go_wp2_with (go_at_call 27; refine (HV.out _).mono ?_; rintro e w1 ⟨rfl, q1⟩; have K1 := hidden (((same_alloc w (.cells #[.int .i64 0, .bool false, .int .i64 0, .int .i64 0, .int .i64 0] 62)).trans q1).alloc (.cells #[.int .i64 0, .bool false, .int .i64 0, .int .i64 0, .int .i64 0] 62)); have B1 := hidden (blk_alloc (blk_kept q1 (fun h => h) (blk_new w (.cells #[.int .i64 0, .bool false, .int .i64 0, .int .i64 0, .int .i64 0] 62))) (.cells #[.int .i64 0, .bool false, .int .i64 0, .int .i64 0, .int .i64 0] 62)); have y0 : (w1.alloc (.cells #[.int .i64 0, .bool false, .int .i64 0, .int .i64 0, .int .i64 0] 62)).cell? ⟨w.heap.size, 0, none⟩ = some (.int .i64 0) := blk_cell B1.out; have f0 : (w1.alloc (.cells #[.int .i64 0, .bool false, .int .i64 0, .int .i64 0, .int .i64 0] 62)).frozen? ⟨w.heap.size, 0, none⟩ = false := blk_free B1.out; have y1 : (w1.alloc (.cells #[.int .i64 0, .bool false, .int .i64 0, .int .i64 0, .int .i64 0] 62)).cell? ⟨w.heap.size, 1, none⟩ = some (.bool false) := blk_cell B1.out; have f1 : (w1.alloc (.cells #[.int .i64 0, .bool false, .int .i64 0, .int .i64 0, .int .i64 0] 62)).frozen? ⟨w.heap.size, 1, none⟩ = false := blk_free B1.out; have y2 : (w1.alloc (.cells #[.int .i64 0, .bool false, .int .i64 0, .int .i64 0, .int .i64 0] 62)).cell? ⟨w.heap.size, 2, none⟩ = some (.int .i64 0) := blk_cell B1.out; have f2 : (w1.alloc (.cells #[.int .i64 0, .bool false, .int .i64 0, .int .i64 0, .int .i64 0] 62)).frozen? ⟨w.heap.size, 2, none⟩ = false := blk_free B1.out; have y3 : (w1.alloc (.cells #[.int .i64 0, .bool false, .int .i64 0, .int .i64 0, .int .i64 0] 62)).cell? ⟨w.heap.size, 3, none⟩ = some (.int .i64 0) := blk_cell B1.out; have f3 : (w1.alloc (.cells #[.int .i64 0, .bool false, .int .i64 0, .int .i64 0, .int .i64 0] 62)).frozen? ⟨w.heap.size, 3, none⟩ = false := blk_free B1.out; have y4 : (w1.alloc (.cells #[.int .i64 0, .bool false, .int .i64 0, .int .i64 0, .int .i64 0] 62)).cell? ⟨w.heap.size, 4, none⟩ = some (.int .i64 0) := blk_cell B1.out; have f4 : (w1.alloc (.cells #[.int .i64 0, .bool false, .int .i64 0, .int .i64 0, .int .i64 0] 62)).frozen? ⟨w.heap.size, 4, none⟩ = false := blk_free B1.out; clear q1)
  have gf := fill5 B1.out (.int .i64 0) (.bool false) (.int .i64 0) (.int .i64 0) (.int .i64 0)
  have sf := same_fill5 K1.out (g := w.heap.size) (Nat.le_refl _) (.int .i64 0) (.bool false) (.int .i64 0) (.int .i64 0) (.int .i64 0)
  generalize ((((((w1.alloc (.cells #[.int .i64 0, .bool false, .int .i64 0, .int .i64 0, .int .i64 0] 62)).setCell ⟨w.heap.size, 0, none⟩ (.int .i64 0)).setCell ⟨w.heap.size, 1, none⟩ (.bool false)).setCell ⟨w.heap.size, 2, none⟩ (.int .i64 0)).setCell ⟨w.heap.size, 3, none⟩ (.int .i64 0)).setCell ⟨w.heap.size, 4, none⟩ (.int .i64 0)) = WF at gf sf ⊢
  have qq0 := blk_cell (j := 0) gf
  have qq1 := blk_cell (j := 1) gf
  have qq2 := blk_cell (j := 2) gf
  have qq3 := blk_cell (j := 3) gf
  have qq4 := blk_cell (j := 4) gf
  refine bodyPost_ret (v := .tuple #[.pointer none, .agg #[.int .i64 0, .bool false, .int .i64 0, .int .i64 0, .int .i64 0], .int .i64 6]) (by simp [results, Tryz.results32, go_sem, qq0, qq1, qq2, qq3, qq4]) rfl ⟨rfl, sf⟩
set_option maxHeartbeats 1000000 in
set_option maxRecDepth 100000 in
theorem ni_Orphan (k : Int) (w : World) : Calls Tryz.prog 33 #[.pointer none, .int .i64 k] w fun e w' => e = .returned (.tuple #[.pointer none, .int .i64 6]) ∧ Same w w' := by
  have HV := hidden (fun W => ni_Get k W)
  go_enter Tryz.func33, Tryz.ntmps33
  go_wp2_with (go_at_call 27; refine (HV.out _).mono ?_; rintro e w1 ⟨rfl, q1⟩; have K1 := hidden q1; clear q1)
  go_returns
  exact ⟨rfl, by repeat (first | exact Kept.refl _ _ | exact K1.out | refine Kept.alloc ?_ _)⟩
set_option maxHeartbeats 1000000 in
set_option maxRecDepth 100000 in
theorem ni_readable (w : World) : Calls Tryz.prog 89 #[.pointer none] w fun e w' => e = .returned (.int .i64 6) ∧ Same w w' := by
  have HV := hidden (fun W => nil_Count W)
  go_enter Tryz.func89, Tryz.ntmps89
  go_wp2_with (go_at_call 11; refine (HV.out _).mono ?_; rintro e w1 ⟨rfl, q1⟩; have K1 := hidden q1; clear q1)
  go_returns
  exact ⟨rfl, by repeat (first | exact Kept.refl _ _ | exact K1.out | refine Kept.alloc ?_ _)⟩
set_option maxHeartbeats 1000000 in
set_option maxRecDepth 100000 in
theorem ni_Counters (w : World) : Calls Tryz.prog 36 #[.pointer none] w fun e w' => e = .returned (.tuple #[.int .i64 0, .int .i64 0, .int .i64 0, .int .i64 6]) ∧ Same w w' := by
  go_enter Tryz.func36, Tryz.ntmps36
  go_wp2
  go_returns
  exact ⟨rfl, by repeat (first | exact Kept.refl _ _ | exact K1.out | refine Kept.alloc ?_ _)⟩
set_option maxHeartbeats 1000000 in
set_option maxRecDepth 100000 in
theorem ni_SetCounters (a b c : Int) (w : World) : Calls Tryz.prog 37 #[.pointer none, .int .i64 a, .int .i64 b, .int .i64 c] w fun e w' => e = .returned (.tuple #[.pointer none, .int .i64 6]) ∧ Same w w' := by
  go_enter Tryz.func37, Tryz.ntmps37
  go_wp2
  go_returns
  exact ⟨rfl, by repeat (first | exact Kept.refl _ _ | exact K1.out | refine Kept.alloc ?_ _)⟩
set_option maxHeartbeats 1000000 in
set_option maxRecDepth 100000 in
theorem ni_Orphans (w : World) : Calls Tryz.prog 35 #[.pointer none] w fun e w' => e = .returned (.tuple #[.slice none 0 0, .int .i64 6]) ∧ Same w w' := by
  have HV := hidden (fun W => ni_readable W)
  have K0 : Hid (Same w ((w.alloc (.cells #[.slice none 0 0] 35)).alloc (.cells #[.int .i64 0] 24))) := hidden (((Kept.refl _ w).alloc _).alloc _)
  have A0 : Hid (((w.alloc (.cells #[.slice none 0 0] 35)).alloc (.cells #[.int .i64 0] 24)).heap[w.heap.size]? = some (.cells #[.slice none 0 0] 35 (0, 0))) := hidden (blk_alloc (blk_new _ _) _)
  have B0 : Hid (((w.alloc (.cells #[.slice none 0 0] 35)).alloc (.cells #[.int .i64 0] 24)).heap[w.heap.size + 1]? = some (.cells #[.int .i64 0] 24 (0, 0))) := hidden (by have := blk_new (w.alloc (.cells #[.slice none 0 0] 35)) (.cells #[.int .i64 0] 24); simpa using this)
  go_enter Tryz.func35, Tryz.ntmps35
  go_wp2_with (go_at_call 89; refine (HV.out _).mono ?_; rintro e w1 ⟨rfl, q1⟩; have K1 := hidden (K0.out.trans q1); have A1 := hidden (blk_kept q1 (fun h => h) A0.out); have B1 := hidden (blk_kept q1 (fun h => h) B0.out); have a0 := blk_cell (j := 0) A1.out; have a1 := blk_free (j := 0) A1.out; have b0 := blk_cell (j := 0) B1.out; have b1 := blk_free (j := 0) B1.out; clear q1)
  have s1 := blk_set (j := 0) A1.out (.slice none 0 0)
  have s2 : ((w1.setCell ⟨w.heap.size, 0, none⟩ (.slice none 0 0)).setCell ⟨w.heap.size + 1, 0, none⟩ (.int .i64 6)).heap[w.heap.size]? = some (.cells #[.slice none 0 0] 35 (0, 0)) := blk_kept ((Kept.refl (only (w.heap.size + 1)) _).setCell (p := ⟨w.heap.size + 1, 0, none⟩) rfl _) (fun (e : w.heap.size = w.heap.size + 1) => by omega) s1
  have s3 : ((w1.setCell ⟨w.heap.size, 0, none⟩ (.slice none 0 0)).setCell ⟨w.heap.size + 1, 0, none⟩ (.int .i64 6)).heap[w.heap.size + 1]? = some (.cells #[.int .i64 6] 24 (0, 0)) := blk_set (blk_kept ((Kept.refl (only w.heap.size) _).setCell (p := ⟨w.heap.size, 0, none⟩) rfl _) (fun (e : w.heap.size + 1 = w.heap.size) => by omega) B1.out) _
  have sf : Same w ((w1.setCell ⟨w.heap.size, 0, none⟩ (.slice none 0 0)).setCell ⟨w.heap.size + 1, 0, none⟩ (.int .i64 6)) := (K1.out.setNew (p := ⟨w.heap.size, 0, none⟩) (Nat.le_refl _) _).setNew (p := ⟨w.heap.size + 1, 0, none⟩) (Nat.le_succ _) _
  generalize ((w1.setCell ⟨w.heap.size, 0, none⟩ (.slice none 0 0)).setCell ⟨w.heap.size + 1, 0, none⟩ (.int .i64 6)) = WF at s2 s3 sf ⊢
  have q0 := blk_cell (j := 0) s2
  have q1 := blk_cell (j := 0) s3
  refine bodyPost_ret (v := .tuple #[.slice none 0 0, .int .i64 6]) (by simp [results, Tryz.results35, go_sem, q0, q1]) rfl ⟨rfl, sf⟩
set_option maxHeartbeats 1000000 in
set_option maxRecDepth 100000 in
theorem ni_Right (w : World) : Calls Tryz.prog 39 #[.pointer none] w fun e w' => e = .returned (.int .i64 6) ∧ Same w w' := by
  have HV := hidden (fun W => ni_readable W)
  have K0 : Hid (Same w ((w.alloc (.cells #[.pointer none] 22)).alloc (.cells #[.int .i64 0] 24))) := hidden (((Kept.refl _ w).alloc _).alloc _)
  have B0 : Hid (((w.alloc (.cells #[.pointer none] 22)).alloc (.cells #[.int .i64 0] 24)).heap[w.heap.size + 1]? = some (.cells #[.int .i64 0] 24 (0, 0))) := hidden (by have := blk_new (w.alloc (.cells #[.pointer none] 22)) (.cells #[.int .i64 0] 24); simpa using this)
  go_enter Tryz.func39, Tryz.ntmps39
  go_wp2_with (go_at_call 89; refine (HV.out _).mono ?_; rintro e w1 ⟨rfl, q1⟩; have K1 := hidden (K0.out.trans q1); have B1 := hidden (blk_kept q1 (fun h => h) B0.out); have b0 := blk_cell (j := 0) B1.out; have b1 := blk_free (j := 0) B1.out; clear q1)
  have s3 := blk_set (j := 0) B1.out (.int .i64 6)
  have sf : Same w (w1.setCell ⟨w.heap.size + 1, 0, none⟩ (.int .i64 6)) := K1.out.setNew (p := ⟨w.heap.size + 1, 0, none⟩) (Nat.le_succ _) _
  generalize (w1.setCell ⟨w.heap.size + 1, 0, none⟩ (.int .i64 6)) = WF at s3 sf ⊢
  have q1 : WF.cell? ⟨w.heap.size + 1, 0, none⟩ = some (.int .i64 6) := blk_cell s3
  refine bodyPost_ret (v := .int .i64 6) (by simp [results, Tryz.results39, go_sem, q1]) rfl ⟨rfl, sf⟩
theorem cellsIi : Tryz.prog.cellsOf 3 = 1 := by kernel_rfl
theorem cellsBi : Tryz.prog.cellsOf 4 = 1 := by kernel_rfl
theorem cellsNi : Tryz.prog.cellsOf 62 = 5 := by kernel_rfl
theorem cellsOi : Tryz.prog.cellsOf 64 = 10 := by kernel_rfl
theorem arr10 {cs : Array Value} (h : cs.size = 10) : ∃ c0 c1 c2 c3 c4 c5 c6 c7 c8 c9, cs = #[c0, c1, c2, c3, c4, c5, c6, c7, c8, c9] := by
  obtain ⟨l⟩ := cs
  match l, h with
  | [c0, c1, c2, c3, c4, c5, c6, c7, c8, c9], _ => exact ⟨c0, c1, c2, c3, c4, c5, c6, c7, c8, c9, rfl⟩
theorem some_len {α : Type} {l : List α} {n : Nat} (h : l.length = n) {i : Nat} (hi : i < n) : ∃ x, l[i]? = some x := ⟨_, List.getElem?_eq_getElem (by omega)⟩
section
variable {H : Type} {enc : TypeId × Value → H} {W : World} {base : Nat} {sp : Nat → Bool} {held : Bool}

theorem inode_trod {fuel : Nat} {c0 c1 c2 c3 c4 : Value} {x : DataW H × List MemPlace} (h : DataW.trod enc Tryz.prog W base sp held fuel 62 [c0, c1, c2, c3, c4] = some x) :
    ∃ (a : Int) (b : Bool) (c d e : Int), c0 = .int .i64 a ∧ c1 = .bool b ∧ c2 = .int .i64 c ∧ c3 = .int .i64 d ∧ c4 = .int .i64 e := by
  obtain ⟨xs, m, _, _, _, hlen, hf⟩ := DataW.trod_struct Tryz.underlying62 h
  obtain ⟨x0, e0⟩ := some_len hlen (i := 0) (by decide)
  have h0 : DataW.trod enc Tryz.prog W base sp held m 3 (List.take (Tryz.prog.cellsOf 3) (List.drop 0 [c0, c1, c2, c3, c4])) = some x0 := (hf 0 _ rfl).trans e0
  obtain ⟨x1, e1⟩ := some_len hlen (i := 1) (by decide)
  have h1 : DataW.trod enc Tryz.prog W base sp held m 4 (List.take (Tryz.prog.cellsOf 4) (List.drop 1 [c0, c1, c2, c3, c4])) = some x1 := (hf 1 _ rfl).trans e1
  obtain ⟨x2, e2⟩ := some_len hlen (i := 2) (by decide)
  have h2 : DataW.trod enc Tryz.prog W base sp held m 3 (List.take (Tryz.prog.cellsOf 3) (List.drop 2 [c0, c1, c2, c3, c4])) = some x2 := (hf 2 _ rfl).trans e2
  obtain ⟨x3, e3⟩ := some_len hlen (i := 3) (by decide)
  have h3 : DataW.trod enc Tryz.prog W base sp held m 3 (List.take (Tryz.prog.cellsOf 3) (List.drop 3 [c0, c1, c2, c3, c4])) = some x3 := (hf 3 _ rfl).trans e3
  obtain ⟨x4, e4⟩ := some_len hlen (i := 4) (by decide)
  have h4 : DataW.trod enc Tryz.prog W base sp held m 3 (List.take (Tryz.prog.cellsOf 3) (List.drop 4 [c0, c1, c2, c3, c4])) = some x4 := (hf 4 _ rfl).trans e4
  clear hf e0 h
  rw [cellsIi] at h0
  obtain ⟨a, q0, _, _⟩ := DataW.trod_int Tryz.underlying3 h0
  simp at q0
  rw [cellsBi] at h1
  obtain ⟨b, q1, _⟩ := DataW.trod_bool Tryz.underlying4 h1
  simp at q1
  rw [cellsIi] at h2
  obtain ⟨c, q2, _, _⟩ := DataW.trod_int Tryz.underlying3 h2
  simp at q2
  rw [cellsIi] at h3
  obtain ⟨d, q3, _, _⟩ := DataW.trod_int Tryz.underlying3 h3
  simp at q3
  rw [cellsIi] at h4
  obtain ⟨e, q4, _, _⟩ := DataW.trod_int Tryz.underlying3 h4
  simp at q4
  exact ⟨a, b, c, d, e, q0, q1, q2, q3, q4⟩

theorem iop_trod {fuel : Nat} {c0 c1 c2 c3 c4 c5 c6 c7 c8 c9 : Value} {x : DataW H × List MemPlace} (h : DataW.trod enc Tryz.prog W base sp held fuel 64 [c0, c1, c2, c3, c4, c5, c6, c7, c8, c9] = some x) :
    ∃ (kd nn bb tt : Int) (dd : Bool) (a : Int) (b : Bool) (c d e : Int), c0 = .int .i64 kd ∧ c1 = .int .i64 nn ∧ c2 = .int .i64 bb ∧ c3 = .int .i64 tt ∧ c4 = .bool dd ∧ c5 = .int .i64 a ∧ c6 = .bool b ∧ c7 = .int .i64 c ∧ c8 = .int .i64 d ∧ c9 = .int .i64 e := by
  obtain ⟨xs, m, _, _, _, hlen, hf⟩ := DataW.trod_struct Tryz.underlying64 h
  obtain ⟨x0, e0⟩ := some_len hlen (i := 0) (by decide)
  have h0 : DataW.trod enc Tryz.prog W base sp held m 3 (List.take (Tryz.prog.cellsOf 3) (List.drop 0 [c0, c1, c2, c3, c4, c5, c6, c7, c8, c9])) = some x0 := (hf 0 _ rfl).trans e0
  obtain ⟨x1, e1⟩ := some_len hlen (i := 1) (by decide)
  have h1 : DataW.trod enc Tryz.prog W base sp held m 3 (List.take (Tryz.prog.cellsOf 3) (List.drop 1 [c0, c1, c2, c3, c4, c5, c6, c7, c8, c9])) = some x1 := (hf 1 _ rfl).trans e1
  obtain ⟨x2, e2⟩ := some_len hlen (i := 2) (by decide)
  have h2 : DataW.trod enc Tryz.prog W base sp held m 3 (List.take (Tryz.prog.cellsOf 3) (List.drop 2 [c0, c1, c2, c3, c4, c5, c6, c7, c8, c9])) = some x2 := (hf 2 _ rfl).trans e2
  obtain ⟨x3, e3⟩ := some_len hlen (i := 3) (by decide)
  have h3 : DataW.trod enc Tryz.prog W base sp held m 3 (List.take (Tryz.prog.cellsOf 3) (List.drop 3 [c0, c1, c2, c3, c4, c5, c6, c7, c8, c9])) = some x3 := (hf 3 _ rfl).trans e3
  obtain ⟨x4, e4⟩ := some_len hlen (i := 4) (by decide)
  have h4 : DataW.trod enc Tryz.prog W base sp held m 4 (List.take (Tryz.prog.cellsOf 4) (List.drop 4 [c0, c1, c2, c3, c4, c5, c6, c7, c8, c9])) = some x4 := (hf 4 _ rfl).trans e4
  obtain ⟨x5, e5⟩ := some_len hlen (i := 5) (by decide)
  have h5 : DataW.trod enc Tryz.prog W base sp held m 62 (List.take (Tryz.prog.cellsOf 62) (List.drop 5 [c0, c1, c2, c3, c4, c5, c6, c7, c8, c9])) = some x5 := (hf 5 _ rfl).trans e5
  clear hf e0 h
  rw [cellsIi] at h0
  obtain ⟨kd, q0, _, _⟩ := DataW.trod_int Tryz.underlying3 h0
  simp at q0
  rw [cellsIi] at h1
  obtain ⟨nn, q1, _, _⟩ := DataW.trod_int Tryz.underlying3 h1
  simp at q1
  rw [cellsIi] at h2
  obtain ⟨bb, q2, _, _⟩ := DataW.trod_int Tryz.underlying3 h2
  simp at q2
  rw [cellsIi] at h3
  obtain ⟨tt, q3, _, _⟩ := DataW.trod_int Tryz.underlying3 h3
  simp at q3
  rw [cellsBi] at h4
  obtain ⟨dd, q4, _⟩ := DataW.trod_bool Tryz.underlying4 h4
  simp at q4
  rw [cellsNi] at h5
  obtain ⟨a, b, c, d, e, p0, p1, p2, p3, p4⟩ := inode_trod (show DataW.trod enc Tryz.prog W base sp held m 62 [c5, c6, c7, c8, c9] = some x5 from h5)
  exact ⟨kd, nn, bb, tt, dd, a, b, c, d, e, q0, q1, q2, q3, q4, p0, p1, p2, p3, p4⟩

set_option maxRecDepth 100000 in
theorem iop_open {r : Reach} {b0 : Nat} {v : Value} {d : DataW H} {p : List MemPlace} (hv : Value.okWide Tryz.prog W r b0 64 v) (h : DataW.Trod enc Tryz.prog W base sp held 64 v d p) :
    ∃ (kd nn bb tt : Int) (dd : Bool) (a : Int) (b : Bool) (c d e : Int), v = .agg #[.int .i64 kd, .int .i64 nn, .int .i64 bb, .int .i64 tt, .bool dd, .int .i64 a, .bool b, .int .i64 c, .int .i64 d, .int .i64 e] := by
  obtain ⟨cs, rfl, hsz⟩ := okWide_struct Tryz.underlying64 hv
  obtain ⟨c0, c1, c2, c3, c4, c5, c6, c7, c8, c9, rfl⟩ := arr10 (hsz.trans cellsOi)
  obtain ⟨fuel, hf⟩ := h
  obtain ⟨kd, nn, bb, tt, dd, a, b, c, d, e, rfl, rfl, rfl, rfl, rfl, rfl, rfl, rfl, rfl, rfl⟩ := iop_trod hf
  exact ⟨kd, nn, bb, tt, dd, a, b, c, d, e, rfl⟩
end
end Go.Proofs.YtmlibjohhgpniaaGreatDoor
