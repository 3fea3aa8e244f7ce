/- The document's DecodeSuper, walked. -/
import Derived.Test.YtlilgfcacoooaaaDoorLay9
import Derived.StillTailTactics
import Derived.Deep.CutRange
import Derived.Deep.QuietTactic
namespace Go.Proofs.YtlilgfcacoooaaaDoor
open Go.RowKit
set_option linter.unusedVariables false
attribute [local go_sem ↓] Go.wp_at_zero Go.wp_at_succ

theorem infoInt : (Tryd.prog.info? 3).map (fun i => (i.zero, i.size, i.bytes)) = some (some (.int .i64 0), 1, 8) := by kernel_rfl
/-- make([]int, 8). -/
theorem make_ints (W : World) :
    (Instr.makeSlice 93 (.int .i64 8) (.int .i64 8)).run Tryd.prog W = .ok (.slice (some ⟨W.heap.size, 0, none⟩) 8 8) (W.alloc (.cells #[.int .i64 0, .int .i64 0, .int .i64 0, .int .i64 0, .int .i64 0, .int .i64 0, .int .i64 0, .int .i64 0] 3)) := by
  obtain ⟨i0, hi, hz0, hz1, hz2⟩ := info_parts infoInt
  have h := run_make (P := Tryd.prog) W 93 3 i0 (.int .i64 0) Tryd.underlying93 hi hz0 .i64 .i64 8 8 (by omega) (by omega) (by rw [hz2]; decide) (by decide)
  have hM : madeCells (Value.int .i64 0).cells ((8 : Int).toNat * i0.size) = #[.int .i64 0, .int .i64 0, .int .i64 0, .int .i64 0, .int .i64 0, .int .i64 0, .int .i64 0, .int .i64 0] := by
    rw [hz1]
    apply Array.ext'
    exact toList_madeCells_one _ _
  rw [hM] at h
  exact h
/-- Eight numbers, the first k of which are laid. -/
def laidI (f : Nat → Nat) (k : Nat) : Array Value := ((List.range 8).map fun j => Value.int .i64 (if j < k then (f j : Int) else 0)).toArray
theorem laidI_set (f : Nat → Nat) (k : Nat) (h : k < 8) : (laidI f k).setIfInBounds k (.int .i64 (f k)) = laidI f (k + 1) := by
  have hk : k = 0 ∨ k = 1 ∨ k = 2 ∨ k = 3 ∨ k = 4 ∨ k = 5 ∨ k = 6 ∨ k = 7 := by omega
  rcases hk with rfl | rfl | rfl | rfl | rfl | rfl | rfl | rfl <;> rfl
theorem laidI_get (f : Nat → Nat) (k j : Nat) (h : j < 8) : (laidI f k)[j]? = some (.int .i64 (if j < k then (f j : Int) else 0)) := by
  unfold laidI
  simp [h]
theorem fld_in (s : ByteArray) (n k : Nat) (h : n + k ≤ s.size) : fld s n k = num ((s.data.toList.drop n).take k) := if_pos h
theorem refRead_fld (s : ByteArray) (n k : Nat) (w : World) (hk : k ≤ 8) (h : n + k ≤ s.size) : Calls Tryd.prog 65 #[.string (s.extract n (n + k))] w fun e w' => e = .returned (.int .u64 (fld s n k : Nat)) ∧ w' = w := by
  rw [fld_in s n k h]
  exact refRead_at s n k w hk
set_option maxHeartbeats 4000000 in
set_option maxRecDepth 100000 in
theorem refDec_unf (v : Value) (l : List UInt8) (w : World) (hb : Byt w v l) (hl : l.length ≤ 281474976710656) (u0 u2 : Nat) (body : ByteArray) (u3 : Int) (hu : unf ⟨l.toArray⟩ = (u0, body, u2, u3)) (hbad : u3 ≠ 0 ∨ u3 = 0 ∧ u0 ≠ 83 ∨ u3 = 0 ∧ u0 = 83 ∧ body.size ≠ 51) :
    Calls Tryd.prog 29 #[v] w (NoSuper w) := by
  have ht := fun o => (hb.same (same_alloc w o)).text
  have hf := fun w => refUnframe_any ⟨l.toArray⟩ w (by rw [ba_size]; exact hl)
  rw [hu] at hf
  have hbl := unf_body_le ⟨l.toArray⟩
  rw [ba_size, hu] at hbl
  have HF := hidden hf
  simp only [UnfEnd] at HF hbl
  have hbs : body.size ≤ 281474976710656 := Nat.le_trans hbl hl
  clear hf hb hu hbl
  rcases hbad with h | ⟨rfl, h⟩ | ⟨rfl, rfl, h⟩
  · have hub : (u3 != 0) = true := by simpa using h
    go_enter Tryd.func29, Tryd.ntmps29
    go_wp2_with (go_at_call 64; refine (HF.out _).mono ?_; rintro e w1 ⟨rfl, k1⟩; have rb := blk_kept k1 (fun h => h) (blk_new w _); have z0 : w1.cell? ⟨w.heap.size, 0, none⟩ = some (.int .u64 0) := blk_cell rb; have z1 : w1.cell? ⟨w.heap.size, 1, none⟩ = some (.int .i64 0) := blk_cell rb; have z2 : w1.cell? ⟨w.heap.size, 2, none⟩ = some (.int .i64 0) := blk_cell rb; have z3 : w1.cell? ⟨w.heap.size, 3, none⟩ = some (.int .i64 0) := blk_cell rb; have z4 : w1.cell? ⟨w.heap.size, 4, none⟩ = some (.int .i64 0) := blk_cell rb; have z5 : w1.cell? ⟨w.heap.size, 5, none⟩ = some (.int .i64 0) := blk_cell rb; have z6 : w1.cell? ⟨w.heap.size, 6, none⟩ = some (.int .i64 0) := blk_cell rb; have z7 : w1.cell? ⟨w.heap.size, 7, none⟩ = some (.int .i64 0) := blk_cell rb; have z8 : w1.cell? ⟨w.heap.size, 8, none⟩ = some (.int .i64 0) := blk_cell rb; have z9 : w1.cell? ⟨w.heap.size, 9, none⟩ = some (.int .u64 0) := blk_cell rb; have z10 : w1.cell? ⟨w.heap.size, 10, none⟩ = some (.int .i64 0) := blk_cell rb; have z11 : w1.cell? ⟨w.heap.size, 11, none⟩ = some (.bool false) := blk_cell rb; have y0 : w1.frozen? ⟨w.heap.size, 0, none⟩ = false := blk_free rb; have y1 : w1.frozen? ⟨w.heap.size, 1, none⟩ = false := blk_free rb; have y2 : w1.frozen? ⟨w.heap.size, 2, none⟩ = false := blk_free rb; have y3 : w1.frozen? ⟨w.heap.size, 3, none⟩ = false := blk_free rb; have y4 : w1.frozen? ⟨w.heap.size, 4, none⟩ = false := blk_free rb; have y5 : w1.frozen? ⟨w.heap.size, 5, none⟩ = false := blk_free rb; have y6 : w1.frozen? ⟨w.heap.size, 6, none⟩ = false := blk_free rb; have y7 : w1.frozen? ⟨w.heap.size, 7, none⟩ = false := blk_free rb; have y8 : w1.frozen? ⟨w.heap.size, 8, none⟩ = false := blk_free rb; have y9 : w1.frozen? ⟨w.heap.size, 9, none⟩ = false := blk_free rb; have y10 : w1.frozen? ⟨w.heap.size, 10, none⟩ = false := blk_free rb; have y11 : w1.frozen? ⟨w.heap.size, 11, none⟩ = false := blk_free rb; have RB := hidden rb; clear rb)
    have K1 : Same w w1 := Kept.trans (same_alloc _ _) k1
    have xf := fill12 RB.out (.int .u64 0) (.int .i64 0) (.int .i64 0) (.int .i64 0) (.int .i64 0) (.int .i64 0) (.int .i64 0) (.int .i64 0) (.int .i64 0) (.int .u64 0) (.int .i64 0) (.bool false)
    have Kf := same12 K1 (Nat.le_refl _) (.int .u64 0) (.int .i64 0) (.int .i64 0) (.int .i64 0) (.int .i64 0) (.int .i64 0) (.int .i64 0) (.int .i64 0) (.int .i64 0) (.int .u64 0) (.int .i64 0) (.bool false)
    generalize (World.setCell (World.setCell (World.setCell (World.setCell (World.setCell (World.setCell (World.setCell (World.setCell (World.setCell (World.setCell (World.setCell (World.setCell w1 ⟨w.heap.size, 0, none⟩ (.int .u64 0)) ⟨w.heap.size, 1, none⟩ (.int .i64 0)) ⟨w.heap.size, 2, none⟩ (.int .i64 0)) ⟨w.heap.size, 3, none⟩ (.int .i64 0)) ⟨w.heap.size, 4, none⟩ (.int .i64 0)) ⟨w.heap.size, 5, none⟩ (.int .i64 0)) ⟨w.heap.size, 6, none⟩ (.int .i64 0)) ⟨w.heap.size, 7, none⟩ (.int .i64 0)) ⟨w.heap.size, 8, none⟩ (.int .i64 0)) ⟨w.heap.size, 9, none⟩ (.int .u64 0)) ⟨w.heap.size, 10, none⟩ (.int .i64 0)) ⟨w.heap.size, 11, none⟩ (.bool false)) = V at xf Kf ⊢
    have u0 : V.cell? ⟨w.heap.size, 0, none⟩ = some (.int .u64 0) := blk_cell xf
    have u1 : V.cell? ⟨w.heap.size, 1, none⟩ = some (.int .i64 0) := blk_cell xf
    have u2 : V.cell? ⟨w.heap.size, 2, none⟩ = some (.int .i64 0) := blk_cell xf
    have u3 : V.cell? ⟨w.heap.size, 3, none⟩ = some (.int .i64 0) := blk_cell xf
    have u4 : V.cell? ⟨w.heap.size, 4, none⟩ = some (.int .i64 0) := blk_cell xf
    have u5 : V.cell? ⟨w.heap.size, 5, none⟩ = some (.int .i64 0) := blk_cell xf
    have u6 : V.cell? ⟨w.heap.size, 6, none⟩ = some (.int .i64 0) := blk_cell xf
    have u7 : V.cell? ⟨w.heap.size, 7, none⟩ = some (.int .i64 0) := blk_cell xf
    have u8 : V.cell? ⟨w.heap.size, 8, none⟩ = some (.int .i64 0) := blk_cell xf
    have u9 : V.cell? ⟨w.heap.size, 9, none⟩ = some (.int .u64 0) := blk_cell xf
    have u10 : V.cell? ⟨w.heap.size, 10, none⟩ = some (.int .i64 0) := blk_cell xf
    have u11 : V.cell? ⟨w.heap.size, 11, none⟩ = some (.bool false) := blk_cell xf
    exact bodyPost_ret (v := .tuple #[.agg #[.int .u64 0, .int .i64 0, .int .i64 0, .int .i64 0, .int .i64 0, .int .i64 0, .int .i64 0, .int .i64 0, .int .i64 0, .int .u64 0, .int .i64 0, .bool false], .int .i64 40]) (by simp [results, Tryd.results29, go_sem, u0, u1, u2, u3, u4, u5, u6, u7, u8, u9, u10, u11]) rfl ⟨rfl, Kf⟩
  · have hub : ((u0 : Int) != 83) = true := by simpa using (show ¬ (u0 : Int) = 83 by omega)
    go_enter Tryd.func29, Tryd.ntmps29
    go_wp2_with (go_at_call 64; refine (HF.out _).mono ?_; rintro e w1 ⟨rfl, k1⟩; have rb := blk_kept k1 (fun h => h) (blk_new w _); have z0 : w1.cell? ⟨w.heap.size, 0, none⟩ = some (.int .u64 0) := blk_cell rb; have z1 : w1.cell? ⟨w.heap.size, 1, none⟩ = some (.int .i64 0) := blk_cell rb; have z2 : w1.cell? ⟨w.heap.size, 2, none⟩ = some (.int .i64 0) := blk_cell rb; have z3 : w1.cell? ⟨w.heap.size, 3, none⟩ = some (.int .i64 0) := blk_cell rb; have z4 : w1.cell? ⟨w.heap.size, 4, none⟩ = some (.int .i64 0) := blk_cell rb; have z5 : w1.cell? ⟨w.heap.size, 5, none⟩ = some (.int .i64 0) := blk_cell rb; have z6 : w1.cell? ⟨w.heap.size, 6, none⟩ = some (.int .i64 0) := blk_cell rb; have z7 : w1.cell? ⟨w.heap.size, 7, none⟩ = some (.int .i64 0) := blk_cell rb; have z8 : w1.cell? ⟨w.heap.size, 8, none⟩ = some (.int .i64 0) := blk_cell rb; have z9 : w1.cell? ⟨w.heap.size, 9, none⟩ = some (.int .u64 0) := blk_cell rb; have z10 : w1.cell? ⟨w.heap.size, 10, none⟩ = some (.int .i64 0) := blk_cell rb; have z11 : w1.cell? ⟨w.heap.size, 11, none⟩ = some (.bool false) := blk_cell rb; have y0 : w1.frozen? ⟨w.heap.size, 0, none⟩ = false := blk_free rb; have y1 : w1.frozen? ⟨w.heap.size, 1, none⟩ = false := blk_free rb; have y2 : w1.frozen? ⟨w.heap.size, 2, none⟩ = false := blk_free rb; have y3 : w1.frozen? ⟨w.heap.size, 3, none⟩ = false := blk_free rb; have y4 : w1.frozen? ⟨w.heap.size, 4, none⟩ = false := blk_free rb; have y5 : w1.frozen? ⟨w.heap.size, 5, none⟩ = false := blk_free rb; have y6 : w1.frozen? ⟨w.heap.size, 6, none⟩ = false := blk_free rb; have y7 : w1.frozen? ⟨w.heap.size, 7, none⟩ = false := blk_free rb; have y8 : w1.frozen? ⟨w.heap.size, 8, none⟩ = false := blk_free rb; have y9 : w1.frozen? ⟨w.heap.size, 9, none⟩ = false := blk_free rb; have y10 : w1.frozen? ⟨w.heap.size, 10, none⟩ = false := blk_free rb; have y11 : w1.frozen? ⟨w.heap.size, 11, none⟩ = false := blk_free rb; have RB := hidden rb; clear rb)
    have K1 : Same w w1 := Kept.trans (same_alloc _ _) k1
    have xf := fill12 RB.out (.int .u64 0) (.int .i64 0) (.int .i64 0) (.int .i64 0) (.int .i64 0) (.int .i64 0) (.int .i64 0) (.int .i64 0) (.int .i64 0) (.int .u64 0) (.int .i64 0) (.bool false)
    have Kf := same12 K1 (Nat.le_refl _) (.int .u64 0) (.int .i64 0) (.int .i64 0) (.int .i64 0) (.int .i64 0) (.int .i64 0) (.int .i64 0) (.int .i64 0) (.int .i64 0) (.int .u64 0) (.int .i64 0) (.bool false)
    generalize (World.setCell (World.setCell (World.setCell (World.setCell (World.setCell (World.setCell (World.setCell (World.setCell (World.setCell (World.setCell (World.setCell (World.setCell w1 ⟨w.heap.size, 0, none⟩ (.int .u64 0)) ⟨w.heap.size, 1, none⟩ (.int .i64 0)) ⟨w.heap.size, 2, none⟩ (.int .i64 0)) ⟨w.heap.size, 3, none⟩ (.int .i64 0)) ⟨w.heap.size, 4, none⟩ (.int .i64 0)) ⟨w.heap.size, 5, none⟩ (.int .i64 0)) ⟨w.heap.size, 6, none⟩ (.int .i64 0)) ⟨w.heap.size, 7, none⟩ (.int .i64 0)) ⟨w.heap.size, 8, none⟩ (.int .i64 0)) ⟨w.heap.size, 9, none⟩ (.int .u64 0)) ⟨w.heap.size, 10, none⟩ (.int .i64 0)) ⟨w.heap.size, 11, none⟩ (.bool false)) = V at xf Kf ⊢
    have u0 : V.cell? ⟨w.heap.size, 0, none⟩ = some (.int .u64 0) := blk_cell xf
    have u1 : V.cell? ⟨w.heap.size, 1, none⟩ = some (.int .i64 0) := blk_cell xf
    have u2 : V.cell? ⟨w.heap.size, 2, none⟩ = some (.int .i64 0) := blk_cell xf
    have u3 : V.cell? ⟨w.heap.size, 3, none⟩ = some (.int .i64 0) := blk_cell xf
    have u4 : V.cell? ⟨w.heap.size, 4, none⟩ = some (.int .i64 0) := blk_cell xf
    have u5 : V.cell? ⟨w.heap.size, 5, none⟩ = some (.int .i64 0) := blk_cell xf
    have u6 : V.cell? ⟨w.heap.size, 6, none⟩ = some (.int .i64 0) := blk_cell xf
    have u7 : V.cell? ⟨w.heap.size, 7, none⟩ = some (.int .i64 0) := blk_cell xf
    have u8 : V.cell? ⟨w.heap.size, 8, none⟩ = some (.int .i64 0) := blk_cell xf
    have u9 : V.cell? ⟨w.heap.size, 9, none⟩ = some (.int .u64 0) := blk_cell xf
    have u10 : V.cell? ⟨w.heap.size, 10, none⟩ = some (.int .i64 0) := blk_cell xf
    have u11 : V.cell? ⟨w.heap.size, 11, none⟩ = some (.bool false) := blk_cell xf
    exact bodyPost_ret (v := .tuple #[.agg #[.int .u64 0, .int .i64 0, .int .i64 0, .int .i64 0, .int .i64 0, .int .i64 0, .int .i64 0, .int .i64 0, .int .i64 0, .int .u64 0, .int .i64 0, .bool false], .int .i64 40]) (by simp [results, Tryd.results29, go_sem, u0, u1, u2, u3, u4, u5, u6, u7, u8, u9, u10, u11]) rfl ⟨rfl, Kf⟩
  · have hub : ((body.size : Int) != 51) = true := by simpa using (show ¬ (body.size : Int) = 51 by omega)
    go_enter Tryd.func29, Tryd.ntmps29
    go_wp2_with (go_at_call 64; refine (HF.out _).mono ?_; rintro e w1 ⟨rfl, k1⟩; have rb := blk_kept k1 (fun h => h) (blk_new w _); have z0 : w1.cell? ⟨w.heap.size, 0, none⟩ = some (.int .u64 0) := blk_cell rb; have z1 : w1.cell? ⟨w.heap.size, 1, none⟩ = some (.int .i64 0) := blk_cell rb; have z2 : w1.cell? ⟨w.heap.size, 2, none⟩ = some (.int .i64 0) := blk_cell rb; have z3 : w1.cell? ⟨w.heap.size, 3, none⟩ = some (.int .i64 0) := blk_cell rb; have z4 : w1.cell? ⟨w.heap.size, 4, none⟩ = some (.int .i64 0) := blk_cell rb; have z5 : w1.cell? ⟨w.heap.size, 5, none⟩ = some (.int .i64 0) := blk_cell rb; have z6 : w1.cell? ⟨w.heap.size, 6, none⟩ = some (.int .i64 0) := blk_cell rb; have z7 : w1.cell? ⟨w.heap.size, 7, none⟩ = some (.int .i64 0) := blk_cell rb; have z8 : w1.cell? ⟨w.heap.size, 8, none⟩ = some (.int .i64 0) := blk_cell rb; have z9 : w1.cell? ⟨w.heap.size, 9, none⟩ = some (.int .u64 0) := blk_cell rb; have z10 : w1.cell? ⟨w.heap.size, 10, none⟩ = some (.int .i64 0) := blk_cell rb; have z11 : w1.cell? ⟨w.heap.size, 11, none⟩ = some (.bool false) := blk_cell rb; have y0 : w1.frozen? ⟨w.heap.size, 0, none⟩ = false := blk_free rb; have y1 : w1.frozen? ⟨w.heap.size, 1, none⟩ = false := blk_free rb; have y2 : w1.frozen? ⟨w.heap.size, 2, none⟩ = false := blk_free rb; have y3 : w1.frozen? ⟨w.heap.size, 3, none⟩ = false := blk_free rb; have y4 : w1.frozen? ⟨w.heap.size, 4, none⟩ = false := blk_free rb; have y5 : w1.frozen? ⟨w.heap.size, 5, none⟩ = false := blk_free rb; have y6 : w1.frozen? ⟨w.heap.size, 6, none⟩ = false := blk_free rb; have y7 : w1.frozen? ⟨w.heap.size, 7, none⟩ = false := blk_free rb; have y8 : w1.frozen? ⟨w.heap.size, 8, none⟩ = false := blk_free rb; have y9 : w1.frozen? ⟨w.heap.size, 9, none⟩ = false := blk_free rb; have y10 : w1.frozen? ⟨w.heap.size, 10, none⟩ = false := blk_free rb; have y11 : w1.frozen? ⟨w.heap.size, 11, none⟩ = false := blk_free rb; have RB := hidden rb; clear rb)
    have K1 : Same w w1 := Kept.trans (same_alloc _ _) k1
    have xf := fill12 RB.out (.int .u64 0) (.int .i64 0) (.int .i64 0) (.int .i64 0) (.int .i64 0) (.int .i64 0) (.int .i64 0) (.int .i64 0) (.int .i64 0) (.int .u64 0) (.int .i64 0) (.bool false)
    have Kf := same12 K1 (Nat.le_refl _) (.int .u64 0) (.int .i64 0) (.int .i64 0) (.int .i64 0) (.int .i64 0) (.int .i64 0) (.int .i64 0) (.int .i64 0) (.int .i64 0) (.int .u64 0) (.int .i64 0) (.bool false)
    generalize (World.setCell (World.setCell (World.setCell (World.setCell (World.setCell (World.setCell (World.setCell (World.setCell (World.setCell (World.setCell (World.setCell (World.setCell w1 ⟨w.heap.size, 0, none⟩ (.int .u64 0)) ⟨w.heap.size, 1, none⟩ (.int .i64 0)) ⟨w.heap.size, 2, none⟩ (.int .i64 0)) ⟨w.heap.size, 3, none⟩ (.int .i64 0)) ⟨w.heap.size, 4, none⟩ (.int .i64 0)) ⟨w.heap.size, 5, none⟩ (.int .i64 0)) ⟨w.heap.size, 6, none⟩ (.int .i64 0)) ⟨w.heap.size, 7, none⟩ (.int .i64 0)) ⟨w.heap.size, 8, none⟩ (.int .i64 0)) ⟨w.heap.size, 9, none⟩ (.int .u64 0)) ⟨w.heap.size, 10, none⟩ (.int .i64 0)) ⟨w.heap.size, 11, none⟩ (.bool false)) = V at xf Kf ⊢
    have u0 : V.cell? ⟨w.heap.size, 0, none⟩ = some (.int .u64 0) := blk_cell xf
    have u1 : V.cell? ⟨w.heap.size, 1, none⟩ = some (.int .i64 0) := blk_cell xf
    have u2 : V.cell? ⟨w.heap.size, 2, none⟩ = some (.int .i64 0) := blk_cell xf
    have u3 : V.cell? ⟨w.heap.size, 3, none⟩ = some (.int .i64 0) := blk_cell xf
    have u4 : V.cell? ⟨w.heap.size, 4, none⟩ = some (.int .i64 0) := blk_cell xf
    have u5 : V.cell? ⟨w.heap.size, 5, none⟩ = some (.int .i64 0) := blk_cell xf
    have u6 : V.cell? ⟨w.heap.size, 6, none⟩ = some (.int .i64 0) := blk_cell xf
    have u7 : V.cell? ⟨w.heap.size, 7, none⟩ = some (.int .i64 0) := blk_cell xf
    have u8 : V.cell? ⟨w.heap.size, 8, none⟩ = some (.int .i64 0) := blk_cell xf
    have u9 : V.cell? ⟨w.heap.size, 9, none⟩ = some (.int .u64 0) := blk_cell xf
    have u10 : V.cell? ⟨w.heap.size, 10, none⟩ = some (.int .i64 0) := blk_cell xf
    have u11 : V.cell? ⟨w.heap.size, 11, none⟩ = some (.bool false) := blk_cell xf
    exact bodyPost_ret (v := .tuple #[.agg #[.int .u64 0, .int .i64 0, .int .i64 0, .int .i64 0, .int .i64 0, .int .i64 0, .int .i64 0, .int .i64 0, .int .i64 0, .int .u64 0, .int .i64 0, .bool false], .int .i64 40]) (by simp [results, Tryd.results29, go_sem, u0, u1, u2, u3, u4, u5, u6, u7, u8, u9, u10, u11]) rfl ⟨rfl, Kf⟩
/-- Ten cells of a block of twelve, written anew. -/
theorem fill10 {W : World} {g : Nat} {t : TypeId} {z0 z1 z2 z3 z4 z5 z6 z7 z8 z9 z10 z11 : Value} (h : W.heap[g]? = some (.cells #[z0, z1, z2, z3, z4, z5, z6, z7, z8, z9, z10, z11] t (0, 0))) (v2 v3 v4 v5 v6 v7 v8 v9 v10 v11 : Value) :
    ((World.setCell (World.setCell (World.setCell (World.setCell (World.setCell (World.setCell (World.setCell (World.setCell (World.setCell (World.setCell W ⟨g, 2, none⟩ v2) ⟨g, 3, none⟩ v3) ⟨g, 4, none⟩ v4) ⟨g, 5, none⟩ v5) ⟨g, 6, none⟩ v6) ⟨g, 7, none⟩ v7) ⟨g, 8, none⟩ v8) ⟨g, 9, none⟩ v9) ⟨g, 10, none⟩ v10) ⟨g, 11, none⟩ v11)).heap[g]? = some (.cells #[z0, z1, v2, v3, v4, v5, v6, v7, v8, v9, v10, v11] t (0, 0)) := by
  have h1 : (World.setCell W ⟨g, 2, none⟩ v2).heap[g]? = some (.cells #[z0, z1, v2, z3, z4, z5, z6, z7, z8, z9, z10, z11] t (0, 0)) := blk_set h v2
  generalize World.setCell W ⟨g, 2, none⟩ v2 = W1 at h1 ⊢
  have h2 : (World.setCell W1 ⟨g, 3, none⟩ v3).heap[g]? = some (.cells #[z0, z1, v2, v3, z4, z5, z6, z7, z8, z9, z10, z11] t (0, 0)) := blk_set h1 v3
  generalize World.setCell W1 ⟨g, 3, none⟩ v3 = W2 at h2 ⊢
  have h3 : (World.setCell W2 ⟨g, 4, none⟩ v4).heap[g]? = some (.cells #[z0, z1, v2, v3, v4, z5, z6, z7, z8, z9, z10, z11] t (0, 0)) := blk_set h2 v4
  generalize World.setCell W2 ⟨g, 4, none⟩ v4 = W3 at h3 ⊢
  have h4 : (World.setCell W3 ⟨g, 5, none⟩ v5).heap[g]? = some (.cells #[z0, z1, v2, v3, v4, v5, z6, z7, z8, z9, z10, z11] t (0, 0)) := blk_set h3 v5
  generalize World.setCell W3 ⟨g, 5, none⟩ v5 = W4 at h4 ⊢
  have h5 : (World.setCell W4 ⟨g, 6, none⟩ v6).heap[g]? = some (.cells #[z0, z1, v2, v3, v4, v5, v6, z7, z8, z9, z10, z11] t (0, 0)) := blk_set h4 v6
  generalize World.setCell W4 ⟨g, 6, none⟩ v6 = W5 at h5 ⊢
  have h6 : (World.setCell W5 ⟨g, 7, none⟩ v7).heap[g]? = some (.cells #[z0, z1, v2, v3, v4, v5, v6, v7, z8, z9, z10, z11] t (0, 0)) := blk_set h5 v7
  generalize World.setCell W5 ⟨g, 7, none⟩ v7 = W6 at h6 ⊢
  have h7 : (World.setCell W6 ⟨g, 8, none⟩ v8).heap[g]? = some (.cells #[z0, z1, v2, v3, v4, v5, v6, v7, v8, z9, z10, z11] t (0, 0)) := blk_set h6 v8
  generalize World.setCell W6 ⟨g, 8, none⟩ v8 = W7 at h7 ⊢
  have h8 : (World.setCell W7 ⟨g, 9, none⟩ v9).heap[g]? = some (.cells #[z0, z1, v2, v3, v4, v5, v6, v7, v8, v9, z10, z11] t (0, 0)) := blk_set h7 v9
  generalize World.setCell W7 ⟨g, 9, none⟩ v9 = W8 at h8 ⊢
  have h9 : (World.setCell W8 ⟨g, 10, none⟩ v10).heap[g]? = some (.cells #[z0, z1, v2, v3, v4, v5, v6, v7, v8, v9, v10, z11] t (0, 0)) := blk_set h8 v10
  generalize World.setCell W8 ⟨g, 10, none⟩ v10 = W9 at h9 ⊢
  have h10 : (World.setCell W9 ⟨g, 11, none⟩ v11).heap[g]? = some (.cells #[z0, z1, v2, v3, v4, v5, v6, v7, v8, v9, v10, v11] t (0, 0)) := blk_set h9 v11
  exact h10
theorem same10 {w W : World} {g : Nat} (k : Same w W) (hg : w.heap.size ≤ g) (v2 v3 v4 v5 v6 v7 v8 v9 v10 v11 : Value) : Same w (World.setCell (World.setCell (World.setCell (World.setCell (World.setCell (World.setCell (World.setCell (World.setCell (World.setCell (World.setCell W ⟨g, 2, none⟩ v2) ⟨g, 3, none⟩ v3) ⟨g, 4, none⟩ v4) ⟨g, 5, none⟩ v5) ⟨g, 6, none⟩ v6) ⟨g, 7, none⟩ v7) ⟨g, 8, none⟩ v8) ⟨g, 9, none⟩ v9) ⟨g, 10, none⟩ v10) ⟨g, 11, none⟩ v11) := (Same.put (Same.put (Same.put (Same.put (Same.put (Same.put (Same.put (Same.put (Same.put (Same.put k hg) hg) hg) hg) hg) hg) hg) hg) hg) hg)
theorem off10 {W : World} {g b : Nat} {o : Obj} (h : W.heap[b]? = some o) (hne : g ≠ b) (v2 v3 v4 v5 v6 v7 v8 v9 v10 v11 : Value) : ((World.setCell (World.setCell (World.setCell (World.setCell (World.setCell (World.setCell (World.setCell (World.setCell (World.setCell (World.setCell W ⟨g, 2, none⟩ v2) ⟨g, 3, none⟩ v3) ⟨g, 4, none⟩ v4) ⟨g, 5, none⟩ v5) ⟨g, 6, none⟩ v6) ⟨g, 7, none⟩ v7) ⟨g, 8, none⟩ v8) ⟨g, 9, none⟩ v9) ⟨g, 10, none⟩ v10) ⟨g, 11, none⟩ v11)).heap[b]? = some o := (blk_off (blk_off (blk_off (blk_off (blk_off (blk_off (blk_off (blk_off (blk_off (blk_off h hne) hne) hne) hne) hne) hne) hne) hne) hne) hne)
set_option maxHeartbeats 8000000 in
set_option maxRecDepth 100000 in
theorem refDec_core (v : Value) (l l2 : List UInt8) (w : World) (hb : Byt w v l) (hl : l.length ≤ 281474976710656) (u2 : Nat) (body : ByteArray) (hu : unf ⟨l.toArray⟩ = (83, body, u2, 0)) (h51 : body.size = 51)
    (gen root sector sectors journal pack cmin cnorm cmax seed nbits : Nat) (dd : Bool)
    (e0 : fld body 0 8 = gen) (e1 : fld body 8 4 = root) (e2 : fld body 12 4 = sector) (e3 : fld body 16 4 = sectors) (e4 : fld body 20 4 = journal) (e5 : fld body 24 4 = pack) (e6 : fld body 28 4 = cmin) (e7 : fld body 32 4 = cnorm) (e8 : fld body 36 4 = cmax) (e9 : fld body 40 8 = seed) (e10 : fld body 48 2 = nbits) (e11 : ((fld body 50 1 : Int) == 1) = dd)
    (err : Int) (R : Value) (r : Int)
    (hE : ∀ w, Calls Tryd.prog 27 #[.agg #[.int .u64 gen, .int .i64 root, .int .i64 sector, .int .i64 sectors, .int .i64 journal, .int .i64 pack, .int .i64 cmin, .int .i64 cnorm, .int .i64 cmax, .int .u64 seed, .int .i64 nbits, .bool dd]] w fun e w' => ∃ v, e = .returned (.tuple #[v, .int .i64 err]) ∧ Byt w' v l2 ∧ Same w w')
    (hR : err ≠ 0 ∧ R = .agg #[.int .u64 0, .int .i64 0, .int .i64 0, .int .i64 0, .int .i64 0, .int .i64 0, .int .i64 0, .int .i64 0, .int .i64 0, .int .u64 0, .int .i64 0, .bool false] ∧ r = 40 ∨ err = 0 ∧ l2 ≠ l ∧ R = .agg #[.int .u64 0, .int .i64 0, .int .i64 0, .int .i64 0, .int .i64 0, .int .i64 0, .int .i64 0, .int .i64 0, .int .i64 0, .int .u64 0, .int .i64 0, .bool false] ∧ r = 40 ∨ err = 0 ∧ l2 = l ∧ R = .agg #[.int .u64 gen, .int .i64 root, .int .i64 sector, .int .i64 sectors, .int .i64 journal, .int .i64 pack, .int .i64 cmin, .int .i64 cnorm, .int .i64 cmax, .int .u64 seed, .int .i64 nbits, .bool dd] ∧ r = 0) :
    Calls Tryd.prog 29 #[v] w fun e w' => e = .returned (.tuple #[R, .int .i64 r]) ∧ Same w w' := by
  have ht := fun o => (hb.same (same_alloc w o)).text
  have hf := fun w => refUnframe_any ⟨l.toArray⟩ w (by rw [ba_size]; exact hl)
  rw [hu] at hf
  have HF := hidden hf
  simp only [UnfEnd] at HF
  have HB := hidden hb
  have HE := hidden hE
  have HR := hidden hR
  have hmk := make_ints
  have hbs : (body.size : Int) = 51 := by omega
  clear hf hb hu hE hR
  go_enter Tryd.func29, Tryd.ntmps29
  go_wp2_with (go_at_call 64; refine (HF.out _).mono ?_; rintro e w1 ⟨rfl, k1⟩)
  have rb := blk_kept k1 (fun h => h) (blk_new w _)
  have RB0 := hidden (blk_alloc rb (.cells #[.int .i64 0, .int .i64 0, .int .i64 0, .int .i64 0, .int .i64 0, .int .i64 0, .int .i64 0, .int .i64 0] 3))
  have N0 : Hid ((w1.alloc (.cells #[.int .i64 0, .int .i64 0, .int .i64 0, .int .i64 0, .int .i64 0, .int .i64 0, .int .i64 0, .int .i64 0] 3)).heap[w1.heap.size]? = some (.cells #[.int .i64 0, .int .i64 0, .int .i64 0, .int .i64 0, .int .i64 0, .int .i64 0, .int .i64 0, .int .i64 0] 3 (0, 0))) := hidden (blk_new w1 _)
  have K0 : Hid (Same w (w1.alloc (.cells #[.int .i64 0, .int .i64 0, .int .i64 0, .int .i64 0, .int .i64 0, .int .i64 0, .int .i64 0, .int .i64 0] 3))) := hidden (Kept.alloc (Kept.trans (same_alloc _ _) k1) _)
  have hwg : Hid (w.heap.size < w1.heap.size) := hidden (blk_lt rb)
  clear k1 rb
  generalize w1.alloc (.cells #[.int .i64 0, .int .i64 0, .int .i64 0, .int .i64 0, .int .i64 0, .int .i64 0, .int .i64 0, .int .i64 0] 3) = WI at RB0 N0 K0 ⊢
  generalize w1.heap.size = G at *
  obtain ⟨f, hf⟩ : ∃ f : Nat → Nat, f = fun j => fld body (8 + 4 * j) 4 := ⟨_, rfl⟩
  have hfl : ∀ j, f j < 4294967296 := fun j => by rw [hf]; exact fld_lt body (8 + 4 * j) 4
  have hrd : ∀ k w, k < 8 → Calls Tryd.prog 65 #[.string (body.extract (8 + 4 * k) (12 + 4 * k))] w fun e w' => e = .returned (.int .u64 (f k : Nat)) ∧ w' = w := fun k w hk => by
    have q := refRead_fld body (8 + 4 * k) 4 w (by decide) (by omega)
    rw [show 8 + 4 * k + 4 = 12 + 4 * k by omega] at q
    rw [hf]
    exact q
  have HRD := hidden hrd
  have HFL := hidden hfl
  have E8 : Hid (laidI f 8 = #[.int .i64 root, .int .i64 sector, .int .i64 sectors, .int .i64 journal, .int .i64 pack, .int .i64 cmin, .int .i64 cnorm, .int .i64 cmax]) := hidden (by
    subst e1 e2 e3 e4 e5 e6 e7 e8
    rw [hf]
    rfl)
  clear hrd hfl hf
  go_loopw [35] (fun i wr => ∃ k : Nat, k ≤ 8 ∧ i = .int .i64 k ∧ wr.heap[G]? = some (.cells (laidI f k) 3 (0, 0)) ∧ Kept (fun b => b = G) WI wr) (fun i _ => 8 - (intOf i).toNat)
  case atStart => exact ⟨0, Nat.zero_le _, rfl, N0.out, Kept.refl _ _⟩
  case round =>
    obtain ⟨k, hk, rfl, hN, hK⟩ := hrel
    by_cases hlt : k < 8
    · have q1 : wr.cell? ⟨G, k, none⟩ = some (.int .i64 0) := by
        rw [blk_cell hN, laidI_get f k k hlt, if_neg (Nat.lt_irrefl _)]
      have q2 : wr.frozen? ⟨G, k, none⟩ = false := blk_free hN
      have hx := HFL.out k
      have hxw : IntKind.i64.wrap (f k : Int) = (f k : Int) := by rw [IntKind.wrap_i64]; omega
      have HN := hidden hN
      have HK := hidden hK
      clear hN hK
      go_wp2_with (go_at_call 65; refine (HRD.out k _ hlt).mono ?_; rintro e w3 ⟨rfl, rfl⟩)
      go_roundw
      case rel => exact ⟨k + 1, by omega, by go_num, by rw [← laidI_set f k hlt]; exact blk_set HN.out _, HK.out.setCell rfl _⟩
      case measure => simp [intOf]; omega
    · obtain rfl : k = 8 := by omega
      rw [E8.out] at hN
      have rb := blk_kept hK (fun h => absurd (show _ = _ from h) (by have := hwg.out; omega)) RB0.out
      have K4 : Same w wr := K0.out.trans' hK fun i hi hs => by have : i = G := hs; have := hwg.out; omega
      clear hK hlt hk
      have n0 : wr.cell? ⟨G, 0, none⟩ = some (.int .i64 root) := blk_cell hN
      have n1 : wr.cell? ⟨G, 1, none⟩ = some (.int .i64 sector) := blk_cell hN
      have n2 : wr.cell? ⟨G, 2, none⟩ = some (.int .i64 sectors) := blk_cell hN
      have n3 : wr.cell? ⟨G, 3, none⟩ = some (.int .i64 journal) := blk_cell hN
      have n4 : wr.cell? ⟨G, 4, none⟩ = some (.int .i64 pack) := blk_cell hN
      have n5 : wr.cell? ⟨G, 5, none⟩ = some (.int .i64 cmin) := blk_cell hN
      have n6 : wr.cell? ⟨G, 6, none⟩ = some (.int .i64 cnorm) := blk_cell hN
      have n7 : wr.cell? ⟨G, 7, none⟩ = some (.int .i64 cmax) := blk_cell hN
      have n0A : ∀ o, (wr.alloc o).cell? ⟨G, 0, none⟩ = some (.int .i64 root) := fun o => blk_cell (blk_alloc hN o)
      have HN := hidden hN
      have RB := hidden rb
      have HK4 := hidden K4
      clear hN rb K4
      have rd8 : ∀ w, Calls Tryd.prog 65 #[.string (body.extract 0 8)] w fun e w' => e = .returned (.int .u64 (gen : Nat)) ∧ w' = w := fun w => by
        have q := refRead_fld body 0 8 w (by decide) (by omega)
        rw [e0] at q
        exact q
      have RD8 := hidden rd8
      clear rd8
      go_wp2
      go_cut [10] from 52 to 58 (fun s10 wx => s10 = .pointer (some ⟨wr.heap.size, 0, none⟩) ∧ wx = (wr.alloc (.cells #[.int .u64 gen, .int .i64 root, .int .i64 0, .int .i64 0, .int .i64 0, .int .i64 0, .int .i64 0, .int .i64 0, .int .i64 0, .int .u64 0, .int .i64 0, .bool false] 37)).drew)
      case first =>
        go_region_with (go_at_call 65; refine (RD8.out _).mono ?_; rintro e w3 ⟨rfl, rfl⟩)
        all_goals
          go_wp2_with fail
          go_meet
          case rel => exact ⟨rfl, rfl⟩
      case rest =>
        obtain ⟨rfl, rfl⟩ := hcut
        have hN2 := blk_alloc HN.out (.cells #[.int .u64 gen, .int .i64 root, .int .i64 0, .int .i64 0, .int .i64 0, .int .i64 0, .int .i64 0, .int .i64 0, .int .i64 0, .int .u64 0, .int .i64 0, .bool false] 37)
        have rb2 := blk_alloc RB.out (.cells #[.int .u64 gen, .int .i64 root, .int .i64 0, .int .i64 0, .int .i64 0, .int .i64 0, .int .i64 0, .int .i64 0, .int .i64 0, .int .u64 0, .int .i64 0, .bool false] 37)
        have xb2 := blk_new wr (.cells #[.int .u64 gen, .int .i64 root, .int .i64 0, .int .i64 0, .int .i64 0, .int .i64 0, .int .i64 0, .int .i64 0, .int .i64 0, .int .u64 0, .int .i64 0, .bool false] 37)
        have K5 : Same w (wr.alloc (.cells #[.int .u64 gen, .int .i64 root, .int .i64 0, .int .i64 0, .int .i64 0, .int .i64 0, .int .i64 0, .int .i64 0, .int .i64 0, .int .u64 0, .int .i64 0, .bool false] 37)) := Kept.alloc HK4.out _
        have hwx : w.heap.size < wr.heap.size := blk_lt RB.out
        have hGx : G < wr.heap.size := blk_lt HN.out
        clear n0A n0 n1 n2 n3 n4 n5 n6 n7 HN RB HK4 RD8
        generalize wr.alloc (.cells #[.int .u64 gen, .int .i64 root, .int .i64 0, .int .i64 0, .int .i64 0, .int .i64 0, .int .i64 0, .int .i64 0, .int .i64 0, .int .u64 0, .int .i64 0, .bool false] 37) = WX at hN2 rb2 xb2 K5 ⊢
        generalize wr.heap.size = XG at *
        have n0 : WX.cell? ⟨G, 0, none⟩ = some (.int .i64 root) := blk_cell hN2
        have n1 : WX.cell? ⟨G, 1, none⟩ = some (.int .i64 sector) := blk_cell hN2
        have n2 : WX.cell? ⟨G, 2, none⟩ = some (.int .i64 sectors) := blk_cell hN2
        have n3 : WX.cell? ⟨G, 3, none⟩ = some (.int .i64 journal) := blk_cell hN2
        have n4 : WX.cell? ⟨G, 4, none⟩ = some (.int .i64 pack) := blk_cell hN2
        have n5 : WX.cell? ⟨G, 5, none⟩ = some (.int .i64 cmin) := blk_cell hN2
        have n6 : WX.cell? ⟨G, 6, none⟩ = some (.int .i64 cnorm) := blk_cell hN2
        have n7 : WX.cell? ⟨G, 7, none⟩ = some (.int .i64 cmax) := blk_cell hN2
        have a0 : WX.cell? ⟨XG, 0, none⟩ = some (.int .u64 gen) := blk_cell xb2
        have f0 : WX.frozen? ⟨XG, 0, none⟩ = false := blk_free xb2
        have a1 : WX.cell? ⟨XG, 1, none⟩ = some (.int .i64 root) := blk_cell xb2
        have f1 : WX.frozen? ⟨XG, 1, none⟩ = false := blk_free xb2
        have a2 : WX.cell? ⟨XG, 2, none⟩ = some (.int .i64 0) := blk_cell xb2
        have f2 : WX.frozen? ⟨XG, 2, none⟩ = false := blk_free xb2
        have a3 : WX.cell? ⟨XG, 3, none⟩ = some (.int .i64 0) := blk_cell xb2
        have f3 : WX.frozen? ⟨XG, 3, none⟩ = false := blk_free xb2
        have a4 : WX.cell? ⟨XG, 4, none⟩ = some (.int .i64 0) := blk_cell xb2
        have f4 : WX.frozen? ⟨XG, 4, none⟩ = false := blk_free xb2
        have a5 : WX.cell? ⟨XG, 5, none⟩ = some (.int .i64 0) := blk_cell xb2
        have f5 : WX.frozen? ⟨XG, 5, none⟩ = false := blk_free xb2
        have a6 : WX.cell? ⟨XG, 6, none⟩ = some (.int .i64 0) := blk_cell xb2
        have f6 : WX.frozen? ⟨XG, 6, none⟩ = false := blk_free xb2
        have a7 : WX.cell? ⟨XG, 7, none⟩ = some (.int .i64 0) := blk_cell xb2
        have f7 : WX.frozen? ⟨XG, 7, none⟩ = false := blk_free xb2
        have a8 : WX.cell? ⟨XG, 8, none⟩ = some (.int .i64 0) := blk_cell xb2
        have f8 : WX.frozen? ⟨XG, 8, none⟩ = false := blk_free xb2
        have a9 : WX.cell? ⟨XG, 9, none⟩ = some (.int .u64 0) := blk_cell xb2
        have f9 : WX.frozen? ⟨XG, 9, none⟩ = false := blk_free xb2
        have a10 : WX.cell? ⟨XG, 10, none⟩ = some (.int .i64 0) := blk_cell xb2
        have f10 : WX.frozen? ⟨XG, 10, none⟩ = false := blk_free xb2
        have a11 : WX.cell? ⟨XG, 11, none⟩ = some (.bool false) := blk_cell xb2
        have f11 : WX.frozen? ⟨XG, 11, none⟩ = false := blk_free xb2
        have rd9 : ∀ w, Calls Tryd.prog 65 #[.string (body.extract 40 48)] w fun e w' => e = .returned (.int .u64 (seed : Nat)) ∧ w' = w := fun w => by
          have q := refRead_fld body 40 8 w (by decide) (by omega)
          rw [e9] at q
          exact q
        have RD9 := hidden rd9
        have XB2 := hidden xb2
        have RB2 := hidden rb2
        have HK5 := hidden K5
        clear rd9 xb2 rb2 K5 hN2
        go_wp2
        refine wp_region_still_tail 27 (by kernel_rfl) (by kernel_rfl) ?_
        change wpStill Tryd.prog _ WX.drew.drew (fun a' => wpList Tryd.prog _ _ _ a' WX.drew.drew) _ _
        simp only [List.take_succ_cons, List.take_zero, List.drop_succ_cons, List.drop_zero]
        repeat still_step
        still_call (RD9.out _)
        repeat still_step
        refine wpStill_nil ?_
        go_wp2
        have xb3 := fill10 XB2.out (.int .i64 sector) (.int .i64 sectors) (.int .i64 journal) (.int .i64 pack) (.int .i64 cmin) (.int .i64 cnorm) (.int .i64 cmax) (.int .u64 seed) (.int .i64 0) (.bool false)
        have rb3 := off10 RB2.out (show XG ≠ w.heap.size by omega) (.int .i64 sector) (.int .i64 sectors) (.int .i64 journal) (.int .i64 pack) (.int .i64 cmin) (.int .i64 cnorm) (.int .i64 cmax) (.int .u64 seed) (.int .i64 0) (.bool false)
        have K6 := same10 HK5.out (show w.heap.size ≤ XG by omega) (.int .i64 sector) (.int .i64 sectors) (.int .i64 journal) (.int .i64 pack) (.int .i64 cmin) (.int .i64 cnorm) (.int .i64 cmax) (.int .u64 seed) (.int .i64 0) (.bool false)
        clear XB2 RB2 HK5 RD9 n0 n1 n2 n3 n4 n5 n6 n7 a0 f0 a1 f1 a2 f2 a3 f3 a4 f4 a5 f5 a6 f6 a7 f7 a8 f8 a9 f9 a10 f10 a11 f11
        generalize (World.setCell (World.setCell (World.setCell (World.setCell (World.setCell (World.setCell (World.setCell (World.setCell (World.setCell (World.setCell WX ⟨XG, 2, none⟩ (.int .i64 sector)) ⟨XG, 3, none⟩ (.int .i64 sectors)) ⟨XG, 4, none⟩ (.int .i64 journal)) ⟨XG, 5, none⟩ (.int .i64 pack)) ⟨XG, 6, none⟩ (.int .i64 cmin)) ⟨XG, 7, none⟩ (.int .i64 cnorm)) ⟨XG, 8, none⟩ (.int .i64 cmax)) ⟨XG, 9, none⟩ (.int .u64 seed)) ⟨XG, 10, none⟩ (.int .i64 0)) ⟨XG, 11, none⟩ (.bool false)) = WY at xb3 rb3 K6 ⊢
        have b10 : WY.cell? ⟨XG, 10, none⟩ = some (.int .i64 0) := blk_cell xb3
        have b11 : WY.cell? ⟨XG, 11, none⟩ = some (.bool false) := blk_cell xb3
        have g10 : WY.frozen? ⟨XG, 10, none⟩ = false := blk_free xb3
        have g11 : WY.frozen? ⟨XG, 11, none⟩ = false := blk_free xb3
        have rd10 : ∀ w, Calls Tryd.prog 65 #[.string (body.extract 48 50)] w fun e w' => e = .returned (.int .u64 (nbits : Nat)) ∧ w' = w := fun w => by
          have q := refRead_fld body 48 2 w (by decide) (by omega)
          rw [e10] at q
          exact q
        have RD10 := hidden rd10
        have XB3 := hidden xb3
        have RB3 := hidden rb3
        have HK6 := hidden K6
        have hnb : nbits < 65536 := by rw [← e10]; exact fld_lt body 48 2
        have hnw : IntKind.i64.wrap (nbits : Int) = (nbits : Int) := by rw [IntKind.wrap_i64]; omega
        have H11 : Hid ((((body[50]'(by omega)).toNat : Int) == 1) = dd) := hidden (by
          have q := fld_in body 50 1 (by omega)
          rw [byte_at body 50 (by omega)] at q
          rw [← e11, q])
        clear rd10 xb3 rb3 K6
        go_cut [] from 86 to 96 (fun wx => wx = ((WY.setCell ⟨XG, 10, none⟩ (.int .i64 nbits)).setCell ⟨XG, 11, none⟩ (.bool dd)).drew.drew.drew)
        case first =>
          go_region_with (go_at_call 65; refine (RD10.out _).mono ?_; rintro e w3 ⟨rfl, rfl⟩)
          all_goals
            go_wp2_with fail
            go_meet
            case rel =>
              rw [H11.out]
        case rest =>
          subst hcut
          have xb4 : ((WY.setCell ⟨XG, 10, none⟩ (.int .i64 nbits)).setCell ⟨XG, 11, none⟩ (.bool dd)).heap[XG]? = some (.cells #[.int .u64 gen, .int .i64 root, .int .i64 sector, .int .i64 sectors, .int .i64 journal, .int .i64 pack, .int .i64 cmin, .int .i64 cnorm, .int .i64 cmax, .int .u64 seed, .int .i64 nbits, .bool dd] 37 (0, 0)) := blk_set (blk_set XB3.out _) _
          have rb4 := blk_off (v := .bool dd) (j := 11) (blk_off (v := .int .i64 nbits) (j := 10) RB3.out (show XG ≠ w.heap.size by omega)) (show XG ≠ w.heap.size by omega)
          have K7 : Same w ((WY.setCell ⟨XG, 10, none⟩ (.int .i64 nbits)).setCell ⟨XG, 11, none⟩ (.bool dd)) := Same.put (Same.put HK6.out (by omega)) (by omega)
          clear b10 b11 g10 g11 RD10 XB3 RB3 HK6 H11
          generalize (WY.setCell ⟨XG, 10, none⟩ (.int .i64 nbits)).setCell ⟨XG, 11, none⟩ (.bool dd) = WZ at xb4 rb4 K7 ⊢
          have XB4 := hidden xb4
          have RB4 := hidden rb4
          have HK7 := hidden K7
          have a0 : WZ.cell? ⟨XG, 0, none⟩ = some (.int .u64 gen) := blk_cell xb4
          have a1 : WZ.cell? ⟨XG, 1, none⟩ = some (.int .i64 root) := blk_cell xb4
          have a2 : WZ.cell? ⟨XG, 2, none⟩ = some (.int .i64 sector) := blk_cell xb4
          have a3 : WZ.cell? ⟨XG, 3, none⟩ = some (.int .i64 sectors) := blk_cell xb4
          have a4 : WZ.cell? ⟨XG, 4, none⟩ = some (.int .i64 journal) := blk_cell xb4
          have a5 : WZ.cell? ⟨XG, 5, none⟩ = some (.int .i64 pack) := blk_cell xb4
          have a6 : WZ.cell? ⟨XG, 6, none⟩ = some (.int .i64 cmin) := blk_cell xb4
          have a7 : WZ.cell? ⟨XG, 7, none⟩ = some (.int .i64 cnorm) := blk_cell xb4
          have a8 : WZ.cell? ⟨XG, 8, none⟩ = some (.int .i64 cmax) := blk_cell xb4
          have a9 : WZ.cell? ⟨XG, 9, none⟩ = some (.int .u64 seed) := blk_cell xb4
          have a10 : WZ.cell? ⟨XG, 10, none⟩ = some (.int .i64 nbits) := blk_cell xb4
          have a11 : WZ.cell? ⟨XG, 11, none⟩ = some (.bool dd) := blk_cell xb4
          clear xb4 rb4 K7
          rcases HR.out with ⟨h1, rfl, rfl⟩ | ⟨rfl, h2, rfl, rfl⟩ | ⟨rfl, h2, rfl, rfl⟩
          · have heb : (err != 0) = true := by simpa using h1
            clear HR h1
            go_wp2_with (go_at_call 27; refine (HE.out _).mono ?_; rintro e w4 ⟨v4, rfl, o4, k4⟩; have K8 : Same w w4 := Kept.trans (Kept.drew (Kept.drew (Kept.drew HK7.out))) k4; have t3 := o4.text; have t4 := (HB.out.same K8).text; have rb := blk_kept k4 (fun h => h) RB4.out; have xb := blk_kept k4 (fun h => h) XB4.out; have z0 : w4.cell? ⟨w.heap.size, 0, none⟩ = some (.int .u64 0) := blk_cell rb; have z1 : w4.cell? ⟨w.heap.size, 1, none⟩ = some (.int .i64 0) := blk_cell rb; have z2 : w4.cell? ⟨w.heap.size, 2, none⟩ = some (.int .i64 0) := blk_cell rb; have z3 : w4.cell? ⟨w.heap.size, 3, none⟩ = some (.int .i64 0) := blk_cell rb; have z4 : w4.cell? ⟨w.heap.size, 4, none⟩ = some (.int .i64 0) := blk_cell rb; have z5 : w4.cell? ⟨w.heap.size, 5, none⟩ = some (.int .i64 0) := blk_cell rb; have z6 : w4.cell? ⟨w.heap.size, 6, none⟩ = some (.int .i64 0) := blk_cell rb; have z7 : w4.cell? ⟨w.heap.size, 7, none⟩ = some (.int .i64 0) := blk_cell rb; have z8 : w4.cell? ⟨w.heap.size, 8, none⟩ = some (.int .i64 0) := blk_cell rb; have z9 : w4.cell? ⟨w.heap.size, 9, none⟩ = some (.int .u64 0) := blk_cell rb; have z10 : w4.cell? ⟨w.heap.size, 10, none⟩ = some (.int .i64 0) := blk_cell rb; have z11 : w4.cell? ⟨w.heap.size, 11, none⟩ = some (.bool false) := blk_cell rb; have y0 : w4.frozen? ⟨w.heap.size, 0, none⟩ = false := blk_free rb; have y1 : w4.frozen? ⟨w.heap.size, 1, none⟩ = false := blk_free rb; have y2 : w4.frozen? ⟨w.heap.size, 2, none⟩ = false := blk_free rb; have y3 : w4.frozen? ⟨w.heap.size, 3, none⟩ = false := blk_free rb; have y4 : w4.frozen? ⟨w.heap.size, 4, none⟩ = false := blk_free rb; have y5 : w4.frozen? ⟨w.heap.size, 5, none⟩ = false := blk_free rb; have y6 : w4.frozen? ⟨w.heap.size, 6, none⟩ = false := blk_free rb; have y7 : w4.frozen? ⟨w.heap.size, 7, none⟩ = false := blk_free rb; have y8 : w4.frozen? ⟨w.heap.size, 8, none⟩ = false := blk_free rb; have y9 : w4.frozen? ⟨w.heap.size, 9, none⟩ = false := blk_free rb; have y10 : w4.frozen? ⟨w.heap.size, 10, none⟩ = false := blk_free rb; have y11 : w4.frozen? ⟨w.heap.size, 11, none⟩ = false := blk_free rb; have a0 : w4.cell? ⟨XG, 0, none⟩ = some (.int .u64 gen) := blk_cell xb; have a1 : w4.cell? ⟨XG, 1, none⟩ = some (.int .i64 root) := blk_cell xb; have a2 : w4.cell? ⟨XG, 2, none⟩ = some (.int .i64 sector) := blk_cell xb; have a3 : w4.cell? ⟨XG, 3, none⟩ = some (.int .i64 sectors) := blk_cell xb; have a4 : w4.cell? ⟨XG, 4, none⟩ = some (.int .i64 journal) := blk_cell xb; have a5 : w4.cell? ⟨XG, 5, none⟩ = some (.int .i64 pack) := blk_cell xb; have a6 : w4.cell? ⟨XG, 6, none⟩ = some (.int .i64 cmin) := blk_cell xb; have a7 : w4.cell? ⟨XG, 7, none⟩ = some (.int .i64 cnorm) := blk_cell xb; have a8 : w4.cell? ⟨XG, 8, none⟩ = some (.int .i64 cmax) := blk_cell xb; have a9 : w4.cell? ⟨XG, 9, none⟩ = some (.int .u64 seed) := blk_cell xb; have a10 : w4.cell? ⟨XG, 10, none⟩ = some (.int .i64 nbits) := blk_cell xb; have a11 : w4.cell? ⟨XG, 11, none⟩ = some (.bool dd) := blk_cell xb; have RB5 := hidden rb; clear rb xb)
            have xf := fill12 RB5.out (.int .u64 0) (.int .i64 0) (.int .i64 0) (.int .i64 0) (.int .i64 0) (.int .i64 0) (.int .i64 0) (.int .i64 0) (.int .i64 0) (.int .u64 0) (.int .i64 0) (.bool false)
            have Kf := same12 K8 (Nat.le_refl _) (.int .u64 0) (.int .i64 0) (.int .i64 0) (.int .i64 0) (.int .i64 0) (.int .i64 0) (.int .i64 0) (.int .i64 0) (.int .i64 0) (.int .u64 0) (.int .i64 0) (.bool false)
            generalize (World.setCell (World.setCell (World.setCell (World.setCell (World.setCell (World.setCell (World.setCell (World.setCell (World.setCell (World.setCell (World.setCell (World.setCell w4 ⟨w.heap.size, 0, none⟩ (.int .u64 0)) ⟨w.heap.size, 1, none⟩ (.int .i64 0)) ⟨w.heap.size, 2, none⟩ (.int .i64 0)) ⟨w.heap.size, 3, none⟩ (.int .i64 0)) ⟨w.heap.size, 4, none⟩ (.int .i64 0)) ⟨w.heap.size, 5, none⟩ (.int .i64 0)) ⟨w.heap.size, 6, none⟩ (.int .i64 0)) ⟨w.heap.size, 7, none⟩ (.int .i64 0)) ⟨w.heap.size, 8, none⟩ (.int .i64 0)) ⟨w.heap.size, 9, none⟩ (.int .u64 0)) ⟨w.heap.size, 10, none⟩ (.int .i64 0)) ⟨w.heap.size, 11, none⟩ (.bool false)) = V at xf Kf ⊢
            have q0 : V.cell? ⟨w.heap.size, 0, none⟩ = some (.int .u64 0) := blk_cell xf
            have q1 : V.cell? ⟨w.heap.size, 1, none⟩ = some (.int .i64 0) := blk_cell xf
            have q2 : V.cell? ⟨w.heap.size, 2, none⟩ = some (.int .i64 0) := blk_cell xf
            have q3 : V.cell? ⟨w.heap.size, 3, none⟩ = some (.int .i64 0) := blk_cell xf
            have q4 : V.cell? ⟨w.heap.size, 4, none⟩ = some (.int .i64 0) := blk_cell xf
            have q5 : V.cell? ⟨w.heap.size, 5, none⟩ = some (.int .i64 0) := blk_cell xf
            have q6 : V.cell? ⟨w.heap.size, 6, none⟩ = some (.int .i64 0) := blk_cell xf
            have q7 : V.cell? ⟨w.heap.size, 7, none⟩ = some (.int .i64 0) := blk_cell xf
            have q8 : V.cell? ⟨w.heap.size, 8, none⟩ = some (.int .i64 0) := blk_cell xf
            have q9 : V.cell? ⟨w.heap.size, 9, none⟩ = some (.int .u64 0) := blk_cell xf
            have q10 : V.cell? ⟨w.heap.size, 10, none⟩ = some (.int .i64 0) := blk_cell xf
            have q11 : V.cell? ⟨w.heap.size, 11, none⟩ = some (.bool false) := blk_cell xf
            exact bodyPost_ret (v := .tuple #[.agg #[.int .u64 0, .int .i64 0, .int .i64 0, .int .i64 0, .int .i64 0, .int .i64 0, .int .i64 0, .int .i64 0, .int .i64 0, .int .u64 0, .int .i64 0, .bool false], .int .i64 40]) (by simp [results, Tryd.results29, go_sem, q0, q1, q2, q3, q4, q5, q6, q7, q8, q9, q10, q11]) rfl ⟨rfl, Kf⟩
          · have heb : (l2 == l) = false := by simpa using h2
            clear HR h2
            go_wp2_with (go_at_call 27; refine (HE.out _).mono ?_; rintro e w4 ⟨v4, rfl, o4, k4⟩; have K8 : Same w w4 := Kept.trans (Kept.drew (Kept.drew (Kept.drew HK7.out))) k4; have t3 := o4.text; have t4 := (HB.out.same K8).text; have rb := blk_kept k4 (fun h => h) RB4.out; have xb := blk_kept k4 (fun h => h) XB4.out; have z0 : w4.cell? ⟨w.heap.size, 0, none⟩ = some (.int .u64 0) := blk_cell rb; have z1 : w4.cell? ⟨w.heap.size, 1, none⟩ = some (.int .i64 0) := blk_cell rb; have z2 : w4.cell? ⟨w.heap.size, 2, none⟩ = some (.int .i64 0) := blk_cell rb; have z3 : w4.cell? ⟨w.heap.size, 3, none⟩ = some (.int .i64 0) := blk_cell rb; have z4 : w4.cell? ⟨w.heap.size, 4, none⟩ = some (.int .i64 0) := blk_cell rb; have z5 : w4.cell? ⟨w.heap.size, 5, none⟩ = some (.int .i64 0) := blk_cell rb; have z6 : w4.cell? ⟨w.heap.size, 6, none⟩ = some (.int .i64 0) := blk_cell rb; have z7 : w4.cell? ⟨w.heap.size, 7, none⟩ = some (.int .i64 0) := blk_cell rb; have z8 : w4.cell? ⟨w.heap.size, 8, none⟩ = some (.int .i64 0) := blk_cell rb; have z9 : w4.cell? ⟨w.heap.size, 9, none⟩ = some (.int .u64 0) := blk_cell rb; have z10 : w4.cell? ⟨w.heap.size, 10, none⟩ = some (.int .i64 0) := blk_cell rb; have z11 : w4.cell? ⟨w.heap.size, 11, none⟩ = some (.bool false) := blk_cell rb; have y0 : w4.frozen? ⟨w.heap.size, 0, none⟩ = false := blk_free rb; have y1 : w4.frozen? ⟨w.heap.size, 1, none⟩ = false := blk_free rb; have y2 : w4.frozen? ⟨w.heap.size, 2, none⟩ = false := blk_free rb; have y3 : w4.frozen? ⟨w.heap.size, 3, none⟩ = false := blk_free rb; have y4 : w4.frozen? ⟨w.heap.size, 4, none⟩ = false := blk_free rb; have y5 : w4.frozen? ⟨w.heap.size, 5, none⟩ = false := blk_free rb; have y6 : w4.frozen? ⟨w.heap.size, 6, none⟩ = false := blk_free rb; have y7 : w4.frozen? ⟨w.heap.size, 7, none⟩ = false := blk_free rb; have y8 : w4.frozen? ⟨w.heap.size, 8, none⟩ = false := blk_free rb; have y9 : w4.frozen? ⟨w.heap.size, 9, none⟩ = false := blk_free rb; have y10 : w4.frozen? ⟨w.heap.size, 10, none⟩ = false := blk_free rb; have y11 : w4.frozen? ⟨w.heap.size, 11, none⟩ = false := blk_free rb; have a0 : w4.cell? ⟨XG, 0, none⟩ = some (.int .u64 gen) := blk_cell xb; have a1 : w4.cell? ⟨XG, 1, none⟩ = some (.int .i64 root) := blk_cell xb; have a2 : w4.cell? ⟨XG, 2, none⟩ = some (.int .i64 sector) := blk_cell xb; have a3 : w4.cell? ⟨XG, 3, none⟩ = some (.int .i64 sectors) := blk_cell xb; have a4 : w4.cell? ⟨XG, 4, none⟩ = some (.int .i64 journal) := blk_cell xb; have a5 : w4.cell? ⟨XG, 5, none⟩ = some (.int .i64 pack) := blk_cell xb; have a6 : w4.cell? ⟨XG, 6, none⟩ = some (.int .i64 cmin) := blk_cell xb; have a7 : w4.cell? ⟨XG, 7, none⟩ = some (.int .i64 cnorm) := blk_cell xb; have a8 : w4.cell? ⟨XG, 8, none⟩ = some (.int .i64 cmax) := blk_cell xb; have a9 : w4.cell? ⟨XG, 9, none⟩ = some (.int .u64 seed) := blk_cell xb; have a10 : w4.cell? ⟨XG, 10, none⟩ = some (.int .i64 nbits) := blk_cell xb; have a11 : w4.cell? ⟨XG, 11, none⟩ = some (.bool dd) := blk_cell xb; have RB5 := hidden rb; clear rb xb)
            have xf := fill12 RB5.out (.int .u64 0) (.int .i64 0) (.int .i64 0) (.int .i64 0) (.int .i64 0) (.int .i64 0) (.int .i64 0) (.int .i64 0) (.int .i64 0) (.int .u64 0) (.int .i64 0) (.bool false)
            have Kf := same12 K8 (Nat.le_refl _) (.int .u64 0) (.int .i64 0) (.int .i64 0) (.int .i64 0) (.int .i64 0) (.int .i64 0) (.int .i64 0) (.int .i64 0) (.int .i64 0) (.int .u64 0) (.int .i64 0) (.bool false)
            generalize (World.setCell (World.setCell (World.setCell (World.setCell (World.setCell (World.setCell (World.setCell (World.setCell (World.setCell (World.setCell (World.setCell (World.setCell w4 ⟨w.heap.size, 0, none⟩ (.int .u64 0)) ⟨w.heap.size, 1, none⟩ (.int .i64 0)) ⟨w.heap.size, 2, none⟩ (.int .i64 0)) ⟨w.heap.size, 3, none⟩ (.int .i64 0)) ⟨w.heap.size, 4, none⟩ (.int .i64 0)) ⟨w.heap.size, 5, none⟩ (.int .i64 0)) ⟨w.heap.size, 6, none⟩ (.int .i64 0)) ⟨w.heap.size, 7, none⟩ (.int .i64 0)) ⟨w.heap.size, 8, none⟩ (.int .i64 0)) ⟨w.heap.size, 9, none⟩ (.int .u64 0)) ⟨w.heap.size, 10, none⟩ (.int .i64 0)) ⟨w.heap.size, 11, none⟩ (.bool false)) = V at xf Kf ⊢
            have q0 : V.cell? ⟨w.heap.size, 0, none⟩ = some (.int .u64 0) := blk_cell xf
            have q1 : V.cell? ⟨w.heap.size, 1, none⟩ = some (.int .i64 0) := blk_cell xf
            have q2 : V.cell? ⟨w.heap.size, 2, none⟩ = some (.int .i64 0) := blk_cell xf
            have q3 : V.cell? ⟨w.heap.size, 3, none⟩ = some (.int .i64 0) := blk_cell xf
            have q4 : V.cell? ⟨w.heap.size, 4, none⟩ = some (.int .i64 0) := blk_cell xf
            have q5 : V.cell? ⟨w.heap.size, 5, none⟩ = some (.int .i64 0) := blk_cell xf
            have q6 : V.cell? ⟨w.heap.size, 6, none⟩ = some (.int .i64 0) := blk_cell xf
            have q7 : V.cell? ⟨w.heap.size, 7, none⟩ = some (.int .i64 0) := blk_cell xf
            have q8 : V.cell? ⟨w.heap.size, 8, none⟩ = some (.int .i64 0) := blk_cell xf
            have q9 : V.cell? ⟨w.heap.size, 9, none⟩ = some (.int .u64 0) := blk_cell xf
            have q10 : V.cell? ⟨w.heap.size, 10, none⟩ = some (.int .i64 0) := blk_cell xf
            have q11 : V.cell? ⟨w.heap.size, 11, none⟩ = some (.bool false) := blk_cell xf
            exact bodyPost_ret (v := .tuple #[.agg #[.int .u64 0, .int .i64 0, .int .i64 0, .int .i64 0, .int .i64 0, .int .i64 0, .int .i64 0, .int .i64 0, .int .i64 0, .int .u64 0, .int .i64 0, .bool false], .int .i64 40]) (by simp [results, Tryd.results29, go_sem, q0, q1, q2, q3, q4, q5, q6, q7, q8, q9, q10, q11]) rfl ⟨rfl, Kf⟩
          · have heb : (l2 == l) = true := by simpa using h2
            clear HR h2
            go_wp2_with (go_at_call 27; refine (HE.out _).mono ?_; rintro e w4 ⟨v4, rfl, o4, k4⟩; have K8 : Same w w4 := Kept.trans (Kept.drew (Kept.drew (Kept.drew HK7.out))) k4; have t3 := o4.text; have t4 := (HB.out.same K8).text; have rb := blk_kept k4 (fun h => h) RB4.out; have xb := blk_kept k4 (fun h => h) XB4.out; have z0 : w4.cell? ⟨w.heap.size, 0, none⟩ = some (.int .u64 0) := blk_cell rb; have z1 : w4.cell? ⟨w.heap.size, 1, none⟩ = some (.int .i64 0) := blk_cell rb; have z2 : w4.cell? ⟨w.heap.size, 2, none⟩ = some (.int .i64 0) := blk_cell rb; have z3 : w4.cell? ⟨w.heap.size, 3, none⟩ = some (.int .i64 0) := blk_cell rb; have z4 : w4.cell? ⟨w.heap.size, 4, none⟩ = some (.int .i64 0) := blk_cell rb; have z5 : w4.cell? ⟨w.heap.size, 5, none⟩ = some (.int .i64 0) := blk_cell rb; have z6 : w4.cell? ⟨w.heap.size, 6, none⟩ = some (.int .i64 0) := blk_cell rb; have z7 : w4.cell? ⟨w.heap.size, 7, none⟩ = some (.int .i64 0) := blk_cell rb; have z8 : w4.cell? ⟨w.heap.size, 8, none⟩ = some (.int .i64 0) := blk_cell rb; have z9 : w4.cell? ⟨w.heap.size, 9, none⟩ = some (.int .u64 0) := blk_cell rb; have z10 : w4.cell? ⟨w.heap.size, 10, none⟩ = some (.int .i64 0) := blk_cell rb; have z11 : w4.cell? ⟨w.heap.size, 11, none⟩ = some (.bool false) := blk_cell rb; have y0 : w4.frozen? ⟨w.heap.size, 0, none⟩ = false := blk_free rb; have y1 : w4.frozen? ⟨w.heap.size, 1, none⟩ = false := blk_free rb; have y2 : w4.frozen? ⟨w.heap.size, 2, none⟩ = false := blk_free rb; have y3 : w4.frozen? ⟨w.heap.size, 3, none⟩ = false := blk_free rb; have y4 : w4.frozen? ⟨w.heap.size, 4, none⟩ = false := blk_free rb; have y5 : w4.frozen? ⟨w.heap.size, 5, none⟩ = false := blk_free rb; have y6 : w4.frozen? ⟨w.heap.size, 6, none⟩ = false := blk_free rb; have y7 : w4.frozen? ⟨w.heap.size, 7, none⟩ = false := blk_free rb; have y8 : w4.frozen? ⟨w.heap.size, 8, none⟩ = false := blk_free rb; have y9 : w4.frozen? ⟨w.heap.size, 9, none⟩ = false := blk_free rb; have y10 : w4.frozen? ⟨w.heap.size, 10, none⟩ = false := blk_free rb; have y11 : w4.frozen? ⟨w.heap.size, 11, none⟩ = false := blk_free rb; have a0 : w4.cell? ⟨XG, 0, none⟩ = some (.int .u64 gen) := blk_cell xb; have a1 : w4.cell? ⟨XG, 1, none⟩ = some (.int .i64 root) := blk_cell xb; have a2 : w4.cell? ⟨XG, 2, none⟩ = some (.int .i64 sector) := blk_cell xb; have a3 : w4.cell? ⟨XG, 3, none⟩ = some (.int .i64 sectors) := blk_cell xb; have a4 : w4.cell? ⟨XG, 4, none⟩ = some (.int .i64 journal) := blk_cell xb; have a5 : w4.cell? ⟨XG, 5, none⟩ = some (.int .i64 pack) := blk_cell xb; have a6 : w4.cell? ⟨XG, 6, none⟩ = some (.int .i64 cmin) := blk_cell xb; have a7 : w4.cell? ⟨XG, 7, none⟩ = some (.int .i64 cnorm) := blk_cell xb; have a8 : w4.cell? ⟨XG, 8, none⟩ = some (.int .i64 cmax) := blk_cell xb; have a9 : w4.cell? ⟨XG, 9, none⟩ = some (.int .u64 seed) := blk_cell xb; have a10 : w4.cell? ⟨XG, 10, none⟩ = some (.int .i64 nbits) := blk_cell xb; have a11 : w4.cell? ⟨XG, 11, none⟩ = some (.bool dd) := blk_cell xb; have RB5 := hidden rb; clear rb xb)
            have xf := fill12 RB5.out (.int .u64 gen) (.int .i64 root) (.int .i64 sector) (.int .i64 sectors) (.int .i64 journal) (.int .i64 pack) (.int .i64 cmin) (.int .i64 cnorm) (.int .i64 cmax) (.int .u64 seed) (.int .i64 nbits) (.bool dd)
            have Kf := same12 K8 (Nat.le_refl _) (.int .u64 gen) (.int .i64 root) (.int .i64 sector) (.int .i64 sectors) (.int .i64 journal) (.int .i64 pack) (.int .i64 cmin) (.int .i64 cnorm) (.int .i64 cmax) (.int .u64 seed) (.int .i64 nbits) (.bool dd)
            generalize (World.setCell (World.setCell (World.setCell (World.setCell (World.setCell (World.setCell (World.setCell (World.setCell (World.setCell (World.setCell (World.setCell (World.setCell w4 ⟨w.heap.size, 0, none⟩ (.int .u64 gen)) ⟨w.heap.size, 1, none⟩ (.int .i64 root)) ⟨w.heap.size, 2, none⟩ (.int .i64 sector)) ⟨w.heap.size, 3, none⟩ (.int .i64 sectors)) ⟨w.heap.size, 4, none⟩ (.int .i64 journal)) ⟨w.heap.size, 5, none⟩ (.int .i64 pack)) ⟨w.heap.size, 6, none⟩ (.int .i64 cmin)) ⟨w.heap.size, 7, none⟩ (.int .i64 cnorm)) ⟨w.heap.size, 8, none⟩ (.int .i64 cmax)) ⟨w.heap.size, 9, none⟩ (.int .u64 seed)) ⟨w.heap.size, 10, none⟩ (.int .i64 nbits)) ⟨w.heap.size, 11, none⟩ (.bool dd)) = V at xf Kf ⊢
            have q0 : V.cell? ⟨w.heap.size, 0, none⟩ = some (.int .u64 gen) := blk_cell xf
            have q1 : V.cell? ⟨w.heap.size, 1, none⟩ = some (.int .i64 root) := blk_cell xf
            have q2 : V.cell? ⟨w.heap.size, 2, none⟩ = some (.int .i64 sector) := blk_cell xf
            have q3 : V.cell? ⟨w.heap.size, 3, none⟩ = some (.int .i64 sectors) := blk_cell xf
            have q4 : V.cell? ⟨w.heap.size, 4, none⟩ = some (.int .i64 journal) := blk_cell xf
            have q5 : V.cell? ⟨w.heap.size, 5, none⟩ = some (.int .i64 pack) := blk_cell xf
            have q6 : V.cell? ⟨w.heap.size, 6, none⟩ = some (.int .i64 cmin) := blk_cell xf
            have q7 : V.cell? ⟨w.heap.size, 7, none⟩ = some (.int .i64 cnorm) := blk_cell xf
            have q8 : V.cell? ⟨w.heap.size, 8, none⟩ = some (.int .i64 cmax) := blk_cell xf
            have q9 : V.cell? ⟨w.heap.size, 9, none⟩ = some (.int .u64 seed) := blk_cell xf
            have q10 : V.cell? ⟨w.heap.size, 10, none⟩ = some (.int .i64 nbits) := blk_cell xf
            have q11 : V.cell? ⟨w.heap.size, 11, none⟩ = some (.bool dd) := blk_cell xf
            exact bodyPost_ret (v := .tuple #[.agg #[.int .u64 gen, .int .i64 root, .int .i64 sector, .int .i64 sectors, .int .i64 journal, .int .i64 pack, .int .i64 cmin, .int .i64 cnorm, .int .i64 cmax, .int .u64 seed, .int .i64 nbits, .bool dd], .int .i64 0]) (by simp [results, Tryd.results29, go_sem, q0, q1, q2, q3, q4, q5, q6, q7, q8, q9, q10, q11]) rfl ⟨rfl, Kf⟩
end Go.Proofs.YtlilgfcacoooaaaDoor
