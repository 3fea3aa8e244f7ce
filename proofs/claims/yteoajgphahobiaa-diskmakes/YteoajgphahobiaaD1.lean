/- disk: sectorOf, maySize, mayCount, power; of a nil Disk. -/
import Derived.Test.YteoajgphahobiaaBy
import Derived.Test.YteoajgphahobiaaPowP
namespace Go.Proofs.Yteoajgphahobiaa
open Go.RowKit
set_option linter.unusedVariables false

set_option maxHeartbeats 1000000 in
set_option maxRecDepth 100000 in
theorem d_sectorOf (v : Value) (l : List UInt8) (w : World) (hb : Byt w v l) (hl : l.length ≤ 140737488355328) :
    Calls Try.prog 40 #[v] w fun e w' => ∃ u, e = .returned u ∧ Own w' u l w.heap.size ∧ Same w w' := by
  have hmk := make_bytes l.length (by omega)
  have hcp := copy_all v l (w.alloc (.cells (List.replicate l.length (U8 0)).toArray 5)) (hb.same (same_alloc _ _)) w.heap.size (heap_alloc_new w _)
  have hfin : ∀ Z : Array Value, Own ((w.alloc (.cells Z 5)).setRow w.heap.size (l.map U8).toArray) (.slice (some ⟨w.heap.size, 0, none⟩) l.length l.length) l w.heap.size := fun Z => ⟨w.heap.size, Nat.le_refl _, rfl, setRow_heap _ _ _ _ _ _ (heap_alloc_new w _)⟩
  have HF := hidden hfin
  obtain ⟨a, cap, rfl⟩ := hb.form
  generalize (List.replicate l.length (U8 0)).toArray = Z at hmk hcp
  generalize (l.map U8).toArray = R at *
  clear hfin hb
  go_enter Try.func40, Try.ntmps40
  go_wp2
  go_returns
  exact ⟨_, rfl, HF.out _, same_setRow (same_alloc _ _) (Nat.le_refl _) _⟩
def JSize (n : Int) : Prop := 512 ≤ n ∧ n ≤ 4096 ∧ Pow n
instance (n : Int) : Decidable (JSize n) := by unfold JSize; infer_instance
set_option maxHeartbeats 1000000 in
set_option maxRecDepth 100000 in
theorem d_maySize (n : Int) (w : World) : Calls Try.prog 34 #[.int .i64 n] w fun e w' => e = .returned (.bool (decide (JSize n))) ∧ w = w' := by
  by_cases h0 : 512 ≤ n
  · by_cases h1 : n ≤ 4096
    · have hb : (bits .and .i64 n (n - 1) == 0) = decide (JSize n) := by
        have h := pow_land n (by omega) (by omega)
        rw [Bool.eq_iff_iff, beq_iff_eq, h, decide_eq_true_eq]
        unfold JSize
        simp [h0, h1]
      generalize decide (JSize n) = d at hb ⊢
      go_enter Try.func34, Try.ntmps34
      go_wp2
      go_returns
      exact ⟨rfl, rfl⟩
    · have hd : decide (JSize n) = false := by unfold JSize; simp [h1]
      rw [hd]
      go_enter Try.func34, Try.ntmps34
      go_wp2
      go_returns
      exact ⟨rfl, rfl⟩
  · have hd : decide (JSize n) = false := by unfold JSize; simp [h0]
    rw [hd]
    go_enter Try.func34, Try.ntmps34
    go_wp2
    go_returns
    exact ⟨rfl, rfl⟩
set_option maxHeartbeats 1000000 in
set_option maxRecDepth 100000 in
theorem d_mayCount (n : Int) (w : World) : Calls Try.prog 35 #[.int .i64 n] w fun e w' => e = .returned (.bool (decide (1 ≤ n ∧ n ≤ 4096))) ∧ w = w' := by
  go_enter Try.func35, Try.ntmps35
  go_wp2
  all_goals
    go_returns
    exact ⟨by simp_all <;> omega, rfl⟩
theorem d_readNil (n : Int) (w : World) : Calls Try.prog 29 #[.pointer none, .int .i64 n] w fun e w' => e = .returned (.tuple #[.slice none 0 0, .int .i64 6]) ∧ w = w' := by
  go_enter Try.func29, Try.ntmps29
  go_wp2
  go_returns
  exact ⟨rfl, rfl⟩
theorem d_countsNil (w : World) : Calls Try.prog 33 #[.pointer none] w fun e w' => e = .returned (.tuple #[.int .i64 0, .int .i64 0, .int .i64 0]) ∧ w = w' := by
  go_enter Try.func33, Try.ntmps33
  go_wp2
  go_returns
  exact ⟨rfl, rfl⟩
theorem d_stopNil (n : Int) (w : World) : Calls Try.prog 22 #[.pointer none, .int .i64 n] w fun e w' => e = .returned (.tuple #[]) ∧ w = w' := by
  go_enter Try.func22, Try.ntmps22
  go_wp2
  go_returns
  exact ⟨rfl, rfl⟩
theorem d_offNil (w : World) : Calls Try.prog 30 #[.pointer none] w fun e w' => e = .returned (.bool false) ∧ w = w' := by
  go_enter Try.func30, Try.ntmps30
  go_wp2
  go_returns
  exact ⟨rfl, rfl⟩
theorem d_writeNil (n : Int) (v : Value) (w : World) : Calls Try.prog 23 #[.pointer none, .int .i64 n, v] w fun e w' => e = .returned (.int .i64 6) ∧ w = w' := by
  go_enter Try.func23, Try.ntmps23
  go_wp2
  go_returns
  exact ⟨rfl, rfl⟩
theorem d_crashNil (v : Value) (w : World) : Calls Try.prog 28 #[.pointer none, v] w fun e w' => e = .returned (.int .i64 6) ∧ w = w' := by
  go_enter Try.func28, Try.ntmps28
  go_wp2
  go_returns
  exact ⟨rfl, rfl⟩
theorem d_flushNil (w : World) : Calls Try.prog 25 #[.pointer none] w fun e w' => e = .returned (.int .i64 0) ∧ w = w' := by
  go_enter Try.func25, Try.ntmps25
  go_wp2
  go_returns
  exact ⟨rfl, rfl⟩
theorem d_pendingNil (w : World) : Calls Try.prog 20 #[.pointer none] w fun e w' => e = .returned (.slice none 0 0) ∧ w = w' := by
  go_enter Try.func20, Try.ntmps20
  go_wp2
  go_returns
  exact ⟨rfl, rfl⟩
theorem d_imageNil (w : World) : Calls Try.prog 15 #[.pointer none] w fun e w' => e = .returned (.slice none 0 0) ∧ w = w' := by
  go_enter Try.func15, Try.ntmps15
  go_wp2
  go_returns
  exact ⟨rfl, rfl⟩
theorem d_sizeNil (w : World) : Calls Try.prog 16 #[.pointer none] w fun e w' => e = .returned (.int .i64 0) ∧ w = w' := by
  go_enter Try.func16, Try.ntmps16
  go_wp2
  go_returns
  exact ⟨rfl, rfl⟩
theorem d_countNil (w : World) : Calls Try.prog 17 #[.pointer none] w fun e w' => e = .returned (.int .i64 0) ∧ w = w' := by
  go_enter Try.func17, Try.ntmps17
  go_wp2
  go_returns
  exact ⟨rfl, rfl⟩
theorem d_forkNil (w : World) : Calls Try.prog 21 #[.pointer none] w fun e w' => e = .returned (.pointer none) ∧ w = w' := by
  go_enter Try.func21, Try.ntmps21
  go_wp2
  go_returns
  exact ⟨rfl, rfl⟩
end Go.Proofs.Yteoajgphahobiaa
