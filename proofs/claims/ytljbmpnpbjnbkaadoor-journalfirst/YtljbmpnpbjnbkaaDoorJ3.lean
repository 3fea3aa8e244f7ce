/- journal: New, Left, Records; of a nil Writer. -/
import Derived.Test.YtljbmpnpbjnbkaaDoorJ2
import Derived.Test.YtljbmpnpbjnbkaaDoorPowP
namespace Go.Proofs.YtljbmpnpbjnbkaaDoor
open Go.RowKit
set_option linter.unusedVariables false

def JSize (n : Int) : Prop := 512 ≤ n ∧ n ≤ 4096 ∧ Pow n
instance (n : Int) : Decidable (JSize n) := by unfold JSize; infer_instance
def JMay (size sectors : Int) : Prop := JSize size ∧ 1 ≤ sectors ∧ sectors ≤ 4096
instance (a b : Int) : Decidable (JMay a b) := by unfold JMay; infer_instance
set_option maxHeartbeats 1000000 in
set_option maxRecDepth 100000 in
theorem j_maySize (n : Int) (w : World) : Calls Tryd.prog 28 #[.int .i64 n] w fun e w' => e = .returned (.bool (decide (JSize n))) ∧ w = w' := by
  by_cases h0 : 512 ≤ n
  · by_cases h1 : n ≤ 4096
    · have hb : (bits .and .i64 n (n - 1) == 0) = decide (JSize n) := by
        have h := pow_land n (by omega) (by omega)
        rw [Bool.eq_iff_iff, beq_iff_eq, h, decide_eq_true_eq]
        unfold JSize
        simp [h0, h1]
      generalize decide (JSize n) = d at hb ⊢
      go_enter Tryd.func28, Tryd.ntmps28
      go_wp2
      go_returns
      exact ⟨rfl, rfl⟩
    · have hd : decide (JSize n) = false := by unfold JSize; simp [h1]
      rw [hd]
      go_enter Tryd.func28, Tryd.ntmps28
      go_wp2
      go_returns
      exact ⟨rfl, rfl⟩
  · have hd : decide (JSize n) = false := by unfold JSize; simp [h0]
    rw [hd]
    go_enter Tryd.func28, Tryd.ntmps28
    go_wp2
    go_returns
    exact ⟨rfl, rfl⟩
set_option maxHeartbeats 1000000 in
set_option maxRecDepth 100000 in
theorem j_maySectors (n : Int) (w : World) : Calls Tryd.prog 29 #[.int .i64 n] w fun e w' => e = .returned (.bool (decide (1 ≤ n ∧ n ≤ 4096))) ∧ w = w' := by
  go_enter Tryd.func29, Tryd.ntmps29
  go_wp2
  all_goals
    go_returns
    exact ⟨by simp_all <;> omega, rfl⟩
/-- New, if it may be. -/
def JSt.new (size sectors gen : Nat) : JSt := ⟨size, sectors, gen, 0, [], 0⟩
theorem JSt.new_ok (size sectors gen : Nat) (h : JMay size sectors) (hg : gen < 18446744073709551616) : (JSt.new size sectors gen).Ok := by
  obtain ⟨⟨h1, h2, _⟩, h3, h4⟩ := h
  have hm : sectors * (size - 24) ≤ 4096 * 4096 := Nat.mul_le_mul (by omega) (by omega)
  refine ⟨by simp [JSt.new]; omega, by simp [JSt.new]; omega, by simp [JSt.new]; omega, hg, Nat.zero_le _, Nat.zero_le _, ?_⟩
  simp only [JSt.new, JSt.free, Nat.sub_zero, List.length_nil]
  omega
set_option maxHeartbeats 1000000 in
set_option maxRecDepth 100000 in
theorem j_new (size sectors gen : Nat) (w : World) (h : JMay size sectors) (hg : gen < 18446744073709551616) :
    Calls Tryd.prog 9 #[.int .i64 size, .int .i64 sectors, .int .u64 gen] w fun e w' => e = .returned (.tuple #[.pointer (some ⟨w.heap.size, 0, none⟩), .int .i64 0]) ∧ JW w.heap.size (JSt.new size sectors gen) w' ∧ Same w w' ∧ rowOf w' w.heap.size 4 = none := by
  have hs := hidden (fun w => j_maySize size w)
  have hn := hidden (fun w => j_maySectors sectors w)
  rw [decide_eq_true h.1] at hs
  rw [decide_eq_true h.2] at hn
  have ok := JSt.new_ok size sectors gen h hg
  clear h
  go_enter Tryd.func9, Tryd.ntmps9
  go_wp2_with (first
    | (go_at_call 28; refine (hs.out _).mono ?_; rintro e w1 ⟨rfl, rfl⟩)
    | (go_at_call 29; refine (hn.out _).mono ?_; rintro e w1 ⟨rfl, rfl⟩))
  go_returns
  exact ⟨rfl, ⟨⟨_, heap_alloc_new w _, World.ownsRow_nil _ _ _ _⟩, ok⟩, same_alloc _ _, by unfold rowOf; rw [blk_cell (heap_alloc_new w _)]; rfl⟩
set_option maxHeartbeats 1000000 in
set_option maxRecDepth 100000 in
theorem j_newNo (size sectors : Int) (gen : Nat) (w : World) (h : ¬ JMay size sectors) (hg : gen < 18446744073709551616) :
    Calls Tryd.prog 9 #[.int .i64 size, .int .i64 sectors, .int .u64 gen] w fun e w' => e = .returned (.tuple #[.pointer none, .int .i64 1]) ∧ w = w' := by
  have hs := hidden (fun w => j_maySize size w)
  have hn := hidden (fun w => j_maySectors sectors w)
  by_cases h1 : JSize size
  · have h2 : ¬ (1 ≤ sectors ∧ sectors ≤ 4096) := fun h2 => h ⟨h1, h2⟩
    rw [decide_eq_true h1] at hs
    rw [decide_eq_false h2] at hn
    clear h h1 h2
    go_enter Tryd.func9, Tryd.ntmps9
    go_wp2_with (first
      | (go_at_call 28; refine (hs.out _).mono ?_; rintro e w1 ⟨rfl, rfl⟩)
      | (go_at_call 29; refine (hn.out _).mono ?_; rintro e w1 ⟨rfl, rfl⟩))
    go_returns
    exact ⟨rfl, rfl⟩
  · rw [decide_eq_false h1] at hs
    clear h h1
    go_enter Tryd.func9, Tryd.ntmps9
    go_wp2_with (first
      | (go_at_call 28; refine (hs.out _).mono ?_; rintro e w1 ⟨rfl, rfl⟩)
      | (go_at_call 29; refine (hn.out _).mono ?_; rintro e w1 ⟨rfl, rfl⟩))
    go_returns
    exact ⟨rfl, rfl⟩
set_option maxHeartbeats 1000000 in
set_option maxRecDepth 100000 in
theorem j_left {g : Nat} {s : JSt} {w : World} (h : JW g s w) : Calls Tryd.prog 13 #[.pointer (some ⟨g, 0, none⟩)] w fun e w' => e = .returned (.int .i64 ((s.free - 4 : Nat) : Int)) ∧ Same w w' := by
  have A := hidden (j_made h)
  have B := hidden (j_free h)
  have hf : s.free ≤ 16777216 := by have := h.ok.r; omega
  clear h
  generalize s.free = f at *
  go_enter Tryd.func13, Tryd.ntmps13
  go_wp2_with (first
    | (go_at_call 31; refine (A.out).mono ?_; rintro e w1 ⟨rfl, rfl⟩)
    | (go_at_call 32; refine (B.out).mono ?_; rintro e w1 ⟨rfl, k1⟩))
  go_returns
  exact ⟨by rw [show max ((f : Int) - 4) 0 = ((f - 4 : Nat) : Int) by omega]; rfl, k1⟩
set_option maxHeartbeats 1000000 in
set_option maxRecDepth 100000 in
theorem j_records {g : Nat} {s : JSt} {w : World} (h : JW g s w) : Calls Tryd.prog 18 #[.pointer (some ⟨g, 0, none⟩)] w fun e w' => e = .returned (.int .i64 (s.recs : Int)) ∧ w = w' := by
  have A := hidden (j_made h)
  obtain ⟨⟨v, hb, ho⟩, hok⟩ := h
  have c5 : w.cell? ⟨g, 5, none⟩ = some (.int .i64 s.recs) := blk_cell hb
  clear hb ho hok
  go_enter Tryd.func18, Tryd.ntmps18
  go_wp2_with (go_at_call 31; refine (A.out).mono ?_; rintro e w1 ⟨rfl, rfl⟩)
  go_returns
  exact ⟨rfl, rfl⟩
theorem j_leftNil (w : World) : Calls Tryd.prog 13 #[.pointer none] w fun e w' => e = .returned (.int .i64 0) ∧ w = w' := by
  go_enter Tryd.func13, Tryd.ntmps13
  go_wp2_with (go_at_call 31; refine (j_madeNil _).mono ?_; rintro e w1 ⟨rfl, rfl⟩)
  go_returns
  exact ⟨rfl, rfl⟩
theorem j_recordsNil (w : World) : Calls Tryd.prog 18 #[.pointer none] w fun e w' => e = .returned (.int .i64 0) ∧ w = w' := by
  go_enter Tryd.func18, Tryd.ntmps18
  go_wp2_with (go_at_call 31; refine (j_madeNil _).mono ?_; rintro e w1 ⟨rfl, rfl⟩)
  go_returns
  exact ⟨rfl, rfl⟩
theorem j_takeNil (w : World) : Calls Tryd.prog 15 #[.pointer none] w fun e w' => e = .returned (.slice none 0 0) ∧ w = w' := by
  go_enter Tryd.func15, Tryd.ntmps15
  go_wp2_with (go_at_call 31; refine (j_madeNil _).mono ?_; rintro e w1 ⟨rfl, rfl⟩)
  go_returns
  exact ⟨rfl, rfl⟩
theorem j_forkNil (w : World) : Calls Tryd.prog 19 #[.pointer none] w fun e w' => e = .returned (.pointer none) ∧ w = w' := by
  go_enter Tryd.func19, Tryd.ntmps19
  go_wp2_with (go_at_call 31; refine (j_madeNil _).mono ?_; rintro e w1 ⟨rfl, rfl⟩)
  go_returns
  exact ⟨rfl, rfl⟩
theorem j_appendNil (s : ByteArray) (w : World) : Calls Tryd.prog 11 #[.pointer none, .string s] w fun e w' => e = .returned (.int .i64 6) ∧ w = w' := by
  go_enter Tryd.func11, Tryd.ntmps11
  go_wp2_with (go_at_call 31; refine (j_madeNil _).mono ?_; rintro e w1 ⟨rfl, rfl⟩)
  go_returns
  exact ⟨rfl, rfl⟩
end Go.Proofs.YtljbmpnpbjnbkaaDoor
