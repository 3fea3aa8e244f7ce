/- layout's within, powerOfTwo, mayCut, Check, and the document's Check, walked. -/
import Derived.Test.YtilkpboegpfijaaDoorAwake
import Derived.Test.YtilkpboegpfijaaDoorLayP
namespace Go.Proofs.YtilkpboegpfijaaDoor
open Go.RowKit
set_option linter.unusedVariables false

theorem told {p q : Prop} [Decidable p] [Decidable q] (h : p ↔ q) : Ending.returned (.bool (decide p)) = .returned (.bool (decide q)) := by
  rw [decide_eq_decide.2 h]
theorem told_no {q : Prop} [Decidable q] (h : ¬ q) : Ending.returned (.bool false) = .returned (.bool (decide q)) := by
  rw [decide_eq_false h]
theorem within_any (n lo hi : Int) (w : World) : Calls Tryd.prog 53 #[.int .i64 n, .int .i64 lo, .int .i64 hi] w fun e w' => e = .returned (.bool (decide (lo ≤ n ∧ n ≤ hi))) ∧ w = w' := by
  by_cases h : lo ≤ n
  all_goals
    go_enter Tryd.func53, Tryd.ntmps53
    go_wp2
    go_returns
    exact ⟨by simp [h] <;> omega, rfl⟩
theorem pow2_any (n : Int) (w : World) (h0 : 16 ≤ n) (h1 : n ≤ 65536) : Calls Tryd.prog 54 #[.int .i64 n] w fun e w' => e = .returned (.bool (decide (Pow n))) ∧ w = w' := by
  have hp := hidden (pow_land n h0 h1)
  go_enter Tryd.func54, Tryd.ntmps54
  go_wp2
  go_returns
  exact ⟨told hp.out, rfl⟩
set_option maxHeartbeats 1000000 in
set_option maxRecDepth 100000 in
theorem mayCut_any (cmin cnorm cmax room : Int) (seed : Nat) (w : World) :
    Calls Tryd.prog 55 #[.agg #[.int .i64 cmin, .int .i64 cnorm, .int .i64 cmax, .int .u64 seed], .int .i64 room] w fun e w' => e = .returned (.bool (decide (CutOk cmin cnorm cmax room))) ∧ Same w w' := by
  go_enter Tryd.func55, Tryd.ntmps55
  go_wp2_with (first
    | (go_at_call 53; refine (within_any _ _ _ _).mono ?_; rintro e w1 ⟨rfl, rfl⟩)
    | (go_at_call 54; refine (pow2_any _ _ (by omega) (by omega)).mono ?_; rintro e w1 ⟨rfl, rfl⟩))
  all_goals
    go_returns
    refine ⟨?_, (Kept.refl _ _).alloc _⟩
    first
      | exact told ⟨fun k => ⟨⟨by omega, by omega, by assumption⟩, by assumption, by assumption, k⟩, fun k => k.2.2.2⟩
      | (refine told_no fun k => ?_; obtain ⟨⟨a1, a2, a3⟩, b, c, d⟩ := k; first | contradiction | omega)
theorem prod_small (a b : Int) (ha : 2 ≤ a ∧ a ≤ 64) (hb : 512 ≤ b ∧ b ≤ 4096) : 1024 ≤ a * b ∧ a * b ≤ 262144 := by
  constructor
  · have h1 : 2 * 512 ≤ a * b := Int.mul_le_mul ha.1 hb.1 (by decide) (by omega)
    omega
  · have h1 : a * b ≤ 64 * 4096 := Int.mul_le_mul ha.2 hb.2 (by omega) (by decide)
    omega
/-- A cell of the box of a parameter. -/
theorem box_cell {w w1 : World} {cs : Array Value} {t : TypeId} {v : Value} (j : Nat) (k : Same (w.alloc (.cells cs t)) w1) (h : cs[j]? = some v) : w1.cell? ⟨w.heap.size, j, none⟩ = some v :=
  (blk_cell (blk_kept k (fun h => h) (blk_new w _))).trans h
set_option maxHeartbeats 4000000 in
set_option maxRecDepth 100000 in
theorem check_any (sector sectors journal pack cmin cnorm cmax : Int) (seed : Nat) (nbits : Int) (dd : Bool) (w : World) :
    Calls Tryd.prog 26 #[.agg #[.int .i64 sector, .int .i64 sectors, .int .i64 journal, .int .i64 pack, .int .i64 cmin, .int .i64 cnorm, .int .i64 cmax, .int .u64 seed, .int .i64 nbits, .bool dd]] w fun e w' => e = .returned (.int .i64 (shpErr sector sectors journal pack cmin cnorm cmax nbits)) ∧ Same w w' := by
  have hm := fun w => mayCut_any cmin cnorm cmax (pack * sector - 40) seed w
  have HM := hidden hm
  clear hm
  by_cases hs : 512 ≤ sector ∧ sector ≤ 4096
  · by_cases hp : 2 ≤ pack ∧ pack ≤ 64
    · have hq := prod_small pack sector hp hs
      have hw1 : IntKind.i64.wrap (pack * sector) = pack * sector := by rw [IntKind.wrap_i64]; omega
      have hw2 : IntKind.i64.wrap (pack * sector - 40) = pack * sector - 40 := by rw [IntKind.wrap_i64]; omega
      clear hq
      by_cases hn : 0 ≤ nbits ∧ nbits ≤ 256
      all_goals
        go_enter Tryd.func26, Tryd.ntmps26
        go_wp2_with (first
          | (go_at_call 53; refine (within_any _ _ _ _).mono ?_; rintro e w1 ⟨rfl, rfl⟩)
          | (go_at_call 54; refine (pow2_any _ _ (by omega) (by omega)).mono ?_; rintro e w1 ⟨rfl, rfl⟩)
          | (go_at_call 55; refine (HM.out _).mono ?_; rintro e w1 ⟨rfl, k1⟩; have c8 := box_cell 8 k1 rfl))
        all_goals
          go_returns
          first
            | exact ⟨by rw [shpErr_yes ⟨⟨hs.1, hs.2, by assumption⟩, by assumption, by assumption, hp, by assumption, hn⟩]; rfl, Kept.trans ((Kept.refl _ _).alloc _) k1⟩
            | (have hno : ¬ Shp sector sectors journal pack cmin cnorm cmax nbits := by
                 rintro ⟨⟨a1, a2, a3⟩, b, c, d, e, f⟩
                 first | contradiction | omega
               first
                 | exact ⟨by rw [shpErr_no hno]; rfl, Kept.trans ((Kept.refl _ _).alloc _) k1⟩
                 | exact ⟨by rw [shpErr_no hno]; rfl, (Kept.refl _ _).alloc _⟩)
    · go_enter Tryd.func26, Tryd.ntmps26
      go_wp2_with (first
        | (go_at_call 53; refine (within_any _ _ _ _).mono ?_; rintro e w1 ⟨rfl, rfl⟩)
        | (go_at_call 54; refine (pow2_any _ _ (by omega) (by omega)).mono ?_; rintro e w1 ⟨rfl, rfl⟩))
      all_goals
        go_returns
        exact ⟨by rw [shpErr_no fun k => hp k.2.2.2.1]; rfl, (Kept.refl _ _).alloc _⟩
  · go_enter Tryd.func26, Tryd.ntmps26
    go_wp2_with (go_at_call 53; refine (within_any _ _ _ _).mono ?_; rintro e w1 ⟨rfl, rfl⟩)
    all_goals
      go_returns
      exact ⟨by rw [shpErr_no fun k => hs ⟨k.1.1, k.1.2.1⟩]; rfl, (Kept.refl _ _).alloc _⟩
end Go.Proofs.YtilkpboegpfijaaDoor
