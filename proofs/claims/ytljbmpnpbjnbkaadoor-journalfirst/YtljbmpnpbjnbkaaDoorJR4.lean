/- journal: which images may be scanned, both sides; the document's Sectors, walked. -/
import Derived.Test.YtljbmpnpbjnbkaaDoorJR3
import Derived.Test.YtljbmpnpbjnbkaaDoorJ3
namespace Go.Proofs.YtljbmpnpbjnbkaaDoor
open Go.RowKit
set_option linter.unusedVariables false
set_option linter.unusedSimpArgs false
theorem pow_next {P : Int} (h : Pow P) : Pow (P * 2) ∨ P * 2 = 131072 := by unfold Pow at *; omega
theorem pow_gap {P q : Int} (h : Pow P) (hq : Pow q) (h1 : q < P * 2) : q ≤ P := by
  unfold Pow at h hq
  rcases h with rfl | rfl | rfl | rfl | rfl | rfl | rfl | rfl | rfl | rfl | rfl | rfl | rfl <;> omega
theorem pow_bounds {P : Int} (h : Pow P) : 16 ≤ P ∧ P ≤ 65536 := by unfold Pow at h; omega
set_option maxHeartbeats 1000000 in
set_option maxRecDepth 100000 in
theorem refPower (n lo hi : Int) (w : World) (hlo : Pow lo) (hhi : Pow hi) : Calls Tryd.prog 30 #[.int .i64 n, .int .i64 lo, .int .i64 hi] w fun e w' => e = .returned (.bool (decide (lo ≤ n ∧ n ≤ hi ∧ Pow n))) ∧ w = w' := by
  obtain ⟨R, hR⟩ : ∃ R, R = decide (lo ≤ n ∧ n ≤ hi ∧ Pow n) := ⟨_, rfl⟩
  rw [← hR]
  have hb := pow_bounds hhi
  have hl := pow_bounds hlo
  have HR := hidden hR
  clear hR
  go_enter Tryd.func30, Tryd.ntmps30
  go_wp2
  go_loop [7] (fun p => ∃ P : Int, p = .int .i64 P ∧ lo ≤ P ∧ (Pow P ∨ P = 131072) ∧ ∀ q, Pow q → lo ≤ q → q < P → n ≠ q) (fun p => (131072 - intOf p).toNat)
  case atStart => exact ⟨lo, rfl, Int.le_refl _, Or.inl hlo, fun q _ h1 h2 => by omega⟩
  case round =>
    obtain ⟨P, rfl, hlP, hP, hq⟩ := hrel
    by_cases h1 : P ≤ hi
    · have hP' : Pow P := by rcases hP with h | h; exact h; omega
      by_cases h2 : n = P
      · go_wp2
        go_returns
        exact ⟨by rw [HR.out, decide_eq_true ⟨by omega, by omega, by rw [h2]; exact hP'⟩]; rfl, rfl⟩
      · have h2b : (n == P) = false := by simpa using h2
        have hPb := pow_bounds hP'
        go_wp2
        go_round
        case rel => exact ⟨P * 2, by go_num, by omega, pow_next hP', fun q hq1 hq2 hq3 => by
          have := pow_gap hP' hq1 hq3
          by_cases hqP : q = P
          · rw [hqP]; exact h2
          · exact hq q hq1 hq2 (by omega)⟩
        case measure => simp [intOf]; omega
    · go_wp2
      go_returns
      refine ⟨?_, rfl⟩
      rw [HR.out, decide_eq_false]
      · rfl
      · rintro ⟨a1, a2, a3⟩
        exact hq n a3 a1 (by omega) rfl

/-- An image that may be scanned: whole sectors, not too many. -/
def MayJ (n : Int) (L : Nat) : Prop := JSize n ∧ (L : Int) % n = 0 ∧ n ≤ L ∧ (L : Int) ≤ 4096 * n
instance (n : Int) (L : Nat) : Decidable (MayJ n L) := by unfold MayJ; infer_instance
set_option maxHeartbeats 1000000 in
set_option maxRecDepth 100000 in
theorem fits_any (n : Int) (ao : Option Addr) (L c : Nat) (hL : L ≤ 281474976710656) (w : World) : Calls Tryd.prog 46 #[.int .i64 n, .slice ao L c] w fun e w' => e = .returned (.bool (decide (MayJ n L))) ∧ w = w' := by
  have HP := hidden (fun W => refPower n 512 4096 W (by unfold Pow; omega) (by unfold Pow; omega))
  have hJ : decide (512 ≤ n ∧ n ≤ 4096 ∧ Pow n) = decide (JSize n) := rfl
  rw [hJ] at HP
  by_cases h1 : JSize n
  · rw [decide_eq_true h1] at HP
    have hn := h1
    unfold JSize at hn
    have et : Int.tmod (L : Int) n = (L : Int) % n := Int.tmod_eq_emod_of_nonneg (by omega)
    have hz : ¬ n = 0 := by omega
    have a1 : IntKind.i64.wrap (4096 * n) = 4096 * n := by rw [IntKind.wrap_i64]; omega
    have a2 : IntKind.i64.wrap ((L : Int) % n) = (L : Int) % n := by
      have := Int.emod_nonneg (L : Int) hz
      have := Int.emod_lt_of_pos (L : Int) (by omega : 0 < n)
      rw [IntKind.wrap_i64]; omega
    have hm1 : ¬ n = -1 := by omega
    by_cases h2 : (L : Int) % n = 0
    · have d2 : ((L : Int) % n == 0) = true := by simpa using h2
      by_cases h3 : n ≤ (L : Int)
      · have d3 : decide (n ≤ (L : Int)) = true := decide_eq_true h3
        by_cases h4 : (L : Int) ≤ 4096 * n
        · have d4 : decide ((L : Int) ≤ 4096 * n) = true := decide_eq_true h4
          have hR := hidden (show decide (MayJ n L) = true from decide_eq_true ⟨h1, h2, h3, h4⟩)
          rw [hR.out]
          go_enter Tryd.func46, Tryd.ntmps46
          go_wp2_with (go_at_call 30; refine (HP.out _).mono ?_; rintro e w1 ⟨rfl, rfl⟩)
          go_returns
          exact ⟨rfl, rfl⟩
        · have d4 : decide ((L : Int) ≤ 4096 * n) = false := decide_eq_false h4
          have hR := hidden (show decide (MayJ n L) = false from decide_eq_false (fun h => h4 h.2.2.2))
          rw [hR.out]
          go_enter Tryd.func46, Tryd.ntmps46
          go_wp2_with (go_at_call 30; refine (HP.out _).mono ?_; rintro e w1 ⟨rfl, rfl⟩)
          go_returns
          exact ⟨rfl, rfl⟩
      · have d3 : decide (n ≤ (L : Int)) = false := decide_eq_false h3
        have hR := hidden (show decide (MayJ n L) = false from decide_eq_false (fun h => h3 h.2.2.1))
        rw [hR.out]
        go_enter Tryd.func46, Tryd.ntmps46
        go_wp2_with (go_at_call 30; refine (HP.out _).mono ?_; rintro e w1 ⟨rfl, rfl⟩)
        go_returns
        exact ⟨rfl, rfl⟩
    · have d2 : ((L : Int) % n == 0) = false := by simpa using h2
      have hR := hidden (show decide (MayJ n L) = false from decide_eq_false (fun h => h2 h.2.1))
      rw [hR.out]
      go_enter Tryd.func46, Tryd.ntmps46
      go_wp2_with (go_at_call 30; refine (HP.out _).mono ?_; rintro e w1 ⟨rfl, rfl⟩)
      go_returns
      exact ⟨rfl, rfl⟩
  · rw [decide_eq_false h1] at HP
    have hR := hidden (show decide (MayJ n L) = false from decide_eq_false (fun h => h1 h.1))
    rw [hR.out]
    go_enter Tryd.func46, Tryd.ntmps46
    go_wp2_with (go_at_call 30; refine (HP.out _).mono ?_; rintro e w1 ⟨rfl, rfl⟩)
    go_returns
    exact ⟨rfl, rfl⟩
set_option maxHeartbeats 1000000 in
set_option maxRecDepth 100000 in
theorem mayScan_any (n : Int) (ao : Option Addr) (L c : Nat) (hL : L ≤ 281474976710656) (w : World) : Calls Tryd.prog 41 #[.int .i64 n, .slice ao L c] w fun e w' => e = .returned (.bool (decide (MayJ n L))) ∧ w = w' := by
  have HP := hidden (j_maySize n)
  by_cases h1 : JSize n
  · rw [decide_eq_true h1] at HP
    have hn := h1
    unfold JSize at hn
    have et : Int.tmod (L : Int) n = (L : Int) % n := Int.tmod_eq_emod_of_nonneg (by omega)
    have ed : Int.tdiv (L : Int) n = (L : Int) / n := Int.tdiv_eq_ediv_of_nonneg (by omega)
    have hz : ¬ n = 0 := by omega
    have hm1 : ¬ n = -1 := by omega
    have hq := Int.mul_ediv_add_emod (L : Int) n
    have hq0 : 0 ≤ (L : Int) / n := Int.ediv_nonneg (by omega) (by omega)
    have hq1 : (L : Int) / n ≤ L := Int.ediv_le_self _ (by omega)
    have a1 : IntKind.i64.wrap ((L : Int) / n) = (L : Int) / n := by rw [IntKind.wrap_i64]; omega
    have a2 : IntKind.i64.wrap ((L : Int) % n) = (L : Int) % n := by
      have := Int.emod_nonneg (L : Int) hz
      have := Int.emod_lt_of_pos (L : Int) (by omega : 0 < n)
      rw [IntKind.wrap_i64]; omega
    have HS := hidden (j_maySectors ((L : Int) / n))
    by_cases h2 : (L : Int) % n = 0
    · have d2 : ((L : Int) % n == 0) = true := by simpa using h2
      have hR := hidden (show decide (MayJ n L) = decide (1 ≤ (L : Int) / n ∧ (L : Int) / n ≤ 4096) by
        rw [decide_eq_decide]
        unfold MayJ
        generalize (L : Int) / n = q at *
        rw [h2, Int.add_zero] at hq
        rw [← hq]
        constructor
        · rintro ⟨_, _, h3, h4⟩
          constructor
          · rcases Int.lt_or_le 0 q with h | h
            · omega
            · have := Int.mul_le_mul_of_nonneg_left h (by omega : 0 ≤ n); omega
          · rcases Int.lt_or_le q 4097 with h | h
            · omega
            · have := Int.mul_le_mul_of_nonneg_left h (by omega : 0 ≤ n); omega
        · rintro ⟨h3, h4⟩
          refine ⟨h1, by rw [hq]; exact h2, ?_, ?_⟩
          · have := Int.mul_le_mul_of_nonneg_left h3 (by omega : 0 ≤ n); omega
          · have := Int.mul_le_mul_of_nonneg_left h4 (by omega : 0 ≤ n); omega)
      rw [hR.out]
      generalize decide (1 ≤ (L : Int) / n ∧ (L : Int) / n ≤ 4096) = D at *
      clear hq
      go_enter Tryd.func41, Tryd.ntmps41
      go_wp2_with (first
        | (go_at_call 28; refine (HP.out _).mono ?_; rintro e w1 ⟨rfl, rfl⟩)
        | (go_at_call 29; refine (HS.out _).mono ?_; rintro e w1 ⟨rfl, rfl⟩))
      go_returns
      exact ⟨rfl, rfl⟩
    · have d2 : ((L : Int) % n == 0) = false := by simpa using h2
      have hR := hidden (show decide (MayJ n L) = false from decide_eq_false (fun h => h2 h.2.1))
      rw [hR.out]
      clear hq
      go_enter Tryd.func41, Tryd.ntmps41
      go_wp2_with (first
        | (go_at_call 28; refine (HP.out _).mono ?_; rintro e w1 ⟨rfl, rfl⟩))
      go_returns
      exact ⟨rfl, rfl⟩
  · rw [decide_eq_false h1] at HP
    have hR := hidden (show decide (MayJ n L) = false from decide_eq_false (fun h => h1 h.1))
    rw [hR.out]
    go_enter Tryd.func41, Tryd.ntmps41
    go_wp2_with (go_at_call 28; refine (HP.out _).mono ?_; rintro e w1 ⟨rfl, rfl⟩)
    go_returns
    exact ⟨rfl, rfl⟩
end Go.Proofs.YtljbmpnpbjnbkaaDoor
