/- The document's Check, Mix, first and Next, walked. -/
import Derived.Test.YtdmekpokgnieeaaDoorCut4
namespace Go.Proofs.YtdmekpokgnieeaaDoor
open Go.RowKit
set_option linter.unusedVariables false
attribute [local go_sem ↓] Go.wp_at_zero Go.wp_at_succ

theorem pow_upto (no : Int) : (∃ i, i < 13 ∧ no = ((16 * 2 ^ i : Nat) : Int)) ↔ Pow no := by
  constructor
  · rintro ⟨i, hi, rfl⟩
    have hk : i = 0 ∨ i = 1 ∨ i = 2 ∨ i = 3 ∨ i = 4 ∨ i = 5 ∨ i = 6 ∨ i = 7 ∨ i = 8 ∨ i = 9 ∨ i = 10 ∨ i = 11 ∨ i = 12 := by omega
    rcases hk with rfl | rfl | rfl | rfl | rfl | rfl | rfl | rfl | rfl | rfl | rfl | rfl | rfl <;> decide
  · intro h
    obtain ⟨k, h1, h2, rfl⟩ := pow_is h
    refine ⟨k - 4, by omega, ?_⟩
    rw [show 2 ^ k = 2 ^ (4 + (k - 4)) by congr 1; omega, Nat.pow_add]
theorem upto_succ (no : Int) (j : Nat) : (∃ i, i < j + 1 ∧ no = ((16 * 2 ^ i : Nat) : Int)) ↔ (∃ i, i < j ∧ no = ((16 * 2 ^ i : Nat) : Int)) ∨ no = ((16 * 2 ^ j : Nat) : Int) := by
  constructor
  · rintro ⟨i, hi, e⟩
    by_cases hij : i = j
    · subst hij; exact Or.inr e
    · exact Or.inl ⟨i, by omega, e⟩
  · rintro (⟨i, hi, e⟩ | e)
    · exact ⟨i, by omega, e⟩
    · exact ⟨j, by omega, e⟩
theorem pow_bound (j : Nat) : (j < 13 → 16 * 2 ^ j ≤ 65536) ∧ (j = 13 → 65536 < 16 * 2 ^ j ∧ 16 * 2 ^ j ≤ 200000) ∧ 16 ≤ 16 * 2 ^ j := by
  refine ⟨fun h => ?_, fun h => ?_, ?_⟩
  · have : 2 ^ j ≤ 2 ^ 12 := Nat.pow_le_pow_right (by decide) (by omega)
    omega
  · subst h; decide
  · have := Nat.two_pow_pos j
    omega
set_option maxHeartbeats 2000000 in
set_option maxRecDepth 100000 in
theorem refCheck_any (mn no mx : Int) (seed : Nat) (w : World) (h0 : -9223372036854775808 ≤ no) (h1 : no ≤ 9223372036854775807) :
    Calls Tryd.prog 12 #[.agg #[.int .i64 mn, .int .i64 no, .int .i64 mx, .int .u64 seed]] w fun e w' => e = .returned (.int .i64 (cutErr mn no mx)) ∧ Same w w' := by
  go_enter Tryd.func12, Tryd.ntmps12
  go_wp2
  go_loop [3, 4] (fun b p => ∃ (j : Nat) (q : Bool), j ≤ 13 ∧ b = .bool q ∧ p = .int .i64 (16 * 2 ^ j : Nat) ∧ (q = true ↔ ∃ i, i < j ∧ no = ((16 * 2 ^ i : Nat) : Int))) (fun _ p => 131072 - (intOf p).toNat)
  case atStart => exact ⟨0, false, by omega, rfl, rfl, by simp⟩
  case round =>
    obtain ⟨j, q, hj, rfl, rfl, hq⟩ := hrel
    have hb := pow_bound j
    have HB := hidden hb
    have HQ := hidden hq
    have HN : Hid (16 * 2 ^ (j + 1) = 2 * (16 * 2 ^ j)) := hidden (by rw [Nat.pow_succ]; omega)
    clear hq
    by_cases hlt : j < 13
    · have hP := hb.1 hlt
      have hP2 := hb.2.2
      clear hb
      have HI : Hid ((∃ i, i < j + 1 ∧ no = ((16 * 2 ^ i : Nat) : Int)) ↔ (∃ i, i < j ∧ no = ((16 * 2 ^ i : Nat) : Int)) ∨ no = ((16 * 2 ^ j : Nat) : Int)) := hidden (upto_succ no j)
      obtain ⟨P, hPe⟩ : ∃ P, 16 * 2 ^ j = P := ⟨_, rfl⟩
      rw [hPe] at hP hP2 HN HI ⊢
      clear HB hPe
      cases q with
      | true =>
        go_wp2
        go_round
        case rel => exact ⟨j + 1, true, by omega, rfl, by rw [HN.out]; go_num, ⟨fun _ => HI.out.2 (Or.inl (HQ.out.1 rfl)), fun _ => rfl⟩⟩
        case measure => simp [intOf]; omega
      | false =>
        by_cases he : no = (P : Int)
        · have heb : (no == (P : Int)) = true := beq_iff_eq.2 he
          have HE := hidden he
          clear he
          go_wp2
          go_round
          case rel => exact ⟨j + 1, true, by omega, rfl, by rw [HN.out]; go_num, ⟨fun _ => HI.out.2 (Or.inr HE.out), fun _ => rfl⟩⟩
          case measure => simp [intOf]; omega
        · have heb : (no == (P : Int)) = false := beq_eq_false_iff_ne.2 he
          have HE := hidden he
          clear he
          go_wp2
          go_round
          case rel => exact ⟨j + 1, false, by omega, rfl, by rw [HN.out]; go_num, ⟨fun h => absurd h (by simp), fun h => (HI.out.1 h).elim HQ.out.2 (fun h => absurd h HE.out)⟩⟩
          case measure => simp [intOf]; omega
    · obtain rfl : j = 13 := by omega
      have hq2 := HQ.out.trans (pow_upto no)
      clear hb HB HN HQ
      cases q with
      | false =>
        have HQ2 : Hid (¬ Pow no) := hidden (fun h => by cases hq2.2 h)
        clear hq2
        go_wp2
        go_returns
        exact ⟨cutErr_no fun k => HQ2.out k.1.2.2, same_alloc _ _⟩
      | true =>
        have hq3 : Pow no := hq2.1 rfl
        have hr : 16 ≤ no ∧ no ≤ 65536 := by unfold Pow at hq3; omega
        have HQ2 := hidden hq3
        clear hq2 hq3
        obtain ⟨hr1, hr2⟩ := hr
        go_wp2
        all_goals
          go_returns
          refine ⟨?_, same_alloc _ _⟩
          first
            | exact cutErr_yes ⟨⟨hr1, hr2, HQ2.out⟩, ⟨by omega, by omega⟩, by omega, by omega⟩
            | (refine cutErr_no fun k => ?_; obtain ⟨_, ⟨b1, b2⟩, c1, c2⟩ := k; omega)
set_option maxHeartbeats 400000 in
set_option maxRecDepth 100000 in
theorem refMix_any (x : Nat) (w : World) (hx : x < 18446744073709551616) : Calls Tryd.prog 30 #[.int .u64 x] w fun e w' => e = .returned (.int .u64 (mixN x : Nat)) ∧ w = w' := by
  have HG : Hid (mixN x = mixC (mixB (mixA x))) := hidden rfl
  go_enter Tryd.func30, Tryd.ntmps30
  go_wp2
  go_returns
  rw [mixA_int x hx, mixB_int _ (mixA_lt x), mixC_int _ (mixB_lt _), HG.out]
  exact ⟨rfl, rfl⟩
end Go.Proofs.YtdmekpokgnieeaaDoor
