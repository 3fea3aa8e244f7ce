/- The document's disk: Crash. -/
import Derived.Test.YteoajgphahobiaaR4
namespace Go.Proofs.Yteoajgphahobiaa
open Go.RowKit
set_option linter.unusedVariables false
theorem mayB_step (m : Nat) : ∀ (ks : List Int) (y : Int), mayB m y ks = true → ∀ k (h : k + 1 < ks.length), ks[k] < ks[k + 1]
  | [], _, _, k, h => by simp at h
  | [_], _, _, k, h => by simp at h
  | z :: z2 :: t, y, h, k, hk => by
    unfold mayB at h
    by_cases hz : z < y ∨ (m : Int) ≤ z
    · rw [if_pos hz] at h; cases h
    · rw [if_neg hz] at h
      match k with
      | 0 =>
        unfold mayB at h
        by_cases hz2 : z2 < z + 1 ∨ (m : Int) ≤ z2
        · rw [if_pos hz2] at h; cases h
        · show z < z2; omega
      | k + 1 => exact mayB_step m (z2 :: t) (z + 1) h k (by simpa using hk)
/-- From where on a place may be. -/
def leastOf (ks : List Int) (k : Nat) : Int := if k = 0 then 0 else ks.getD (k - 1) 0 + 1
set_option maxHeartbeats 2000000 in
set_option maxRecDepth 100000 in
theorem r_crashNo (g m qc : Nat) (qa : Option Addr) (kv : Value) (ks : List Int) (w : World) (hk : Ints w kv ks) (hl : ks.length ≤ 140737488355328) (hkz : ∀ z ∈ ks, -9223372036854775808 ≤ z ∧ z ≤ 9223372036854775807) (c3 : w.cell? ⟨g, 3, none⟩ = some (.slice qa m qc)) (hm : m ≤ 4398046511104) (hy : mayB m 0 ks = false) :
    Calls Try.prog 49 #[.pointer (some ⟨g, 0, none⟩), kv] w fun e w' => e = .returned (.int .i64 1) ∧ Same w w' := by
  obtain ⟨a, cap, rfl⟩ := hk.form
  have HKS := hidden hk
  clear hk
  go_enter Try.func49, Try.ntmps49
  go_wp2
  go_loopw [5] (fun i wr => ∃ k : Nat, k ≤ ks.length ∧ i = .int .i64 k ∧ Hid (mayB m (leastOf ks k) (ks.drop k) = false) ∧ Hid (0 ≤ leastOf ks k) ∧ Same w wr) (fun i wr => ks.length - (intOf i).toNat)
  case atStart => exact ⟨0, Nat.zero_le _, rfl, by simpa [Hid, leastOf] using hy, by simp [Hid, leastOf], Kept.refl _ _⟩
  case round =>
    obtain ⟨k, hk, rfl, hmb, h0, hS⟩ := hrel
    have SA := hidden hS
    have d3 : wr.cell? ⟨g, 3, none⟩ = some (.slice qa m qc) := Kept.cell hS (fun h => h) c3
    by_cases hlt : k < ks.length
    · rcases HKS.out with ⟨_, h0'⟩ | ⟨b1, e1', e1, hc1⟩
      · rw [h0'] at hlt; simp at hlt
      obtain ⟨rfl, rfl⟩ : a = some b1 ∧ cap = e1' := by simpa using e1
      have x1 := Kept.cell hS (fun h => h) (hc1 k hlt)
      have hmb' := hmb.out
      rw [List.drop_eq_getElem_cons hlt] at hmb'
      unfold mayB at hmb'
      have q0 : (0 : Int) ≤ (k : Int) := Int.natCast_nonneg _
      have q1 : (k : Int) < (ks.length : Int) := by omega
      obtain ⟨z, hz⟩ : ∃ z, ks[k] = z := ⟨_, rfl⟩
      rw [hz] at x1 hmb'
      have hnx : leastOf ks (k + 1) = z + 1 := by unfold leastOf; rw [if_neg (by omega), Nat.add_sub_cancel, List.getD_eq_getElem?_getD, List.getElem?_eq_getElem hlt, hz]; rfl
      have HNX := hidden hnx
      have hzr := hkz z (hz ▸ List.getElem_mem hlt)
      by_cases hk0 : k = 0
      · have e0 : leastOf ks k = 0 := by rw [hk0]; rfl
        have e1' : ¬ (0 : Int) < (k : Int) := by omega
        rw [e0] at hmb'
        have HK0 := hidden hk0
        clear hk0 e0
        by_cases h1 : z < 0
        · clear hS hmb' hnx hz hc1 e1
          have bb0 : decide (z < 0) = true := by simp; omega
          go_wp2
          go_quiet (fail)
          go_wp2
          go_returns
          exact ⟨rfl, SA.out.drewN _⟩
        · by_cases h2 : (m : Int) ≤ z
          · have h3 : ¬ z < (m : Int) := by omega
            clear hS hmb' hnx hz hc1 e1
            have bb0 : decide (z < 0) = false := by simp; omega
            have bb1 : decide ((m : Int) ≤ z) = true := by simp; omega
            go_wp2
            go_quiet (fail)
            go_wp2
            go_returns
            exact ⟨rfl, SA.out.drewN _⟩
          · have h3 : z < (m : Int) := by omega
            rw [if_neg (by omega)] at hmb'
            have HMB := hidden hmb'
            clear hS hmb' hnx hz hc1 e1
            have bb0 : decide (z < 0) = false := by simp; omega
            have bb1 : decide ((m : Int) ≤ z) = false := by simp; omega
            have bb2 : decide ((0 : Int) < (k : Int)) = false := by simp; omega
            have bb3 : decide (0 < k) = false := by simp; omega
            go_wp2
            go_quiet (fail)
            go_wp2
            go_roundw
            case rel => exact ⟨k + 1, by omega, by go_num, by rw [Hid, HNX.out]; exact HMB.out, by rw [Hid, HNX.out]; omega, SA.out.drewN _⟩
            case measure => simp [intOf]; omega
      · obtain ⟨j, hj⟩ : ∃ j, k = j + 1 := ⟨k - 1, by omega⟩
        have hjl : j < ks.length := by omega
        have e0 : leastOf ks k = ks[j] + 1 := by unfold leastOf; rw [if_neg hk0, hj, Nat.add_sub_cancel, List.getD_eq_getElem?_getD, List.getElem?_eq_getElem hjl]; rfl
        have x0 := Kept.cell hS (fun h => h) (hc1 j hjl)
        have h0' := h0.out
        rw [e0] at hmb' h0'
        obtain ⟨y, hy'⟩ : ∃ y, ks[j] = y := ⟨_, rfl⟩
        rw [hy'] at x0 hmb' h0'
        have e5 : IntKind.i64.wrap ((k : Int) - 1) = (j : Int) := by rw [IntKind.wrap_i64]; omega
        have e6 : ((k : Int) - 1) = (j : Int) := by omega
        have e7 : (0 : Int) < (k : Int) := by omega
        have e8 : (0 : Int) ≤ (j : Int) := by omega
        have e9 : (j : Int) < (ks.length : Int) := by omega
        have HJ := hidden hj
        clear hj hk0 e0 hy'
        by_cases h1 : z < 0
        · clear hS hmb' hnx hz hc1 e1
          have bb0 : decide (z < 0) = true := by simp; omega
          go_wp2
          go_quiet (fail)
          go_wp2
          go_returns
          exact ⟨rfl, SA.out.drewN _⟩
        · by_cases h2 : (m : Int) ≤ z
          · have h3 : ¬ z < (m : Int) := by omega
            clear hS hmb' hnx hz hc1 e1
            have bb0 : decide (z < 0) = false := by simp; omega
            have bb1 : decide ((m : Int) ≤ z) = true := by simp; omega
            go_wp2
            go_quiet (fail)
            go_wp2
            go_returns
            exact ⟨rfl, SA.out.drewN _⟩
          · have h3 : z < (m : Int) := by omega
            by_cases h4 : z ≤ y
            · have h5 : ¬ y < z := by omega
              clear hS hmb' hnx hz hc1 e1
              have bb0 : decide (z < 0) = false := by simp; omega
              have bb1 : decide ((m : Int) ≤ z) = false := by simp; omega
              have bb2 : decide ((0 : Int) < (k : Int)) = true := by simp; omega
              have bb3 : decide (z ≤ y) = true := by simp; omega
              have bb4 : decide (0 < k) = true := by simp; omega
              go_wp2
              go_quiet (fail)
              go_wp2
              go_returns
              exact ⟨rfl, SA.out.drewN _⟩
            · have h5 : y < z := by omega
              rw [if_neg (by omega)] at hmb'
              have HMB := hidden hmb'
              clear hS hmb' hnx hz hc1 e1
              have bb0 : decide (z < 0) = false := by simp; omega
              have bb1 : decide ((m : Int) ≤ z) = false := by simp; omega
              have bb2 : decide ((0 : Int) < (k : Int)) = true := by simp; omega
              have bb3 : decide (z ≤ y) = false := by simp; omega
              have bb4 : decide (0 < k) = true := by simp; omega
              go_wp2
              go_quiet (fail)
              go_wp2
              go_roundw
              case rel => exact ⟨k + 1, by omega, by go_num, by rw [Hid, HNX.out]; exact HMB.out, by rw [Hid, HNX.out]; omega, SA.out.drewN _⟩
              case measure => simp [intOf]; omega
    · exfalso
      have := hmb.out
      rw [List.drop_of_length_le (by omega)] at this
      simp [mayB] at this
end Go.Proofs.Yteoajgphahobiaa
