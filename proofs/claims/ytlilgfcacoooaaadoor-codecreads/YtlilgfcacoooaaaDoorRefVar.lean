/- The document's ReadVarint, walked: it tells what the groups say. -/
import Derived.Test.YtlilgfcacoooaaaDoorRefVarP
namespace Go.Proofs.YtlilgfcacoooaaaDoor
open Go.RowKit
set_option linter.unusedVariables false

theorem byte128 (n b : Nat) (hn : n * 128 + b % 128 < 18446744073709551616) : IntKind.u64.wrap (IntKind.u64.wrap ((n : Int) * 128) + (b : Int) % 128) = ((b % 128 + 128 * n : Nat) : Int) := by
  rw [IntKind.wrap_u64, IntKind.wrap_u64]
  omega
/-- The number of the groups up to place k, reckoned from the last one on. -/
theorem refVar_groups (s : ByteArray) (k : Nat) (hk : k < s.size) (hk9 : k ≤ 9) (hb : gs (s.data.toList.take (k + 1)) < 18446744073709551616) (j : Nat) : gs ((s.data.toList.take (k + 1)).drop j) < 18446744073709551616 :=
  Nat.lt_of_le_of_lt (gs_drop_le _ j) hb
set_option maxHeartbeats 1000000 in
set_option maxRecDepth 100000 in
theorem refVar (s : ByteArray) (w : World) (hs : s.size ≤ 281474976710656) : Calls Tryd.prog 97 #[.string s] w fun e w' => e = .returned (.tuple #[.int .u64 ((fv 0 0 s.data.toList).1 : Nat), .int .i64 ((fv 0 0 s.data.toList).2.1 : Nat), .int .i64 (fv 0 0 s.data.toList).2.2]) ∧ w = w' := by
  have hRl := fv_lt s.data.toList 0 0 (by decide) (by decide)
  obtain ⟨R, hR⟩ : ∃ R, R = fv 0 0 s.data.toList := ⟨_, rfl⟩
  rw [← hR] at hRl ⊢
  have HR := hidden hR
  have HRl := hidden hRl
  clear hR hRl
  go_enter Tryd.func97, Tryd.ntmps97
  go_wp2
  go_loop [5] (fun i => ∃ k : Nat, k ≤ 9 ∧ k ≤ s.size ∧ i = .int .i64 k ∧ fv k (gs (s.data.toList.take k)) (s.data.toList.drop k) = R) (fun i => 10 - (intOf i).toNat)
  case atStart => exact ⟨0, by decide, Nat.zero_le _, rfl, by rw [HR.out]; rfl⟩
  case round =>
    obtain ⟨k, hk9, hks, rfl, hf⟩ := hrel
    by_cases hlt : k < s.size
    · have hd := drop_byte s k hlt
      have hb := s[k].toNat_lt
      by_cases h128 : 128 ≤ s[k].toNat
      · by_cases h9 : k = 9
        · have e := fv_a hf hd h9 (by omega)
          subst h9
          have HE := hidden e
          clear hf hd e
          go_wp2
          go_returns
          rw [HE.out]
          exact ⟨rfl, rfl⟩
        · have e := fv_b hf hd h9 h128
          rw [← gs_take s k hlt] at e
          have h9b : ((k : Int) == 9) = false := by simp; omega
          have HE := hidden e
          clear hf hd e
          go_wp2
          go_round
          case rel => exact ⟨k + 1, by omega, by omega, by go_num, HE.out⟩
          case measure => simp [intOf]; omega
      · by_cases hz : s[k].toNat = 0 ∧ 0 < k
        · have e : R = (0, 0, 21) := by
            by_cases h9 : k = 9
            · exact fv_a hf hd h9 (by omega)
            · exact fv_c hf hd (fun h => h9 h.1) hz.1 hz.2
          have HE := hidden e
          clear hf hd e
          have hz1 := hz.1
          have hz2 := hz.2
          by_cases h9 : k = 9
          · subst h9
            go_wp2
            go_returns
            rw [HE.out]
            exact ⟨rfl, rfl⟩
          · have h9b : ((k : Int) == 9) = false := by simp; omega
            go_wp2
            go_returns
            rw [HE.out]
            exact ⟨rfl, rfl⟩
        · by_cases hbad : k = 9 ∧ 1 < s[k].toNat
          · have e := fv_a hf hd hbad.1 (by omega)
            have h9 := hbad.1
            have h1 := hbad.2
            subst h9
            have HE := hidden e
            clear hf hd e
            go_wp2
            go_returns
            rw [HE.out]
            exact ⟨rfl, rfl⟩
          · have e := fv_d hf hd (by omega) (by omega) hz
            rw [← gs_take s k hlt] at e
            have hg : gs (s.data.toList.take (k + 1)) < 18446744073709551616 := by
              have := HRl.out
              rw [e] at this
              exact this
            have HE := hidden e
            have HG := hidden fun j => refVar_groups s k hlt hk9 hg j
            have HS := hidden fun j hj => gs_step s k j hlt hj
            have HN := hidden (gs_none s k)
            clear hf hd e hg
            obtain ⟨T, hT⟩ : ∃ T : Nat → Nat, T = fun j => gs ((s.data.toList.take (k + 1)).drop j) := ⟨_, rfl⟩
            have HE' : Hid (R = (T 0, k + 1, 0)) := hidden (by rw [HE.out, hT]; simp)
            have HG' : Hid (∀ j, T j < 18446744073709551616) := hidden (by rw [hT]; exact HG.out)
            have HS' : Hid (∀ j, (hj : j ≤ k) → T j = (s[j]'(by omega)).toNat % 128 + 128 * T (j + 1)) := hidden (by rw [hT]; exact HS.out)
            have HN' : Hid (T (k + 1) = 0) := hidden (by rw [hT]; exact HN.out)
            clear hT HE HG HS HN
            have hcs : (k = 9 ∧ s[k].toNat = 1) ∨ (k ≠ 9 ∧ s[k].toNat ≠ 0) ∨ (k = 0 ∧ s[k].toNat = 0) := by omega
            rcases hcs with ⟨h9, h1⟩ | ⟨h9, h1⟩ | ⟨h9, h1⟩
            · subst h9
              go_wp2
              go_loop [6, 7] (fun n i => ∃ j : Nat, j ≤ 9 + 1 ∧ i = .int .i64 ((j : Int) - 1) ∧ n = .int .u64 (T j : Nat)) (fun _ i => (intOf i + 1).toNat)
              case atStart => exact ⟨9 + 1, Nat.le_refl _, by go_num, by rw [HN'.out]; rfl⟩
              case round =>
                obtain ⟨j, hj, rfl, rfl⟩ := hrel
                cases j with
                | zero =>
                  go_wp2
                  go_returns
                  rw [HE'.out]
                  first
                    | exact ⟨rfl, rfl⟩
                    | exact ⟨by go_num, rfl⟩
                | succ j =>
                  have st := HS'.out j (by omega)
                  have lt := HG'.out j
                  have hlt' : j < s.size := by omega
                  have hw := byte128 (T (j + 1)) s[j].toNat (by omega)
                  have hij : (((j + 1 : Nat) : Int) - 1) = (j : Int) := by omega
                  rw [← st] at hw
                  have HW := hidden hw
                  clear st hw
                  rw [hij]
                  go_wp2
                  exact ⟨⟨j, by omega, rfl, by rw [HW.out]⟩, by simp [intOf]⟩
            · have h9b : ((k : Int) == 9) = false := by simp; omega
              have h1b : ((s[k].toNat : Int) == 0) = false := by simp; omega
              go_wp2
              go_loop [6, 7] (fun n i => ∃ j : Nat, j ≤ k + 1 ∧ i = .int .i64 ((j : Int) - 1) ∧ n = .int .u64 (T j : Nat)) (fun _ i => (intOf i + 1).toNat)
              case atStart => exact ⟨k + 1, Nat.le_refl _, by go_num, by rw [HN'.out]; rfl⟩
              case round =>
                obtain ⟨j, hj, rfl, rfl⟩ := hrel
                cases j with
                | zero =>
                  go_wp2
                  go_returns
                  rw [HE'.out]
                  first
                    | exact ⟨rfl, rfl⟩
                    | exact ⟨by go_num, rfl⟩
                | succ j =>
                  have st := HS'.out j (by omega)
                  have lt := HG'.out j
                  have hlt' : j < s.size := by omega
                  have hw := byte128 (T (j + 1)) s[j].toNat (by omega)
                  have hij : (((j + 1 : Nat) : Int) - 1) = (j : Int) := by omega
                  rw [← st] at hw
                  have HW := hidden hw
                  clear st hw
                  rw [hij]
                  go_wp2
                  exact ⟨⟨j, by omega, rfl, by rw [HW.out]⟩, by simp [intOf]⟩
            · subst h9
              have h1b : ((s[0].toNat : Int) == 0) = true := by simp; omega
              have hne : ¬ s = ByteArray.empty := fun hh => by rw [hh] at hlt; simp at hlt
              go_wp2
              go_loop [6, 7] (fun n i => ∃ j : Nat, j ≤ 0 + 1 ∧ i = .int .i64 ((j : Int) - 1) ∧ n = .int .u64 (T j : Nat)) (fun _ i => (intOf i + 1).toNat)
              case atStart => exact ⟨0 + 1, Nat.le_refl _, by go_num, by rw [HN'.out]; rfl⟩
              case round =>
                obtain ⟨j, hj, rfl, rfl⟩ := hrel
                cases j with
                | zero =>
                  go_wp2
                  go_returns
                  rw [HE'.out]
                  first
                    | exact ⟨rfl, rfl⟩
                    | exact ⟨by go_num, rfl⟩
                | succ j =>
                  have st := HS'.out j (by omega)
                  have lt := HG'.out j
                  have hlt' : j < s.size := by omega
                  have hw := byte128 (T (j + 1)) s[j].toNat (by omega)
                  have hij : (((j + 1 : Nat) : Int) - 1) = (j : Int) := by omega
                  rw [← st] at hw
                  have HW := hidden hw
                  clear st hw
                  rw [hij]
                  go_wp2
                  exact ⟨⟨j, by omega, rfl, by rw [HW.out]⟩, by simp [intOf]⟩
    · obtain rfl : k = s.size := by omega
      have e : R = (0, 0, 20) := by
        rw [← hf, List.drop_of_length_le (by rw [size_list]; exact Nat.le_refl _)]
        rfl
      have HE := hidden e
      clear hf e
      go_wp2
      go_returns
      rw [HE.out]
      exact ⟨rfl, rfl⟩
end Go.Proofs.YtlilgfcacoooaaaDoor
