/- The document's Read and Split; two slices of numbers held against each other. -/
import Derived.Test.YtlilgfcacoooaaaDoorSplit
import Derived.BigQuiet
import Derived.Deep.QuietTactic
namespace Go.Proofs.YtlilgfcacoooaaaDoor
open Go.RowKit
set_option linter.unusedVariables false

theorem add_byte (N b : Nat) (hN : N < 72057594037927936) (hb : b < 256) : IntKind.u64.wrap ((N : Int) * 256 + IntKind.u64.wrap (b : Int)) = ((N * 256 + b : Nat) : Int) := by
  rw [IntKind.wrap_u64, IntKind.wrap_u64]
  omega
set_option maxHeartbeats 1000000 in
set_option maxRecDepth 100000 in
theorem refRead (s : ByteArray) (w : World) (hs : s.size ≤ 8) : Calls Tryd.prog 65 #[.string s] w fun e w' => e = .returned (.int .u64 (num s.data.toList : Nat)) ∧ w = w' := by
  go_enter Tryd.func65, Tryd.ntmps65
  go_wp2
  go_loop [3, 4] (fun n i => ∃ k : Nat, k ≤ s.size ∧ i = .int .i64 k ∧ n = .int .u64 (num (s.data.toList.take k) : Nat)) (fun _ i => s.size - (intOf i).toNat)
  case atStart => exact ⟨0, Nat.zero_le _, rfl, rfl⟩
  case round =>
    obtain ⟨k, hk, rfl, rfl⟩ := hrel
    by_cases hlt : k < s.size
    · have hN := num_take_lt s k (by omega)
      have hstep := take_num s k hlt
      have HS := hidden hstep
      have ha := add_byte (num (s.data.toList.take k)) s[k].toNat hN s[k].toNat_lt
      have HA := hidden ha
      clear hstep ha
      go_wp2
      go_round
      case rel => exact ⟨k + 1, by omega, by go_num, by rw [HS.out]; first | rw [← HA.out] | (rw [← HA.out]; go_num)⟩
      case measure => simp [intOf]; omega
    · obtain rfl : k = s.size := by omega
      rw [List.take_of_length_le (by rw [size_list]; exact Nat.le_refl _)]
      go_wp2
      go_returns
      exact ⟨rfl, rfl⟩
end Go.Proofs.YtlilgfcacoooaaaDoor
