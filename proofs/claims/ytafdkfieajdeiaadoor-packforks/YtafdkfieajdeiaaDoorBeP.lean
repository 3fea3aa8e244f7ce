/- The number of its own bytes, of no program. -/
import Derived.Test.YtafdkfieajdeiaaDoorRPure
namespace Go.Proofs.YtafdkfieajdeiaaDoor
theorem be_succ' (s n : Nat) : be (s + 1) n = be s (n / 256) ++ [UInt8.ofNat n] := by
  unfold be
  rw [List.range_succ, List.map_append, List.map_singleton]
  congr 1
  · apply List.map_congr_left
    intro i hi
    have hi' : i < s := List.mem_range.1 hi
    congr 1
    rw [show s + 1 - 1 - i = (s - 1 - i) + 1 by omega, Nat.mul_add, Nat.pow_add, Nat.mul_comm, ← Nat.div_div_eq_div_mul]
  · simp
theorem num_be' : ∀ (s n : Nat), num (be s n) = n % 256 ^ s := by
  intro s
  induction s with
  | zero => intro n; simp [be, num, Nat.mod_one]
  | succ s ih =>
    intro n
    have e : (256 : Nat) ^ (s + 1) = 256 * 256 ^ s := by rw [Nat.pow_succ, Nat.mul_comm]
    rw [be_succ', num_snoc, ih, UInt8.toNat_ofNat', e, Nat.mod_mul]
    generalize n / 256 % 256 ^ s = m
    omega
end Go.Proofs.YtafdkfieajdeiaaDoor
