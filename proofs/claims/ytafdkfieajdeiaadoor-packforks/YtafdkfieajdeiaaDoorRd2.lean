/- codec.Reader: varints, texts, raw bytes; what is asked of it; a new one. -/
import Derived.Test.YtafdkfieajdeiaaDoorRd
namespace Go.Proofs.YtafdkfieajdeiaaDoor
open Go.RowKit
set_option linter.unusedVariables false

theorem drop_byte (s : ByteArray) (k : Nat) (h : k < s.size) : s.data.toList.drop k = s[k] :: s.data.toList.drop (k + 1) := by
  rw [List.drop_eq_getElem_cons (by rw [size_list]; exact h)]
  rfl
theorem bne_yes {a b : Int} (h : (a != b) = true) : a ≠ b := by simpa using h
theorem bne_no {a b : Int} (h : (a != b) = false) : a = b := by simpa using h
theorem group_fits (b k : Nat) (h : k < 9 ∨ b = 1) (hk : k ≤ 9) : b % 128 * 128 ^ k < 18446744073709551616 := by
  have h9 : (128 : Nat) ^ 9 = 9223372036854775808 := by decide
  rcases Nat.lt_or_ge k 9 with hk8 | hk9
  · have : (128 : Nat) ^ k ≤ 128 ^ 8 := Nat.pow_le_pow_right (by decide) (by omega)
    have hm : b % 128 * 128 ^ k ≤ 127 * 128 ^ 8 := Nat.mul_le_mul (by omega) this
    exact Nat.lt_of_le_of_lt hm (by decide)
  · obtain rfl : k = 9 := by omega
    obtain rfl : b = 1 := by omega
    rw [h9]; decide
theorem or_group (N b k : Nat) (hN : N < 128 ^ k) (hk : k ≤ 9) (hb : b < 256) (hv : b % 128 * 128 ^ k < 18446744073709551616) :
    bits .or .u64 (N : Int) (IntKind.u64.wrap (IntKind.u64.wrap (bits .and .u8 (b : Int) 127) * 2 ^ (7 * k))) = ((N + b % 128 * 128 ^ k : Nat) : Int) := by
  have e1 : bits .and .u8 (b : Int) 127 = ((b % 128 : Nat) : Int) := by
    rw [show (127 : Int) = ((127 : Nat) : Int) from rfl, u8_and_nat _ _ hb (by decide)]
    have := Nat.and_two_pow_sub_one_eq_mod b 7
    rw [show (2 : Nat) ^ 7 - 1 = 127 from rfl, show (2 : Nat) ^ 7 = 128 from rfl] at this
    rw [this]
  have e2 : IntKind.u64.wrap ((b % 128 : Nat) : Int) = ((b % 128 : Nat) : Int) := by rw [IntKind.wrap_u64]; omega
  have ep : (2 : Nat) ^ (7 * k) = 128 ^ k := by rw [Nat.pow_mul]
  have e3 : ((b % 128 : Nat) : Int) * 2 ^ (7 * k) = ((b % 128 * 128 ^ k : Nat) : Int) := by
    rw [← ep, Int.natCast_mul, Int.natCast_pow]
    rfl
  have e4 : IntKind.u64.wrap ((b % 128 * 128 ^ k : Nat) : Int) = ((b % 128 * 128 ^ k : Nat) : Int) := by
    rw [IntKind.wrap_u64]
    clear e3
    generalize b % 128 * 128 ^ k = m at hv ⊢
    omega
  have hN64 : N < 18446744073709551616 := by
    have : (128 : Nat) ^ k ≤ 128 ^ 9 := Nat.pow_le_pow_right (by decide) hk
    exact Nat.lt_of_lt_of_le (Nat.lt_of_lt_of_le hN this) (by decide)
  rw [e1, e2, e3, e4, u64_or_nat _ _ hN64 hv, ← ep, Nat.or_comm, Nat.mul_comm, ← Nat.two_pow_add_eq_or_of_lt (by rw [ep]; exact hN), Nat.add_comm]
end Go.Proofs.YtafdkfieajdeiaaDoor
