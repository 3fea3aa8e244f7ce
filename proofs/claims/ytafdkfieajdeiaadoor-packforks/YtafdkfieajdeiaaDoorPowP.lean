/- Powers of two from 16 to 65536. Of no program. -/
import Derived.Test.YtafdkfieajdeiaaDoorBase
import Derived.Laws.BitsAllLaws
namespace Go.Proofs.YtafdkfieajdeiaaDoor
open Go.RowKit

theorem land_pow : ∀ (k n : Nat), 0 < n → n < 2 ^ (k + 1) → n &&& (n - 1) = 0 → ∃ j, j ≤ k ∧ n = 2 ^ j := by
  intro k
  induction k with
  | zero => intro n h0 h1 _; exact ⟨0, Nat.le_refl _, by simp at h1; omega⟩
  | succ k ih =>
    intro n h0 h1 h
    have hd : (n &&& (n - 1)) / 2 = n / 2 &&& (n - 1) / 2 := Nat.and_div_two
    rw [h] at hd
    rcases Nat.mod_two_eq_zero_or_one n with he | he
    · have e1 : (n - 1) / 2 = n / 2 - 1 := by omega
      rw [e1] at hd
      obtain ⟨j, hj, e⟩ := ih (n / 2) (by omega) (by rw [Nat.pow_succ] at h1; omega) (by simpa using hd.symm)
      exact ⟨j + 1, by omega, by rw [Nat.pow_succ]; omega⟩
    · have e1 : (n - 1) / 2 = n / 2 := by omega
      rw [e1, Nat.and_self] at hd
      exact ⟨0, by omega, by simp; omega⟩
theorem i64_and_nat (a b : Nat) (ha : a < 9223372036854775808) (hb : b < 9223372036854775808) : bits .and .i64 (a : Int) (b : Int) = ((a &&& b : Nat) : Int) := by
  have hx : a &&& b < 2 ^ 63 := Nat.and_lt_two_pow _ (by omega)
  show IntKind.i64.wrap ((BitVec.ofInt 64 (a : Int) &&& BitVec.ofInt 64 (b : Int)).toNat : Int) = _
  rw [BitVec.toNat_and, ofInt_u64 a (by omega), ofInt_u64 b (by omega), IntKind.wrap_i64]
  omega
/-- A power of two from 16 to 65536. -/
def Pow (n : Int) : Prop := n = 16 ∨ n = 32 ∨ n = 64 ∨ n = 128 ∨ n = 256 ∨ n = 512 ∨ n = 1024 ∨ n = 2048 ∨ n = 4096 ∨ n = 8192 ∨ n = 16384 ∨ n = 32768 ∨ n = 65536
instance (n : Int) : Decidable (Pow n) := by unfold Pow; infer_instance
theorem pow_land (n : Int) (h0 : 16 ≤ n) (h1 : n ≤ 65536) : bits .and .i64 n (n - 1) = 0 ↔ Pow n := by
  constructor
  · intro h
    obtain ⟨m, rfl⟩ := Int.eq_ofNat_of_zero_le (show 0 ≤ n by omega)
    have e : ((m : Int) - 1) = ((m - 1 : Nat) : Int) := by omega
    rw [e, i64_and_nat _ _ (by omega) (by omega)] at h
    obtain ⟨j, hj, ej⟩ := land_pow 16 m (by omega) (by omega) (by exact_mod_cast h)
    unfold Pow
    have hj' : j = 0 ∨ j = 1 ∨ j = 2 ∨ j = 3 ∨ j = 4 ∨ j = 5 ∨ j = 6 ∨ j = 7 ∨ j = 8 ∨ j = 9 ∨ j = 10 ∨ j = 11 ∨ j = 12 ∨ j = 13 ∨ j = 14 ∨ j = 15 ∨ j = 16 := by omega
    rcases hj' with rfl | rfl | rfl | rfl | rfl | rfl | rfl | rfl | rfl | rfl | rfl | rfl | rfl | rfl | rfl | rfl | rfl <;> simp at ej <;> omega
  · intro h
    rcases h with rfl | rfl | rfl | rfl | rfl | rfl | rfl | rfl | rfl | rfl | rfl | rfl | rfl <;> decide +kernel
end Go.Proofs.YtafdkfieajdeiaaDoor
