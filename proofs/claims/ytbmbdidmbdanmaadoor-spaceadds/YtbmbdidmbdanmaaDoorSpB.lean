/- Bits, pure: what byte i holds once k bits are told; the document's Bits. -/
import Derived.Test.YtbmbdidmbdanmaaDoorSpR7
namespace Go.Proofs.YtbmbdidmbdanmaaDoor
open Go.RowKit Go.Shelf
set_option linter.unusedVariables false
set_option linter.unusedSimpArgs false
/-- n bits from a on, the first the lowest. -/
def bw (t : Nat → Bool) (a : Nat) : Nat → Nat
  | 0 => 0
  | n + 1 => bw t a n + (t (a + n)).toNat * 2 ^ n
theorem bw_lt (t : Nat → Bool) (a : Nat) : ∀ n, bw t a n < 2 ^ n
  | 0 => by simp [bw]
  | n + 1 => by
    have := bw_lt t a n
    have h2 : (t (a + n)).toNat * 2 ^ n ≤ 2 ^ n := by cases t (a + n) <;> simp
    simp only [bw]
    rw [Nat.pow_succ]
    omega
theorem bw_none {t : Nat → Bool} {a n : Nat} : ∀ m, (∀ j, n ≤ j → j < n + m → t (a + j) = false) → bw t a (n + m) = bw t a n
  | 0, _ => rfl
  | m + 1, h => by
    rw [← Nat.add_assoc]
    simp only [bw]
    rw [bw_none m (fun j h1 h2 => h j h1 (by omega)), h (n + m) (by omega) (by omega)]
    simp
theorem bw_bit (t : Nat → Bool) (a : Nat) : ∀ n j, (bw t a n).testBit j = (decide (j < n) && t (a + j))
  | 0, j => by simp [bw]
  | n + 1, j => by
    simp only [bw]
    have hl := bw_lt t a n
    rw [Nat.add_comm]
    cases e : t (a + n)
    · simp only [Bool.toNat_false, Nat.zero_mul, Nat.zero_add]
      rw [bw_bit t a n j]
      by_cases h1 : j < n
      · simp [h1, show j < n + 1 by omega]
      · by_cases h2 : j = n
        · subst h2; simp [e]
        · simp [h1, show ¬ j < n + 1 by omega]
    · simp only [Bool.toNat_true, Nat.one_mul]
      by_cases h1 : j < n
      · rw [Nat.testBit_two_pow_add_gt h1, bw_bit t a n j]
        simp [h1, show j < n + 1 by omega]
      · by_cases h2 : j = n
        · subst h2
          rw [Nat.testBit_two_pow_add_eq, bw_bit t a j j]
          simp [e]
        · rw [Nat.testBit_lt_two_pow (by
            have : 2 ^ (n + 1) ≤ 2 ^ j := Nat.pow_le_pow_right (by decide) (by omega)
            rw [Nat.pow_succ] at this
            omega)]
          simp [show ¬ j < n + 1 by omega]
/-- Byte i once k bits are told. -/
def bk (t : Nat → Bool) (k i : Nat) : Nat := bw t (8 * i) (min 8 (k - 8 * i))
theorem bk_lt (t : Nat → Bool) (k i : Nat) : bk t k i < 256 := by
  have h1 := bw_lt t (8 * i) (min 8 (k - 8 * i))
  have h2 : 2 ^ (min 8 (k - 8 * i)) ≤ 2 ^ 8 := Nat.pow_le_pow_right (by decide) (Nat.min_le_left _ _)
  unfold bk
  omega
theorem bk_zero (t : Nat → Bool) (i : Nat) : bk t 0 i = 0 := by
  unfold bk
  rw [Nat.zero_sub]
  rfl
theorem bk_other {t : Nat → Bool} {k i : Nat} (h : i ≠ k / 8) : bk t (k + 1) i = bk t k i := by
  unfold bk
  by_cases e : i < k / 8
  · rw [show min 8 (k + 1 - 8 * i) = 8 by omega, show min 8 (k - 8 * i) = 8 by omega]
  · rw [show min 8 (k + 1 - 8 * i) = 0 by omega, show min 8 (k - 8 * i) = 0 by omega]
theorem bk_here (t : Nat → Bool) (k : Nat) : bk t (k + 1) (k / 8) = bk t k (k / 8) + (t k).toNat * 2 ^ (k % 8) := by
  unfold bk
  rw [show min 8 (k + 1 - 8 * (k / 8)) = k % 8 + 1 by omega, show min 8 (k - 8 * (k / 8)) = k % 8 by omega]
  simp only [bw]
  rw [show 8 * (k / 8) + k % 8 = k by omega]
/-- The bytes as cells. -/
def byA (n : Nat) (o : Nat → Nat) : Array Value := ((List.range n).map fun i => Value.int .u8 ((o i : Nat) : Int)).toArray
theorem byA_at (n : Nat) (o : Nat → Nat) {k : Nat} (h : k < n) : (byA n o)[k]? = some (.int .u8 ((o k : Nat) : Int)) := by
  unfold byA
  simp [h]
theorem byA_set (n : Nat) (o : Nat → Nat) (k x : Nat) : (byA n o).setIfInBounds k (.int .u8 (x : Int)) = byA n (fun j => if j = k then x else o j) := by
  unfold byA
  apply Array.ext'
  simp only [Array.toList_setIfInBounds]
  apply List.ext_getElem
  · simp
  · intro i h1 h2
    simp only [List.getElem_set, List.getElem_map, List.getElem_range]
    by_cases e : k = i
    · simp [e]
    · have e' : ¬ i = k := fun h => e h.symm
      simp [e, e']
theorem byA_ext {n : Nat} {o p : Nat → Nat} (h : ∀ k, k < n → o k = p k) : byA n o = byA n p := by
  unfold byA
  have e : ((List.range n).map fun k => Value.int .u8 ((o k : Nat) : Int)) = (List.range n).map fun k => Value.int .u8 ((p k : Nat) : Int) := List.map_congr_left fun k hk => by rw [h k (List.mem_range.1 hk)]
  rw [e]
end Go.Proofs.YtbmbdidmbdanmaaDoor
