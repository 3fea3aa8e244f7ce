/- Numbers as bytes, of no program: the highest byte first; a varint's groups of 7 bits. -/
import Derived.WalkKit
namespace Go.Proofs.YtafdkfieajdeiaaDoor

/-- n in s bytes, the highest first. -/
def be (s n : Nat) : List UInt8 := (List.range s).map fun i => UInt8.ofNat (n / 2 ^ (8 * (s - 1 - i)))
theorem be_length (s n : Nat) : (be s n).length = s := by simp [be]
theorem be_take (s n k : Nat) (h : k < s) : (be s n).take (k + 1) = (be s n).take k ++ [UInt8.ofNat (n / 2 ^ (8 * (s - 1 - k)))] := by
  rw [List.take_succ_eq_append_getElem (by simpa [be] using h)]
  simp [be]
/-- A varint: at most f + 1 groups. -/
def vb : Nat → Nat → List UInt8
  | 0, n => [UInt8.ofNat n]
  | f + 1, n => if n < 128 then [UInt8.ofNat n] else UInt8.ofNat (n % 128 + 128) :: vb f (n / 128)
theorem vb_small (f n : Nat) (h : n < 128) : vb f n = [UInt8.ofNat n] := by
  cases f with
  | zero => rfl
  | succ f => simp [vb, h]
theorem vb_big (f n : Nat) (h : ¬ n < 128) : vb (f + 1) n = UInt8.ofNat (n % 128 + 128) :: vb f (n / 128) := by simp [vb, h]
/-- The varint of a number below 2^64. -/
def vbytes (n : Nat) : List UInt8 := vb 9 n
theorem vb_more (f : Nat) : ∀ n, n < 128 ^ (f + 1) → vb (f + 1) n = vb f n := by
  induction f with
  | zero => intro n h; rw [vb_small _ _ (by simpa using h), vb_small _ _ (by simpa using h)]
  | succ f ih =>
    intro n h
    by_cases hn : n < 128
    · rw [vb_small _ _ hn, vb_small _ _ hn]
    · rw [vb_big _ _ hn, vb_big _ _ hn, ih (n / 128) (by rw [Nat.pow_succ] at h; omega)]
/-- How many groups: as the program reckons it off the number's highest bit. -/
theorem vb_length (f : Nat) : ∀ n, n < 128 ^ (f + 1) → (vb f n).length = (Nat.log2 (n ||| 1) + 7) / 7 := by
  induction f with
  | zero =>
    intro n h
    have h' : n < 128 := by simpa using h
    rw [vb_small _ _ h']
    have h2 : n ||| 1 < 2 ^ 7 := Nat.or_lt_two_pow (by omega) (by omega)
    have h1 : n ||| 1 ≠ 0 := by
      intro e
      have : 1 ≤ n ||| 1 := Nat.right_le_or
      omega
    have := (Nat.log2_lt h1).2 h2
    simp only [List.length_singleton]
    omega
  | succ f ih =>
    intro n h
    by_cases hn : n < 128
    · have := ih n (by
        have : 128 ≤ 128 ^ (f + 1) := by rw [Nat.pow_succ]; exact Nat.le_mul_of_pos_left _ (Nat.pow_pos (by decide))
        omega)
      rw [vb_small _ _ hn] at this ⊢
      exact this
    · rw [vb_big _ _ hn, List.length_cons, ih (n / 128) (by rw [Nat.pow_succ] at h; omega)]
      have e1 : n ||| 1 ≠ 0 := by
        intro e
        have : 1 ≤ n ||| 1 := Nat.right_le_or
        omega
      have e2 : n / 128 ||| 1 ≠ 0 := by
        intro e
        have : 1 ≤ n / 128 ||| 1 := Nat.right_le_or
        omega
      have hz : n / 128 ≠ 0 := by omega
      have k1 : Nat.log2 (n ||| 1) = Nat.log2 (n / 128 ||| 1) + 7 := by
        have a1 : Nat.log2 (n ||| 1) = Nat.log2 n := by
          apply Nat.le_antisymm
          · have : n ||| 1 < 2 ^ (Nat.log2 n + 1) := Nat.or_lt_two_pow Nat.lt_log2_self (Nat.one_lt_two_pow (by omega))
            have := (Nat.log2_lt e1).2 this
            omega
          · have h0 : n ≤ n ||| 1 := Nat.left_le_or
            have : 2 ^ Nat.log2 n ≤ n := Nat.log2_self_le (by omega)
            exact (Nat.le_log2 e1).2 (by omega)
        have a2 : Nat.log2 (n / 128 ||| 1) = Nat.log2 (n / 128) := by
          apply Nat.le_antisymm
          · have : n / 128 ||| 1 < 2 ^ (Nat.log2 (n / 128) + 1) := Nat.or_lt_two_pow Nat.lt_log2_self (Nat.one_lt_two_pow (by omega))
            have := (Nat.log2_lt e2).2 this
            omega
          · have h0 : n / 128 ≤ n / 128 ||| 1 := Nat.left_le_or
            have : 2 ^ Nat.log2 (n / 128) ≤ n / 128 := Nat.log2_self_le hz
            exact (Nat.le_log2 e2).2 (by omega)
        rw [a1, a2]
        apply Nat.le_antisymm
        · have : n / 128 < 2 ^ (Nat.log2 (n / 128) + 1) := Nat.lt_log2_self
          have h3 : n < 2 ^ (Nat.log2 (n / 128) + 8) := by
            rw [show Nat.log2 (n / 128) + 8 = (Nat.log2 (n / 128) + 1) + 7 by omega, Nat.pow_add]
            omega
          have := (Nat.log2_lt (by omega : n ≠ 0)).2 h3
          omega
        · have : 2 ^ Nat.log2 (n / 128) ≤ n / 128 := Nat.log2_self_le hz
          have h3 : 2 ^ (Nat.log2 (n / 128) + 7) ≤ n := by
            rw [Nat.pow_add]
            omega
          exact (Nat.le_log2 (by omega)).2 h3
      rw [k1]
      omega
theorem vbytes_length (n : Nat) (h : n < 18446744073709551616) : (vbytes n).length = (Nat.log2 (n ||| 1) + 7) / 7 :=
  vb_length 9 n (Nat.lt_of_lt_of_le h (by decide))
/-- What a Writer holds behind a write: nothing, and it is over, if there is no room. -/
def wOk (most : Int) (len : Nat) (over : Bool) (n : Int) : Bool := !over && decide (n ≤ most - len)
end Go.Proofs.YtafdkfieajdeiaaDoor
