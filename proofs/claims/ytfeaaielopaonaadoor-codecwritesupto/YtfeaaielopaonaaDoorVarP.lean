/- Varints, of no program: the lower number's is not longer; one is read back, however it is followed, but not if it is cut. -/
import Derived.Test.YtfeaaielopaonaaDoorRPure
namespace Go.Proofs.YtfeaaielopaonaaDoor

theorem vb_mono : ∀ (f a b : Nat), a ≤ b → (vb f a).length ≤ (vb f b).length := by
  intro f
  induction f with
  | zero => intro a b _; simp [vb]
  | succ f ih =>
    intro a b h
    by_cases hb : b < 128
    · rw [vb_small _ a (by omega), vb_small _ b hb]; simp
    · rw [vb_big _ b hb]
      by_cases ha : a < 128
      · rw [vb_small _ a ha]; simp
      · rw [vb_big _ a ha]
        have := ih (a / 128) (b / 128) (by omega)
        simp only [List.length_cons]
        omega
theorem vb_most (f n : Nat) : (vb f n).length ≤ f + 1 := by
  induction f generalizing n with
  | zero => simp [vb]
  | succ f ih =>
    by_cases h : n < 128
    · rw [vb_small _ n h]; simp
    · rw [vb_big _ n h]
      have := ih (n / 128)
      simp only [List.length_cons]
      omega
theorem byte_small (n : Nat) (h : n < 256) : (UInt8.ofNat n).toNat = n := by rw [UInt8.toNat_ofNat']; exact Nat.mod_eq_of_lt (by omega)
theorem pow9 : (128 : Nat) ^ 9 = 9223372036854775808 := by decide
/-- A number that is not too great has no tenth group but 1. -/
theorem top_group (n i : Nat) (hi : i ≤ 9) (h : n * 128 ^ i < 18446744073709551616) (h9 : i = 9) : n ≤ 1 := by
  subst h9
  rw [pow9] at h
  omega
theorem fv_vb : ∀ (f i acc n : Nat) (rest : List UInt8), n < 128 ^ (f + 1) → i ≤ 9 → n * 128 ^ i < 18446744073709551616 → (n ≠ 0 ∨ i = 0) →
    fv i acc (vb f n ++ rest) = (acc + n * 128 ^ i, i + (vb f n).length, 0) := by
  intro f
  induction f with
  | zero =>
    intro i acc n rest hn hi h64 h0
    have hn' : n < 128 := by simpa using hn
    have ht := top_group n i hi h64
    have hb := byte_small n (by omega)
    show fv i acc (UInt8.ofNat n :: rest) = _
    rw [fv, hb, if_neg (by omega), if_neg (by omega), if_neg (by omega), Nat.mod_eq_of_lt hn']
    rfl
  | succ f ih =>
    intro i acc n rest hn hi h64 h0
    have ht := top_group n i hi h64
    by_cases hs : n < 128
    · have hb := byte_small n (by omega)
      rw [vb_small _ n hs]
      show fv i acc (UInt8.ofNat n :: rest) = _
      rw [fv, hb, if_neg (by omega), if_neg (by omega), if_neg (by omega), Nat.mod_eq_of_lt hs]
      rfl
    · have h9 : i ≠ 9 := fun e => by have := ht e; omega
      have hb := byte_small (n % 128 + 128) (by omega)
      have hm : (n % 128 + 128) % 128 = n % 128 := by omega
      rw [vb_big _ n hs]
      show fv i acc (UInt8.ofNat (n % 128 + 128) :: (vb f (n / 128) ++ rest)) = _
      have hsplit : n * 128 ^ i = n % 128 * 128 ^ i + n / 128 * 128 ^ (i + 1) := by
        rw [Nat.pow_succ, Nat.mul_comm (128 ^ i) 128, ← Nat.mul_assoc, ← Nat.add_mul]
        congr 1
        omega
      rw [fv, hb, if_neg (by omega), if_pos (by omega), hm, ih (i + 1) _ (n / 128) rest (by rw [Nat.pow_succ] at hn; omega) (by omega) (by omega) (Or.inl (by omega)), hsplit]
      simp only [List.length_cons, Prod.mk.injEq, and_true]
      omega
theorem fv_cut : ∀ (f i acc n : Nat), n < 128 ^ (f + 1) → i ≤ 9 → n * 128 ^ i < 18446744073709551616 → fv i acc (vb f n).dropLast = (0, 0, 20) := by
  intro f
  induction f with
  | zero => intro i acc n _ _ _; rfl
  | succ f ih =>
    intro i acc n hn hi h64
    by_cases hs : n < 128
    · rw [vb_small _ n hs]; rfl
    · have h9 : i ≠ 9 := fun e => by have := top_group n i hi h64 e; omega
      have hb := byte_small (n % 128 + 128) (by omega)
      have hne : vb f (n / 128) ≠ [] := by
        intro e
        have := vb_most f (n / 128)
        cases f <;> simp [vb] at e
        split at e <;> simp at e
      rw [vb_big _ n hs, List.dropLast_cons_of_ne_nil hne]
      have hsplit : n / 128 * 128 ^ (i + 1) ≤ n * 128 ^ i := by
        rw [Nat.pow_succ, Nat.mul_comm (128 ^ i) 128, ← Nat.mul_assoc]
        exact Nat.mul_le_mul_right _ (by omega)
      rw [fv, hb, if_neg (by omega), if_pos (by omega)]
      exact ih (i + 1) _ (n / 128) (by rw [Nat.pow_succ] at hn; omega) (by omega) (by omega)
theorem vbytes_pow (n : Nat) (h : n < 18446744073709551616) : n < 128 ^ (9 + 1) := Nat.lt_of_lt_of_le h (by decide)
theorem fv_vbytes (n : Nat) (rest : List UInt8) (h : n < 18446744073709551616) : fv 0 0 (vbytes n ++ rest) = (n, (vbytes n).length, 0) := by
  have := fv_vb 9 0 0 n rest (vbytes_pow n h) (by decide) (by simpa using h) (Or.inr rfl)
  unfold vbytes
  rw [this]
  simp
theorem fv_vbytes_cut (n : Nat) (h : n < 18446744073709551616) : fv 0 0 (vbytes n).dropLast = (0, 0, 20) := fv_cut 9 0 0 n (vbytes_pow n h) (by decide) (by simpa using h)
theorem vbytes_most (n : Nat) : (vbytes n).length ≤ 10 := vb_most 9 n
theorem vbytes_mono (a b : Nat) (h : a ≤ b) : (vbytes a).length ≤ (vbytes b).length := vb_mono 9 a b h
end Go.Proofs.YtfeaaielopaonaaDoor
