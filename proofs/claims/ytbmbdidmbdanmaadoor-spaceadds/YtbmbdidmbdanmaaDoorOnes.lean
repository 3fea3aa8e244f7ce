/- How many bits of a word of 64 are 1, as math/bits' OnesCount64 reckons it: byte by byte. Of no program. -/
import Derived.Test.YtbmbdidmbdanmaaDoorBase
namespace Go.Proofs.YtbmbdidmbdanmaaDoor

/-- How many of the first n bits are 1. -/
def pcn : Nat → Nat → Nat
  | 0, _ => 0
  | n + 1, x => x % 2 + pcn n (x / 2)
theorem and_byte {a b c d : Nat} (hb : b < 256) (hd : d < 256) : (256 * a + b) &&& (256 * c + d) = 256 * (a &&& c) + (b &&& d) := by
  apply Nat.eq_of_testBit_eq
  intro j
  have h := Nat.lt_of_le_of_lt (Nat.and_le_left (n := b) (m := d)) hb
  rw [Nat.testBit_and, show 256 = 2 ^ 8 from rfl, Nat.testBit_two_pow_mul_add a hb j, Nat.testBit_two_pow_mul_add c hd j, Nat.testBit_two_pow_mul_add _ h j]
  by_cases e : j < 8 <;> simp [e]
/-- The mask of n bytes c. -/
def msk (c : Nat) : Nat → Nat
  | 0 => 0
  | n + 1 => 256 * msk c n + c
def s1 (n x : Nat) : Nat := (x / 2 &&& msk 85 n) + (x &&& msk 85 n)
def s2 (n x : Nat) : Nat := (x / 4 &&& msk 51 n) + (x &&& msk 51 n)
def s3 (n x : Nat) : Nat := (x / 16 + x) &&& msk 15 n
theorem t1_low : ∀ d, d < 256 → ∀ y, y < 2 → (128 * y + d / 2) &&& 85 = d / 2 &&& 85 := by decide +kernel
theorem t2_low : ∀ d, d < 256 → ∀ y, y < 4 → (64 * y + d / 4) &&& 51 = d / 4 &&& 51 := by decide +kernel
theorem t3_low : ∀ d, d < 69 → ∀ y, y < 5 → (16 * y + d / 16 + d) &&& 15 = (d / 16 + d) &&& 15 := by decide +kernel
theorem s1_byte (n y d : Nat) (hd : d < 256) : s1 (n + 1) (256 * y + d) = 256 * s1 n y + ((d / 2 &&& 85) + (d &&& 85)) := by
  unfold s1
  rw [show (256 * y + d) / 2 = 256 * (y / 2) + (128 * (y % 2) + d / 2) by omega, show msk 85 (n + 1) = 256 * msk 85 n + 85 from rfl, and_byte (by omega) (by decide), and_byte hd (by decide), t1_low d hd _ (Nat.mod_lt _ (by decide))]
  omega
theorem s2_byte (n y d : Nat) (hd : d < 256) : s2 (n + 1) (256 * y + d) = 256 * s2 n y + ((d / 4 &&& 51) + (d &&& 51)) := by
  unfold s2
  rw [show (256 * y + d) / 4 = 256 * (y / 4) + (64 * (y % 4) + d / 4) by omega, show msk 51 (n + 1) = 256 * msk 51 n + 51 from rfl, and_byte (by omega) (by decide), and_byte hd (by decide), t2_low d hd _ (Nat.mod_lt _ (by decide))]
  omega
theorem s3_byte (n y d : Nat) (hd : d < 69) (hy : y % 16 < 5) : s3 (n + 1) (256 * y + d) = 256 * s3 n y + ((d / 16 + d) &&& 15) := by
  unfold s3
  rw [show (256 * y + d) / 16 + (256 * y + d) = 256 * (y / 16 + y) + (16 * (y % 16) + d / 16 + d) by omega, show msk 15 (n + 1) = 256 * msk 15 n + 15 from rfl, and_byte (by omega) (by decide), t3_low d hd _ hy]
/-- One byte through the first two steps, through all three. -/
def b1 (d : Nat) : Nat := (d / 2 &&& 85) + (d &&& 85)
def b2 (d : Nat) : Nat := (b1 d / 4 &&& 51) + (b1 d &&& 51)
theorem b_fits : ∀ d, d < 256 → b1 d < 256 ∧ b2 d < 69 ∧ b2 d % 16 < 5 ∧ (b2 d / 16 + b2 d) &&& 15 = pcn 8 d := by decide +kernel
theorem s2_low (n x : Nat) : s2 n (s1 n x) % 16 < 5 := by
  cases n with
  | zero => simp [s2, s1, msk]
  | succ n =>
    have hd : x % 256 < 256 := Nat.mod_lt _ (by decide)
    obtain ⟨f1, f2, f3, f4⟩ := b_fits _ hd
    rw [show x = 256 * (x / 256) + x % 256 by omega, s1_byte _ _ _ hd]
    change s2 (n + 1) (256 * s1 n _ + b1 (x % 256)) % 16 < 5
    rw [s2_byte _ _ _ f1]
    change (256 * _ + b2 (x % 256)) % 16 < 5
    omega
theorem s3_step (n x : Nat) : s3 (n + 1) (s2 (n + 1) (s1 (n + 1) x)) = 256 * s3 n (s2 n (s1 n (x / 256))) + pcn 8 x := by
  have hd : x % 256 < 256 := Nat.mod_lt _ (by decide)
  obtain ⟨f1, f2, f3, f4⟩ := b_fits _ hd
  have e : s3 (n + 1) (s2 (n + 1) (s1 (n + 1) (256 * (x / 256) + x % 256))) = 256 * s3 n (s2 n (s1 n (x / 256))) + pcn 8 (x % 256) := by
    rw [s1_byte _ _ _ hd]
    change s3 (n + 1) (s2 (n + 1) (256 * s1 n _ + b1 (x % 256))) = _
    rw [s2_byte _ _ _ f1]
    change s3 (n + 1) (256 * _ + b2 (x % 256)) = _
    rw [s3_byte _ _ _ f2 (s2_low _ _), f4]
  rw [Nat.div_add_mod] at e
  rw [e]
  congr 1
  simp only [pcn]
  omega
theorem pcn_le (n x : Nat) : pcn n x ≤ n := by
  induction n generalizing x with
  | zero => exact Nat.le_refl _
  | succ n ih => have := ih (x / 2); simp only [pcn]; omega
theorem pcn_add (n m x : Nat) : pcn (n + m) x = pcn n x + pcn m (x / 2 ^ n) := by
  induction n generalizing x with
  | zero => simp [pcn]
  | succ n ih =>
    rw [show n + 1 + m = (n + m) + 1 by omega]
    simp only [pcn]
    rw [ih, Nat.div_div_eq_div_mul, show 2 * 2 ^ n = 2 ^ (n + 1) by rw [Nat.pow_succ, Nat.mul_comm]]
    omega
/-- The eight bytes' counts side by side. -/
theorem s3_bytes (x : Nat) : s3 8 (s2 8 (s1 8 x)) = pcn 8 x + 256 * (pcn 8 (x / 256) + 256 * (pcn 8 (x / 256 / 256) + 256 * (pcn 8 (x / 256 / 256 / 256) + 256 * (pcn 8 (x / 256 / 256 / 256 / 256) + 256 * (pcn 8 (x / 256 / 256 / 256 / 256 / 256) + 256 * (pcn 8 (x / 256 / 256 / 256 / 256 / 256 / 256) + 256 * pcn 8 (x / 256 / 256 / 256 / 256 / 256 / 256 / 256))))))) := by
  rw [s3_step 7, s3_step 6, s3_step 5, s3_step 4, s3_step 3, s3_step 2, s3_step 1, s3_step 0, show s3 0 (s2 0 (s1 0 (x / 256 / 256 / 256 / 256 / 256 / 256 / 256 / 256))) = 0 by simp [s3, msk]]
  omega
theorem pcn_bytes (x : Nat) : pcn 64 x = pcn 8 x + pcn 8 (x / 256) + pcn 8 (x / 256 / 256) + pcn 8 (x / 256 / 256 / 256) + pcn 8 (x / 256 / 256 / 256 / 256) + pcn 8 (x / 256 / 256 / 256 / 256 / 256) + pcn 8 (x / 256 / 256 / 256 / 256 / 256 / 256) + pcn 8 (x / 256 / 256 / 256 / 256 / 256 / 256 / 256) := by
  rw [show 64 = 8 + (8 + (8 + (8 + (8 + (8 + (8 + 8)))))) from rfl, pcn_add, pcn_add, pcn_add, pcn_add, pcn_add, pcn_add, pcn_add]
  simp only [show 2 ^ 8 = 256 from rfl]
  omega
/-- Three more steps add the bytes up in the lowest. -/
def s4 (x : Nat) : Nat := x + x / 256
def s5 (x : Nat) : Nat := x + x / 65536
def s6 (x : Nat) : Nat := x + x / 4294967296
theorem ones_sum (x : Nat) : s6 (s5 (s4 (s3 8 (s2 8 (s1 8 x))))) % 128 = pcn 64 x ∧ s4 (s3 8 (s2 8 (s1 8 x))) < 18446744073709551616 ∧ s5 (s4 (s3 8 (s2 8 (s1 8 x)))) < 18446744073709551616 ∧ s6 (s5 (s4 (s3 8 (s2 8 (s1 8 x))))) < 9223372036854775808 := by
  rw [s3_bytes, pcn_bytes]
  have h0 := pcn_le 8 x
  have h1 := pcn_le 8 (x / 256)
  have h2 := pcn_le 8 (x / 256 / 256)
  have h3 := pcn_le 8 (x / 256 / 256 / 256)
  have h4 := pcn_le 8 (x / 256 / 256 / 256 / 256)
  have h5 := pcn_le 8 (x / 256 / 256 / 256 / 256 / 256)
  have h6 := pcn_le 8 (x / 256 / 256 / 256 / 256 / 256 / 256)
  have h7 := pcn_le 8 (x / 256 / 256 / 256 / 256 / 256 / 256 / 256)
  generalize pcn 8 x = a0 at *
  generalize pcn 8 (x / 256) = a1 at *
  generalize pcn 8 (x / 256 / 256) = a2 at *
  generalize pcn 8 (x / 256 / 256 / 256) = a3 at *
  generalize pcn 8 (x / 256 / 256 / 256 / 256) = a4 at *
  generalize pcn 8 (x / 256 / 256 / 256 / 256 / 256) = a5 at *
  generalize pcn 8 (x / 256 / 256 / 256 / 256 / 256 / 256) = a6 at *
  generalize pcn 8 (x / 256 / 256 / 256 / 256 / 256 / 256 / 256) = a7 at *
  have e4 : s4 (a0 + 256 * (a1 + 256 * (a2 + 256 * (a3 + 256 * (a4 + 256 * (a5 + 256 * (a6 + 256 * a7))))))) = (a0 + a1) + 256 * ((a1 + a2) + 256 * ((a2 + a3) + 256 * ((a3 + a4) + 256 * ((a4 + a5) + 256 * ((a5 + a6) + 256 * ((a6 + a7) + 256 * a7)))))) := by unfold s4; omega
  have e5 : s5 ((a0 + a1) + 256 * ((a1 + a2) + 256 * ((a2 + a3) + 256 * ((a3 + a4) + 256 * ((a4 + a5) + 256 * ((a5 + a6) + 256 * ((a6 + a7) + 256 * a7))))))) = (a0 + a1 + a2 + a3) + 256 * ((a1 + a2 + a3 + a4) + 256 * ((a2 + a3 + a4 + a5) + 256 * ((a3 + a4 + a5 + a6) + 256 * ((a4 + a5 + a6 + a7) + 256 * ((a5 + a6 + a7) + 256 * ((a6 + a7) + 256 * a7)))))) := by unfold s5; omega
  have e6 : ∀ c0 c1 c2 c3 c4 c5 c6 c7, c0 < 64 → c1 < 64 → c2 < 64 → c3 < 64 → s6 (c0 + 256 * (c1 + 256 * (c2 + 256 * (c3 + 256 * (c4 + 256 * (c5 + 256 * (c6 + 256 * c7))))))) = (c0 + c4) + 256 * ((c1 + c5) + 256 * ((c2 + c6) + 256 * ((c3 + c7) + 256 * (c4 + 256 * (c5 + 256 * (c6 + 256 * c7)))))) := by
    intro c0 c1 c2 c3 c4 c5 c6 c7 q0 q1 q2 q3
    unfold s6
    have : (c0 + 256 * (c1 + 256 * (c2 + 256 * (c3 + 256 * (c4 + 256 * (c5 + 256 * (c6 + 256 * c7))))))) / 4294967296 = c4 + 256 * (c5 + 256 * (c6 + 256 * c7)) := by omega
    omega
  rw [e4, e5, e6 _ _ _ _ _ _ _ _ (by omega) (by omega) (by omega) (by omega)]
  refine ⟨?_, ?_, ?_, ?_⟩
  · have hm : ∀ c R : Nat, c < 128 → (c + 256 * R) % 128 = c := fun c R h => by omega
    rw [hm _ _ (by omega)]
    omega
  · omega
  · omega
  · omega
theorem msk_lt (c n : Nat) (h : c < 256) : msk c n < 256 ^ n := by
  induction n with
  | zero => simp [msk]
  | succ n ih => simp only [msk, Nat.pow_succ]; omega
theorem s1_le (x : Nat) : s1 8 x < 18446744073709551616 := by
  have a : x / 2 &&& msk 85 8 ≤ msk 85 8 := Nat.and_le_right
  have b : x &&& msk 85 8 ≤ msk 85 8 := Nat.and_le_right
  have c : msk 85 8 = 6148914691236517205 := by decide
  unfold s1; omega
theorem s2_le (x : Nat) : s2 8 x ≤ 7378697629483820646 := by
  have a : x / 4 &&& msk 51 8 ≤ msk 51 8 := Nat.and_le_right
  have b : x &&& msk 51 8 ≤ msk 51 8 := Nat.and_le_right
  have c : msk 51 8 = 3689348814741910323 := by decide
  unfold s2; omega
end Go.Proofs.YtbmbdidmbdanmaaDoor
