/- CRC-32C of no program: by bits, and by fours of bits. -/
import Derived.WalkKit
namespace Go.Proofs.YtafdkfieajdeiaaDoor

/-- What four shifts do to the lowest four bits. -/
def crcTab : List Nat := [0, 274646895, 549293790, 820201905, 1098587580, 1361435347, 1640403810, 1905808397, 2197175160, 2460548119, 2722870694, 2987750089, 3280807620, 3553878443, 3811616794, 4084100981]
def crcT (r : Nat) : Nat := crcTab.getD r 0
theorem crcT_lt (r : Nat) : crcT r < 4294967296 := by
  unfold crcT
  rcases Nat.lt_or_ge r 16 with h | h
  · have : ∀ i : Fin 16, crcTab.getD i.val 0 < 4294967296 := by decide
    exact this ⟨r, h⟩
  · rw [List.getD_eq_getElem?_getD, List.getElem?_eq_none (by simpa [crcTab] using h)]
    simp
/-- One step of the program: four bits. -/
def c4 (x : Nat) : Nat := x / 16 ^^^ crcT (x % 16)
theorem c4_lt (x : Nat) (h : x < 4294967296) : c4 x < 4294967296 :=
  Nat.xor_lt_two_pow (n := 32) (by omega) (crcT_lt _)
def crcByte (x : Nat) (b : UInt8) : Nat := c4 (c4 (x ^^^ b.toNat))
theorem xor_byte_lt (x : Nat) (b : UInt8) (h : x < 4294967296) : x ^^^ b.toNat < 4294967296 :=
  Nat.xor_lt_two_pow (n := 32) h (by have := b.toNat_lt; omega)
theorem crcByte_lt (x : Nat) (b : UInt8) (h : x < 4294967296) : crcByte x b < 4294967296 := c4_lt _ (c4_lt _ (xor_byte_lt x b h))
/-- The check sum's state behind some bytes. -/
def crcN (l : List UInt8) : Nat := l.foldl crcByte 4294967295
theorem crcN_snoc (l : List UInt8) (b : UInt8) : crcN (l ++ [b]) = crcByte (crcN l) b := by simp [crcN, List.foldl_append]
theorem foldl_lt : ∀ (l : List UInt8) (x : Nat), x < 4294967296 → l.foldl crcByte x < 4294967296
  | [], _, h => h
  | b :: l, x, h => foldl_lt l _ (crcByte_lt x b h)
theorem crcN_lt (l : List UInt8) : crcN l < 4294967296 := foldl_lt l _ (by decide)
/-- The check sum. -/
def crc (l : List UInt8) : Nat := crcN l ^^^ 4294967295
theorem crc_lt (l : List UInt8) : crc l < 4294967296 := Nat.xor_lt_two_pow (n := 32) (crcN_lt l) (by decide)

/-! ### By bits -/
def c1 (x : Nat) : Nat := if x % 2 = 1 then x / 2 ^^^ 2197175160 else x / 2
theorem c1_eq (x : Nat) : c1 x = x / 2 ^^^ (if x % 2 = 1 then 2197175160 else 0) := by unfold c1; split <;> simp
theorem c1_xor (a b : Nat) : c1 (a ^^^ b) = c1 a ^^^ c1 b := by
  have hd : (a ^^^ b) / 2 = a / 2 ^^^ b / 2 := by
    have := Nat.shiftRight_xor_distrib (a := a) (b := b) (i := 1)
    simpa [Nat.shiftRight_eq_div_pow] using this
  have hm : (a ^^^ b) % 2 = (a % 2 ^^^ b % 2) := by
    have := Nat.xor_mod_two_pow (a := a) (b := b) (n := 1)
    simpa using this
  rw [c1_eq, c1_eq, c1_eq, hd, hm]
  rcases Nat.mod_two_eq_zero_or_one a with ha | ha <;> rcases Nat.mod_two_eq_zero_or_one b with hb | hb <;> simp [ha, hb]
  · rw [Nat.xor_assoc]
  · rw [Nat.xor_assoc, Nat.xor_comm (b / 2), ← Nat.xor_assoc]
  · rw [Nat.xor_assoc (a / 2), ← Nat.xor_assoc 2197175160, Nat.xor_comm 2197175160 (b / 2), Nat.xor_assoc (b / 2), Nat.xor_self, Nat.xor_zero]
theorem c1_even (q : Nat) : c1 (2 * q) = q := by unfold c1; rw [if_neg (by omega)]; omega
theorem c4_bits (x : Nat) : c1 (c1 (c1 (c1 x))) = c4 x := by
  have hx : x = (16 * (x / 16)) ^^^ (x % 16) := by
    have := Nat.two_pow_add_eq_or_of_lt (i := 4) (b := x % 16) (by omega) (x / 16)
    have h2 : 16 * (x / 16) ^^^ x % 16 = 16 * (x / 16) ||| x % 16 := by
      apply Nat.eq_of_testBit_eq
      intro i
      rw [Nat.testBit_xor, Nat.testBit_or]
      rcases Nat.lt_or_ge i 4 with hi | hi
      · have : (16 * (x / 16)).testBit i = false := by
          rw [show 16 * (x / 16) = 2 ^ 4 * (x / 16) by omega, Nat.testBit_two_pow_mul]
          simp [show ¬ 4 ≤ i by omega]
        rw [this]; simp
      · have : (x % 16).testBit i = false := Nat.testBit_lt_two_pow (Nat.lt_of_lt_of_le (show x % 16 < 2 ^ 4 by omega) (Nat.pow_le_pow_right (by decide) hi))
        rw [this]; simp
    rw [h2, show 16 * (x / 16) = 2 ^ 4 * (x / 16) by omega, ← this]
    omega
  have h4 : c1 (c1 (c1 (c1 (16 * (x / 16))))) = x / 16 := by
    rw [show 16 * (x / 16) = 2 * (2 * (2 * (2 * (x / 16)))) by omega, c1_even, c1_even, c1_even, c1_even]
  have ht : ∀ i : Fin 16, c1 (c1 (c1 (c1 i.val))) = crcT i.val := by decide
  have hr := ht ⟨x % 16, by omega⟩
  simp only at hr
  have e : c1 (c1 (c1 (c1 x))) = c1 (c1 (c1 (c1 ((16 * (x / 16)) ^^^ (x % 16))))) := by rw [← hx]
  rw [e, c1_xor, c1_xor, c1_xor, c1_xor, h4, hr]
  rfl
theorem c1_lt (x : Nat) (h : x < 4294967296) : c1 x < 4294967296 := by
  rw [c1_eq]
  exact Nat.xor_lt_two_pow (n := 32) (by omega) (by split <;> decide)
/-- k bits' steps. -/
def c1s : Nat → Nat → Nat
  | 0, x => x
  | k + 1, x => c1 (c1s k x)
theorem c1s_lt (k x : Nat) (h : x < 4294967296) : c1s k x < 4294967296 := by
  induction k with
  | zero => exact h
  | succ k ih => exact c1_lt _ ih
theorem c8 (x : Nat) (b : UInt8) : c1s 8 (x ^^^ b.toNat) = crcByte x b := by
  show c1 (c1 (c1 (c1 (c1 (c1 (c1 (c1 _))))))) = _
  rw [c4_bits, c4_bits]
  rfl
end Go.Proofs.YtafdkfieajdeiaaDoor
