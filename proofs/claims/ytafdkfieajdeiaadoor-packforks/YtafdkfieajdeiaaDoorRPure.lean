/- What a Reader tells, of no program. -/
import Derived.Test.YtafdkfieajdeiaaDoorCPure
namespace Go.Proofs.YtafdkfieajdeiaaDoor

/-- The number that bytes are, the highest first. -/
def num (l : List UInt8) : Nat := l.foldl (fun a b => a * 256 + b.toNat) 0
theorem num_snoc (l : List UInt8) (b : UInt8) : num (l ++ [b]) = num l * 256 + b.toNat := by simp [num, List.foldl_append]
theorem num_lt (l : List UInt8) : num l < 256 ^ l.length := by
  suffices h : ∀ (n : Nat) (l : List UInt8), l.length = n → num l < 256 ^ n from h _ l rfl
  intro n
  induction n with
  | zero => intro l hl; rw [List.eq_nil_of_length_eq_zero hl]; decide
  | succ n ih =>
    intro l hl
    obtain ⟨l', b, rfl⟩ : ∃ l' b, l = l' ++ [b] := by
      have hne : l ≠ [] := by rintro rfl; simp at hl
      exact ⟨l.dropLast, l.getLast hne, (List.dropLast_concat_getLast hne).symm⟩
    have := ih l' (by simpa using hl)
    have hb := b.toNat_lt
    rw [num_snoc, Nat.pow_succ]
    omega
/-- The varint with which bytes begin, i groups being told, which are n: the number, how many bytes it has, what is at fault. -/
def fv : Nat → Nat → List UInt8 → Nat × Nat × Int
  | _, _, [] => (0, 0, 20)
  | i, n, b :: l =>
    if i = 9 ∧ b.toNat ≠ 1 then (0, 0, 21)
    else if 128 ≤ b.toNat then fv (i + 1) (n + b.toNat % 128 * 128 ^ i) l
    else if b.toNat = 0 ∧ 0 < i then (0, 0, 21)
    else (n + b.toNat % 128 * 128 ^ i, i + 1, 0)
theorem fv_size : ∀ (l : List UInt8) (i n : Nat), (fv i n l).2.2 = 0 → (fv i n l).2.1 ≤ i + l.length ∧ i < (fv i n l).2.1 := by
  intro l
  induction l with
  | nil => intro i n h; simp [fv] at h
  | cons b l ih =>
    intro i n h
    simp only [fv] at h ⊢
    split at h
    · simp at h
    · rename_i h1
      rw [if_neg h1]
      split at h
      · rename_i h2
        rw [if_pos h2]
        have := ih _ _ h
        simp only [List.length_cons]
        omega
      · rename_i h2
        rw [if_neg h2]
        split at h
        · simp at h
        · rename_i h3
          rw [if_neg h3]
          simp only [List.length_cons]
          omega
theorem fv_fault : ∀ (l : List UInt8) (i n : Nat), (fv i n l).2.2 = 0 ∨ (fv i n l).2.2 = 20 ∨ (fv i n l).2.2 = 21 := by
  intro l
  induction l with
  | nil => intro i n; simp [fv]
  | cons b l ih =>
    intro i n
    simp only [fv]
    split
    · simp
    · split
      · exact ih _ _
      · split <;> simp
theorem fv_lt : ∀ (l : List UInt8) (i n : Nat), i ≤ 9 → n < 128 ^ i → (fv i n l).1 < 18446744073709551616 := by
  intro l
  induction l with
  | nil => intro i n _ _; simp [fv]
  | cons b l ih =>
    intro i n hi hn
    have hb := b.toNat_lt
    have step : n + b.toNat % 128 * 128 ^ i < 128 ^ (i + 1) := by
      rw [Nat.pow_succ]
      have : b.toNat % 128 ≤ 127 := by omega
      have : b.toNat % 128 * 128 ^ i ≤ 127 * 128 ^ i := Nat.mul_le_mul_right _ this
      omega
    simp only [fv]
    split
    · simp
    · rename_i h1
      split
      · rename_i h2
        have : i ≠ 9 := fun e => h1 ⟨e, by omega⟩
        exact ih _ _ (by omega) step
      · split
        · simp
        · simp only
          by_cases h9 : i = 9
          · subst h9
            have h1' : b.toNat = 1 := by
              rcases Nat.lt_or_ge b.toNat 1 with h | h
              · exact Classical.byContradiction fun hh => h1 ⟨rfl, hh⟩
              · exact Classical.byContradiction fun hh => h1 ⟨rfl, hh⟩
            have e9 : (128 : Nat) ^ 9 = 9223372036854775808 := by decide
            rw [h1', e9]
            rw [e9] at hn
            clear e9 step ih
            omega
          · have h8 : (128 : Nat) ^ (i + 1) ≤ 128 ^ 9 := Nat.pow_le_pow_right (by decide) (by omega)
            exact Nat.lt_of_lt_of_le (Nat.lt_of_lt_of_le step h8) (by decide)
theorem fv_a {k N : Nat} {b : UInt8} {l d : List UInt8} {R : Nat × Nat × Int} (hf : fv k N d = R) (hd : d = b :: l) (h1 : k = 9) (h2 : b.toNat ≠ 1) : R = (0, 0, 21) := by
  rw [← hf, hd, fv, if_pos ⟨h1, h2⟩]
theorem fv_b {k N : Nat} {b : UInt8} {l d : List UInt8} {R : Nat × Nat × Int} (hf : fv k N d = R) (hd : d = b :: l) (h1 : ¬ k = 9) (h2 : 128 ≤ b.toNat) : fv (k + 1) (N + b.toNat % 128 * 128 ^ k) l = R := by
  rw [← hf, hd, fv, if_neg (fun h => h1 h.1), if_pos h2]
theorem fv_c {k N : Nat} {b : UInt8} {l d : List UInt8} {R : Nat × Nat × Int} (hf : fv k N d = R) (hd : d = b :: l) (h1 : ¬ (k = 9 ∧ b.toNat ≠ 1)) (h2 : b.toNat = 0) (h3 : 0 < k) : R = (0, 0, 21) := by
  rw [← hf, hd, fv, if_neg h1, if_neg (by omega), if_pos ⟨h2, h3⟩]
theorem fv_d {k N : Nat} {b : UInt8} {l d : List UInt8} {R : Nat × Nat × Int} (hf : fv k N d = R) (hd : d = b :: l) (h1 : ¬ (k = 9 ∧ b.toNat ≠ 1)) (h2 : b.toNat < 128) (h3 : ¬ (b.toNat = 0 ∧ 0 < k)) : R = (N + b.toNat % 128 * 128 ^ k, k + 1, 0) := by
  rw [← hf, hd, fv, if_neg h1, if_neg (by omega), if_neg h3]
/-- A Reader's state: what is left, and the first fault. -/
abbrev RSt := ByteArray × Int
def rfail (st : RSt) (e : Int) : RSt := if st.2 = 0 then (⟨#[]⟩, e) else st
def rtake (st : RSt) (n : Nat) : ByteArray × RSt :=
  if st.2 = 0 then (if st.1.size < n then (⟨#[]⟩, (⟨#[]⟩, 20)) else (st.1.extract 0 n, (st.1.extract n st.1.size, 0))) else (⟨#[]⟩, st)
def rnum (st : RSt) (s : Nat) : Nat := num (rtake st s).1.data.toList
def rvar (st : RSt) : Nat × RSt :=
  if st.2 = 0 then (if (fv 0 0 st.1.data.toList).2.2 = 0 then ((fv 0 0 st.1.data.toList).1, (rtake st (fv 0 0 st.1.data.toList).2.1).2) else (0, (⟨#[]⟩, (fv 0 0 st.1.data.toList).2.2))) else (0, st)
def rraw (st : RSt) (n : Int) : ByteArray × RSt := if n < 0 then (⟨#[]⟩, rfail st 1) else rtake st n.toNat
def rtext (st : RSt) : ByteArray × RSt := if (rvar st).2.1.size < (rvar st).1 then (⟨#[]⟩, rfail (rvar st).2 20) else rtake (rvar st).2 (rvar st).1
def rdone (st : RSt) : Int := if st.2 = 0 then (if 0 < st.1.size then 22 else 0) else st.2
end Go.Proofs.YtafdkfieajdeiaaDoor
