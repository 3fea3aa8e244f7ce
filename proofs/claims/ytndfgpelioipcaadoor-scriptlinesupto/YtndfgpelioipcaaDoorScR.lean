/- script: what the document's ReadNumber reads of a number's own digits: pure. -/
import Derived.Test.YtndfgpelioipcaaDoorSc18
import Derived.Test.YtndfgpelioipcaaDoorScQ
namespace Go.Proofs.YtndfgpelioipcaaDoor
open Go.RowKit
set_option linter.unusedVariables false
set_option linter.unusedSimpArgs false
theorem digs_dec (u : Nat) : ∀ rest, digs 0 (Lib.decDigits u ++ rest) = digs u rest := by
  induction u using Nat.strongRecOn with
  | _ u ih =>
    intro rest
    have step : ∀ acc d, d < 10 → digs acc (UInt8.ofNat (48 + d) :: rest) = digs (10 * acc + d) rest := fun acc d hd => by
      have e : (UInt8.ofNat (48 + d)).toNat = 48 + d := by rw [UInt8.toNat_ofNat']; omega
      rw [digs_cons, e, if_pos (by omega)]
      congr 1
      omega
    by_cases h : u < 10
    · rw [Lib.decDigits_one h, List.singleton_append, step 0 u h]
      congr 1; omega
    · conv => lhs; unfold Lib.decDigits
      rw [dif_neg h, List.append_assoc, ih (u / 10) (by omega), List.singleton_append, step (u / 10) (u % 10) (by omega)]
      congr 1; omega
theorem dec_len18 (u : Nat) : ∀ k, 0 < k → u < 10 ^ k → (Lib.decDigits u).length ≤ k := by
  induction u using Nat.strongRecOn with
  | _ u ih =>
    intro k hk h
    by_cases g : u < 10
    · rw [Lib.decDigits_one g]; exact hk
    · unfold Lib.decDigits
      rw [dif_neg g, List.length_append]
      match k, hk, h with
      | 1, _, h => exact absurd h (by omega)
      | k + 2, _, h =>
        have := ih (u / 10) (by omega) (k + 1) (by omega) (by rw [Nat.pow_succ] at h; omega)
        simp only [List.length_cons, List.length_nil]
        omega
theorem dec_head0 (u : Nat) : 0 < u → ∀ r, Lib.decDigits u ≠ 48 :: r := by
  induction u using Nat.strongRecOn with
  | _ u ih =>
    intro hu r e
    by_cases g : u < 10
    · rw [Lib.decDigits_one g] at e
      have := congrArg UInt8.toNat (List.cons.inj e).1
      rw [UInt8.toNat_ofNat'] at this
      have h48 : (48 : UInt8).toNat = 48 := rfl
      omega
    · unfold Lib.decDigits at e
      rw [dif_neg g] at e
      obtain ⟨c, r2, he, _⟩ := dec_head (u / 10)
      rw [he, List.cons_append] at e
      exact ih (u / 10) (by omega) (by omega) r2 (by rw [he, (List.cons.inj e).1])
theorem rdU_dec (u : Nat) (hu : u < 1000000000000000000) : rdU (Lib.decDigits u) = some u := by
  have h1 := dec_len18 u 18 (by decide) (by simpa using hu)
  have h2 := digs_dec u []
  rw [List.append_nil] at h2
  unfold rdU
  rw [if_neg (by omega), if_neg, h2]
  · rfl
  · rintro ⟨h3, h4⟩
    by_cases g : u < 10
    · rw [Lib.decDigits_one g] at h3
      simp at h3
    · obtain ⟨c, r, he, _⟩ := dec_head u
      rw [he] at h4
      simp only [List.head?_cons, Option.some.injEq] at h4
      exact dec_head0 u (by omega) r (by rw [he, h4])
theorem rdN_dec (u : Nat) (hu : u < 1000000000000000000) : rdN (Lib.decDigits u) = ((u : Int), true) := by
  have h1 := rdU_dec u hu
  obtain ⟨c, r, he, h2, h3, _⟩ := dec_head u
  rw [he] at h1 ⊢
  cases r with
  | nil => unfold rdN; rw [h1]; rfl
  | cons d l =>
    unfold rdN
    rw [if_neg, h1]
    · rfl
    · rintro rfl
      exact absurd h2 (by decide)
theorem rdN_itoa (n : Int) (h : mayN n = true) : rdN (Lib.itoa n) = (n, true) := by
  have hb : -1000000000000000000 < n ∧ n < 1000000000000000000 := by
    unfold mayN at h
    simpa using h
  unfold Lib.itoa
  by_cases hn : n < 0
  · rw [if_pos hn]
    have h1 := rdN_dec n.natAbs (by omega)
    obtain ⟨c, r, he, _⟩ := dec_head n.natAbs
    rw [he] at h1 ⊢
    unfold rdN
    rw [if_pos rfl, h1]
    simp only [Bool.true_and, Prod.mk.injEq, decide_eq_true_eq]
    omega
  · rw [if_neg hn, rdN_dec n.toNat (by omega)]
    simp only [Prod.mk.injEq, and_true]
    omega
end Go.Proofs.YtndfgpelioipcaaDoor
