/- script: the document's digit and Unquote, walked. -/
import Derived.Test.YtndfgpelioipcaaDoorSc3
namespace Go.Proofs.YtndfgpelioipcaaDoor
open Go.RowKit
set_option linter.unusedVariables false
set_option linter.unusedSimpArgs false
set_option maxHeartbeats 1000000 in
set_option maxRecDepth 100000 in
theorem digit_any (c : UInt8) (w : World) : Calls Tryd.prog 22 #[.int .u8 (c.toNat : Int)] w fun e w' => e = .returned (.int .i64 (hexI c)) ∧ w = w' := by
  unfold hexI
  have hb := c.toNat_lt
  generalize c.toNat = n at *
  by_cases h1 : 48 ≤ n ∧ n ≤ 57
  · rw [if_pos h1]
    obtain ⟨h1, h2⟩ := h1
    have q1 : (48 : Int) ≤ (n : Int) := by omega
    have q2 : (n : Int) ≤ 57 := by omega
    have e1 : IntKind.u8.wrap ((n : Int) - 48) = (n : Int) - 48 := by simp [IntKind.wrap, IntKind.signed, IntKind.bits]; omega
    have e2 : IntKind.i64.wrap ((n : Int) - 48) = (n : Int) - 48 := by rw [IntKind.wrap_i64]; omega
    go_enter Tryd.func22, Tryd.ntmps22
    go_wp2
    go_returns
    exact ⟨rfl, rfl⟩
  · rw [if_neg h1]
    have fin : ∀ z : Int, (z = if 97 ≤ n ∧ n ≤ 102 then (n : Int) - 87 else -1) → Calls Tryd.prog 22 #[.int .u8 (n : Int)] w fun e w' => e = .returned (.int .i64 z) ∧ w = w' := by
      intro z hz
      by_cases h3 : 97 ≤ n ∧ n ≤ 102
      · rw [if_pos h3] at hz
        subst hz
        obtain ⟨h3, h4⟩ := h3
        have q1 : (48 : Int) ≤ (n : Int) := by omega
        have q2 : ¬ (n : Int) ≤ 57 := by omega
        have q3 : (97 : Int) ≤ (n : Int) := by omega
        have q4 : (n : Int) ≤ 102 := by omega
        have e1 : IntKind.u8.wrap ((n : Int) - 97) = (n : Int) - 97 := by simp [IntKind.wrap, IntKind.signed, IntKind.bits]; omega
        have e2 : IntKind.i64.wrap ((n : Int) - 97) = (n : Int) - 97 := by rw [IntKind.wrap_i64]; omega
        have e4 : (n : Int) - 97 + 10 = (n : Int) - 87 := by omega
        have e3 : IntKind.i64.wrap ((n : Int) - 87) = (n : Int) - 87 := by rw [IntKind.wrap_i64]; omega
        clear h1
        go_enter Tryd.func22, Tryd.ntmps22
        go_wp2
        go_returns
        refine ⟨?_, rfl⟩
        first | done | rfl | (congr 2; try omega)
      · rw [if_neg h3] at hz
        subst hz
        by_cases g1 : 48 ≤ n
        · have q1 : (48 : Int) ≤ (n : Int) := by omega
          have q2 : ¬ (n : Int) ≤ 57 := by omega
          by_cases g3 : 97 ≤ n
          · have q3 : (97 : Int) ≤ (n : Int) := by omega
            have q4 : ¬ (n : Int) ≤ 102 := by omega
            clear h1 h3
            go_enter Tryd.func22, Tryd.ntmps22
            go_wp2
            go_returns
            exact ⟨rfl, rfl⟩
          · have q3 : ¬ (97 : Int) ≤ (n : Int) := by omega
            clear h1 h3
            go_enter Tryd.func22, Tryd.ntmps22
            go_wp2
            go_returns
            exact ⟨rfl, rfl⟩
        · have q1 : ¬ (48 : Int) ≤ (n : Int) := by omega
          have q3 : ¬ (97 : Int) ≤ (n : Int) := by omega
          clear h1 h3
          go_enter Tryd.func22, Tryd.ntmps22
          go_wp2
          go_returns
          exact ⟨rfl, rfl⟩
    exact fin _ rfl
theorem decD_more : ∀ (n m : Nat) (s : List UInt8), s.length ≤ n → s.length ≤ m → decD n s = decD m s
  | 0, m, s, h, _ => by
    obtain rfl : s = [] := List.eq_nil_of_length_eq_zero (by omega)
    cases m <;> simp [decD]
  | n + 1, 0, s, _, h => by
    obtain rfl : s = [] := List.eq_nil_of_length_eq_zero (by omega)
    simp [decD]
  | n + 1, m + 1, [], h1, h2 => by simp [decD]
  | n + 1, m + 1, [c], h1, h2 => by simp only [decD]; split; (rw [decD_more n m [] (by simp) (by simp)]); rfl
  | n + 1, m + 1, c :: d :: r2, h1, h2 => by
    simp only [List.length_cons] at h1 h2
    simp only [decD]
    rw [decD_more n m (d :: r2) (by rw [List.length_cons]; omega) (by rw [List.length_cons]; omega), decD_more n m r2 (by omega) (by omega), decD_more n m (r2.drop 2) (by rw [List.length_drop]; omega) (by rw [List.length_drop]; omega)]
theorem decD_nil (n : Nat) : decD n [] = some [] := by cases n <;> simp [decD]
theorem decD_plain {n : Nat} {c : UInt8} {r : List UInt8} (hn : (c :: r).length ≤ n) (h : c ≠ 92) : decD n (c :: r) = (decD n r).map (c :: ·) := by
  rw [List.length_cons] at hn
  obtain ⟨m, rfl⟩ : ∃ m, n = m + 1 := ⟨n - 1, by omega⟩
  rw [decD_more (m + 1) m r (by omega) (by omega)]
  simp [decD, h]
theorem decD_last {n : Nat} (hn : 1 ≤ n) : decD n [92] = none := by
  obtain ⟨m, rfl⟩ : ∃ m, n = m + 1 := ⟨n - 1, by omega⟩
  simp [decD]
theorem decD_esc {n : Nat} {d : UInt8} {r : List UInt8} (hn : (92 :: d :: r).length ≤ n) (h : d ≠ 120) : decD n (92 :: d :: r) = (decD n r).map (d :: ·) := by
  simp only [List.length_cons] at hn
  obtain ⟨m, rfl⟩ : ∃ m, n = m + 1 := ⟨n - 1, by omega⟩
  rw [decD_more (m + 1) m r (by omega) (by omega)]
  simp [decD, h]
theorem decD_bad {n : Nat} {r : List UInt8} (hn : (92 :: 120 :: r).length ≤ n) (h : r.length < 2 ∨ hexI (r.getD 0 0) < 0 ∨ hexI (r.getD 1 0) < 0) : decD n (92 :: 120 :: r) = none := by
  simp only [List.length_cons] at hn
  obtain ⟨m, rfl⟩ : ∃ m, n = m + 1 := ⟨n - 1, by omega⟩
  simp only [decD]
  rw [if_neg (by simp), if_neg (by simp), if_pos h]
theorem decD_hex {n : Nat} {u v : UInt8} {r : List UInt8} (hn : (92 :: 120 :: u :: v :: r).length ≤ n) (h1 : 0 ≤ hexI u) (h2 : 0 ≤ hexI v) : decD n (92 :: 120 :: u :: v :: r) = (decD n r).map (hx (hexI u) (hexI v) :: ·) := by
  simp only [List.length_cons] at hn
  obtain ⟨m, rfl⟩ : ∃ m, n = m + 1 := ⟨n - 1, by omega⟩
  rw [decD_more (m + 1) m r (by omega) (by omega)]
  simp only [decD]
  rw [if_neg (by simp), if_neg (by simp), if_neg (by simp only [List.length_cons, List.getD_cons_zero, List.getD_cons_succ]; omega)]
  simp
theorem hx_mul (h l : Int) (h0 : 0 ≤ h) (h1 : h ≤ 15) (l0 : 0 ≤ l) (l1 : l ≤ 15) : (16 * h + l) % 256 = ((hx h l).toNat : Int) := by
  obtain ⟨a, rfl⟩ := Int.eq_ofNat_of_zero_le h0
  obtain ⟨b, rfl⟩ := Int.eq_ofNat_of_zero_le l0
  have : ∀ i j : Fin 16, (16 * (i.val : Int) + (j.val : Int)) % 256 = ((hx (i.val : Int) (j.val : Int)).toNat : Int) := by decide +kernel
  exact this ⟨a, by omega⟩ ⟨b, by omega⟩
/-- What stands behind a place among the bytes between the ends. -/
theorem mid_drop {P : List UInt8} {m : Nat} (hm : P.length = m) (hm2 : 2 ≤ m) : (mid P).length = m - 2 ∧ ∀ j, j + 1 < m - 1 → (mid P)[j]? = P[j + 1]? := by
  unfold mid
  rw [hm]
  refine ⟨by rw [List.length_drop, List.length_take]; omega, fun j hj => ?_⟩
  rw [List.getElem?_drop, List.getElem?_take, if_pos (by omega), Nat.add_comm]
end Go.Proofs.YtndfgpelioipcaaDoor
