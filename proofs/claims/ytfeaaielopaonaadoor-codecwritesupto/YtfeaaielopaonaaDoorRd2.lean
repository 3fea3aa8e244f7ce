/- codec.Reader: varints, texts, raw bytes; what is asked of it; a new one. -/
import Derived.Test.YtfeaaielopaonaaDoorRd
namespace Go.Proofs.YtfeaaielopaonaaDoor
open Go.RowKit
set_option linter.unusedVariables false

theorem drop_byte (s : ByteArray) (k : Nat) (h : k < s.size) : s.data.toList.drop k = s[k] :: s.data.toList.drop (k + 1) := by
  rw [List.drop_eq_getElem_cons (by rw [size_list]; exact h)]
  rfl
theorem bne_yes {a b : Int} (h : (a != b) = true) : a ≠ b := by simpa using h
theorem bne_no {a b : Int} (h : (a != b) = false) : a = b := by simpa using h
theorem group_fits (b k : Nat) (h : k < 9 ∨ b = 1) (hk : k ≤ 9) : b % 128 * 128 ^ k < 18446744073709551616 := by
  have h9 : (128 : Nat) ^ 9 = 9223372036854775808 := by decide
  rcases Nat.lt_or_ge k 9 with hk8 | hk9
  · have : (128 : Nat) ^ k ≤ 128 ^ 8 := Nat.pow_le_pow_right (by decide) (by omega)
    have hm : b % 128 * 128 ^ k ≤ 127 * 128 ^ 8 := Nat.mul_le_mul (by omega) this
    exact Nat.lt_of_le_of_lt hm (by decide)
  · obtain rfl : k = 9 := by omega
    obtain rfl : b = 1 := by omega
    rw [h9]; decide
theorem or_group (N b k : Nat) (hN : N < 128 ^ k) (hk : k ≤ 9) (hb : b < 256) (hv : b % 128 * 128 ^ k < 18446744073709551616) :
    bits .or .u64 (N : Int) (IntKind.u64.wrap (IntKind.u64.wrap (bits .and .u8 (b : Int) 127) * 2 ^ (7 * k))) = ((N + b % 128 * 128 ^ k : Nat) : Int) := by
  have e1 : bits .and .u8 (b : Int) 127 = ((b % 128 : Nat) : Int) := by
    rw [show (127 : Int) = ((127 : Nat) : Int) from rfl, u8_and_nat _ _ hb (by decide)]
    have := Nat.and_two_pow_sub_one_eq_mod b 7
    rw [show (2 : Nat) ^ 7 - 1 = 127 from rfl, show (2 : Nat) ^ 7 = 128 from rfl] at this
    rw [this]
  have e2 : IntKind.u64.wrap ((b % 128 : Nat) : Int) = ((b % 128 : Nat) : Int) := by rw [IntKind.wrap_u64]; omega
  have ep : (2 : Nat) ^ (7 * k) = 128 ^ k := by rw [Nat.pow_mul]
  have e3 : ((b % 128 : Nat) : Int) * 2 ^ (7 * k) = ((b % 128 * 128 ^ k : Nat) : Int) := by
    rw [← ep, Int.natCast_mul, Int.natCast_pow]
    rfl
  have e4 : IntKind.u64.wrap ((b % 128 * 128 ^ k : Nat) : Int) = ((b % 128 * 128 ^ k : Nat) : Int) := by
    rw [IntKind.wrap_u64]
    clear e3
    generalize b % 128 * 128 ^ k = m at hv ⊢
    omega
  have hN64 : N < 18446744073709551616 := by
    have : (128 : Nat) ^ k ≤ 128 ^ 9 := Nat.pow_le_pow_right (by decide) hk
    exact Nat.lt_of_lt_of_le (Nat.lt_of_lt_of_le hN this) (by decide)
  rw [e1, e2, e3, e4, u64_or_nat _ _ hN64 hv, ← ep, Nat.or_comm, Nat.mul_comm, ← Nat.two_pow_add_eq_or_of_lt (by rw [ep]; exact hN), Nat.add_comm]
set_option maxHeartbeats 2000000 in
set_option maxRecDepth 100000 in
theorem first_any (s : ByteArray) (w : World) (hs : s.size ≤ 281474976710656) : Calls Tryd.prog 27 #[.string s] w fun x w' => x = .returned (.tuple #[.int .u64 (fv 0 0 s.data.toList).1, .int .i64 (fv 0 0 s.data.toList).2.1, .int .i64 (fv 0 0 s.data.toList).2.2]) ∧ w = w' := by
  go_enter Tryd.func27, Tryd.ntmps27
  go_wp2
  go_loop [2, 9] (fun n i => ∃ k N : Nat, k ≤ 9 ∧ k ≤ s.size ∧ i = .int .i64 k ∧ n = .int .u64 (N : Nat) ∧ N < 128 ^ k ∧ fv k N (s.data.toList.drop k) = fv 0 0 s.data.toList) (fun _ i => s.size - (intOf i).toNat)
  case atStart => exact ⟨0, 0, by decide, Nat.zero_le _, rfl, rfl, by decide, rfl⟩
  case round =>
    obtain ⟨k, N, hk9, hk, rfl, rfl, hN, hf⟩ := hrel
    have HF := hidden hf
    have HN := hidden hN
    clear hf hN
    by_cases hlt : k < s.size
    · have hd := drop_byte s k hlt
      have HD := hidden hd
      have HO : Hid (k < 9 ∨ s[k].toNat = 1 → bits .or .u64 (N : Int) (IntKind.u64.wrap (IntKind.u64.wrap (bits .and .u8 (s[k].toNat : Int) 127) * 2 ^ (7 * k))) = ((N + s[k].toNat % 128 * 128 ^ k : Nat) : Int)) :=
        fun h => or_group N s[k].toNat k HN.out hk9 s[k].toNat_lt (group_fits _ _ h hk9)
      clear hd
      by_cases h9 : k = 9
      · subst h9
        go_wp2
        · have t1 : ((s[9].toNat : Int) != 1) = true := by assumption
          go_returns
          rw [fv_a HF.out HD.out rfl (by have := bne_yes t1; omega)]
          exact ⟨rfl, rfl⟩
        · have t1 : ((s[9].toNat : Int) != 1) = false := by assumption
          have t2 : 128 ≤ (s[9].toNat : Int) := by assumption
          exfalso
          have := bne_no t1
          omega
        · have t1 : ((s[9].toNat : Int) != 1) = false := by assumption
          have t2 : s[9].toNat = 0 := by assumption
          exfalso
          have := bne_no t1
          omega
        · have t1 : ((s[9].toNat : Int) != 1) = false := by assumption
          have t2 : s[9].toNat = 1 := by have := bne_no t1; omega
          have ho := HO.out (Or.inr t2)
          go_returns
          rw [fv_d HF.out HD.out (by omega) (by omega) (by omega), ← ho]
          exact ⟨rfl, rfl⟩
      · go_wp2
        · have t2 : 128 ≤ (s[k].toNat : Int) := by assumption
          have ho := HO.out (Or.inl (by omega))
          go_round
          case rel => exact ⟨k + 1, _, by omega, by omega, by go_num, by rw [ho], by rw [Nat.pow_succ]; have := HN.out; have h1 : s[k].toNat % 128 * 128 ^ k ≤ 127 * 128 ^ k := Nat.mul_le_mul_right _ (by omega); omega, fv_b HF.out HD.out h9 (by omega)⟩
          case measure => simp [intOf]; omega
        · have t2 : s[k].toNat = 0 := by assumption
          have t3 : 0 < k := by assumption
          go_returns
          rw [fv_c HF.out HD.out (fun h => h9 h.1) t2 t3]
          exact ⟨rfl, rfl⟩
        · have t2 : s[k].toNat = 0 := by assumption
          have t3 : ¬ 0 < k := by assumption
          have ho := HO.out (Or.inl (by omega))
          rw [t2] at ho
          go_returns
          rw [fv_d HF.out HD.out (fun h => h9 h.1) (by omega) (fun h => t3 h.2), t2, ← ho]
          exact ⟨rfl, rfl⟩
        · have t2 : ¬ s[k].toNat = 0 := by assumption
          have t1 : (s[k].toNat : Int) < 128 := by assumption
          have ho := HO.out (Or.inl (by omega))
          go_returns
          rw [fv_d HF.out HD.out (fun h => h9 h.1) (by omega) (fun h => t2 h.1), ← ho]
          exact ⟨rfl, rfl⟩
    · obtain rfl : k = s.size := by omega
      have e : fv 0 0 s.data.toList = (0, 0, 20) := by
        rw [← HF.out, List.drop_of_length_le (by rw [size_list]; exact Nat.le_refl _)]
        rfl
      have HE := hidden e
      clear e
      go_wp2
      go_returns
      rw [HE.out]
      exact ⟨rfl, rfl⟩

/-! ### Varint, Raw, Text -/
set_option maxHeartbeats 400000 in
theorem rvar_nil (w : World) : Calls Tryd.prog 14 #[.pointer none] w fun x w' => x = .returned (.int .u64 0) ∧ w = w' := by
  go_enter Tryd.func14, Tryd.ntmps14
  go_wp2
  go_returns
  exact ⟨rfl, rfl⟩
set_option maxHeartbeats 1000000 in
theorem rVar {g : Nat} {st : RSt} {w : World} (h : Rd g st w) : Calls Tryd.prog 14 #[.pointer (some ⟨g, 0, none⟩)] w fun x w' => x = .returned (.int .u64 (rvar st).1) ∧ Rd g (rvar st).2 w' ∧ Kept (only g) w w' := by
  obtain ⟨s, f⟩ := st
  have h0 : w.cell? ⟨g, 0, none⟩ = some (.string s) := blk_cell h.blk
  have h1 : w.cell? ⟨g, 1, none⟩ = some (.int .i64 f) := blk_cell h.blk
  have hs : s.size ≤ 281474976710656 := h.sz
  have H := hidden h
  clear h
  by_cases hf : f = 0
  · subst hf
    obtain ⟨R, hR⟩ : ∃ R, R = fv 0 0 s.data.toList := ⟨_, rfl⟩
    have hsz := fv_size s.data.toList 0 0
    have hF := fun w => first_any s w hs
    rw [← hR] at hsz hF
    obtain ⟨n, z, er⟩ := R
    simp only at hsz hF
    rw [size_list] at hsz
    by_cases he : er = 0
    · subst he
      have hz := (hsz rfl).1
      have e : rvar (s, 0) = (n, (rtake (s, 0) z).2) := by simp only [rvar, ← hR, if_pos]
      have HF := hidden hF
      have HE := hidden e
      clear hF hR hsz e
      go_enter Tryd.func14, Tryd.ntmps14
      go_wp2_with (first
        | (go_at_call 27; refine (HF.out _).mono ?_; rintro e w1 ⟨rfl, rfl⟩)
        | (go_at_call 29; refine (take_any H.out z (by omega)).mono ?_; rintro e w1 ⟨rfl, h2, k2⟩))
      go_returns
      rw [HE.out]
      exact ⟨rfl, h2, k2⟩
    · have he1 : (er != 0) = true := by simpa using he
      have e : rvar (s, 0) = (0, rfail (s, 0) er) := by simp only [rvar, ← hR, if_pos, if_neg he, rfail]
      have HF := hidden hF
      have HE := hidden e
      clear hF hR hsz e
      go_enter Tryd.func14, Tryd.ntmps14
      go_wp2_with (first
        | (go_at_call 27; refine (HF.out _).mono ?_; rintro e w1 ⟨rfl, rfl⟩)
        | (go_at_call 28; refine (fail_any H.out er).mono ?_; rintro e w1 ⟨rfl, h2, k2⟩))
      go_returns
      rw [HE.out]
      exact ⟨rfl, h2, k2⟩
  · have hf1 : (f != 0) = true := by simpa using hf
    go_enter Tryd.func14, Tryd.ntmps14
    go_wp2
    go_returns
    have e : rvar (s, f) = (0, (s, f)) := by simp [rvar, hf]
    rw [e]
    exact ⟨rfl, H.out, Kept.refl _ _⟩
end Go.Proofs.YtfeaaielopaonaaDoor
