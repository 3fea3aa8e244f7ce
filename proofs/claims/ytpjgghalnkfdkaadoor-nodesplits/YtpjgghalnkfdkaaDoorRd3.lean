/- codec.Reader: raw bytes, texts; what is asked of it; a new one. -/
import Derived.Test.YtpjgghalnkfdkaaDoorRd
/- codec.Reader: varints, texts, raw bytes; what is asked of it; a new one. -/
namespace Go.Proofs.YtpjgghalnkfdkaaDoor
open Go.RowKit
set_option linter.unusedVariables false

theorem drop_byte (s : ByteArray) (k : Nat) (h : k < s.size) : s.data.toList.drop k = s[k] :: s.data.toList.drop (k + 1) := by
  rw [List.drop_eq_getElem_cons (by rw [size_list]; exact h)]
  rfl
theorem bne_yes {a b : Int} (h : (a != b) = true) : a ≠ b := by simpa using h
theorem bne_no {a b : Int} (h : (a != b) = false) : a = b := by simpa using h
theorem group_fits (b k : Nat) (h : k < 9 ∨ b = 1) (hk : k ≤ 9) : b % 128 * 128 ^ k < 18446744073709551616 := by
  have h9 : (128 : Nat) ^ 9 = 9223372036854775808 := by decide
  rcases Nat.lt_or_ge k 9 with hk8 | hk9
  · have : (128 : Nat) ^ k ≤ 128 ^ 8 := Nat.pow_le_pow_right (by decide) (by omega)
    have hm : b % 128 * 128 ^ k ≤ 127 * 128 ^ 8 := Nat.mul_le_mul (by omega) this
    exact Nat.lt_of_le_of_lt hm (by decide)
  · obtain rfl : k = 9 := by omega
    obtain rfl : b = 1 := by omega
    rw [h9]; decide
theorem or_group (N b k : Nat) (hN : N < 128 ^ k) (hk : k ≤ 9) (hb : b < 256) (hv : b % 128 * 128 ^ k < 18446744073709551616) :
    bits .or .u64 (N : Int) (IntKind.u64.wrap (IntKind.u64.wrap (bits .and .u8 (b : Int) 127) * 2 ^ (7 * k))) = ((N + b % 128 * 128 ^ k : Nat) : Int) := by
  have e1 : bits .and .u8 (b : Int) 127 = ((b % 128 : Nat) : Int) := by
    rw [show (127 : Int) = ((127 : Nat) : Int) from rfl, u8_and_nat _ _ hb (by decide)]
    have := Nat.and_two_pow_sub_one_eq_mod b 7
    rw [show (2 : Nat) ^ 7 - 1 = 127 from rfl, show (2 : Nat) ^ 7 = 128 from rfl] at this
    rw [this]
  have e2 : IntKind.u64.wrap ((b % 128 : Nat) : Int) = ((b % 128 : Nat) : Int) := by rw [IntKind.wrap_u64]; omega
  have ep : (2 : Nat) ^ (7 * k) = 128 ^ k := by rw [Nat.pow_mul]
  have e3 : ((b % 128 : Nat) : Int) * 2 ^ (7 * k) = ((b % 128 * 128 ^ k : Nat) : Int) := by
    rw [← ep, Int.natCast_mul, Int.natCast_pow]
    rfl
  have e4 : IntKind.u64.wrap ((b % 128 * 128 ^ k : Nat) : Int) = ((b % 128 * 128 ^ k : Nat) : Int) := by
    rw [IntKind.wrap_u64]
    clear e3
    generalize b % 128 * 128 ^ k = m at hv ⊢
    omega
  have hN64 : N < 18446744073709551616 := by
    have : (128 : Nat) ^ k ≤ 128 ^ 9 := Nat.pow_le_pow_right (by decide) hk
    exact Nat.lt_of_lt_of_le (Nat.lt_of_lt_of_le hN this) (by decide)
  rw [e1, e2, e3, e4, u64_or_nat _ _ hN64 hv, ← ep, Nat.or_comm, Nat.mul_comm, ← Nat.two_pow_add_eq_or_of_lt (by rw [ep]; exact hN), Nat.add_comm]
end Go.Proofs.YtpjgghalnkfdkaaDoor
namespace Go.Proofs.YtpjgghalnkfdkaaDoor
open Go.RowKit
set_option linter.unusedVariables false

theorem rtake_le (st : RSt) (n : Nat) (h : st.1.size ≤ 281474976710656) : (rtake st n).1.size ≤ 281474976710656 := by
  unfold rtake
  split
  · split
    · exact Nat.zero_le _
    · simp; omega
  · exact Nat.zero_le _
theorem Kept.weak {S : Nat → Prop} {a b : World} (h : Kept (fun _ => False) a b) : Kept S a b := h.mono fun _ _ h => h.elim
set_option maxHeartbeats 400000 in
theorem rraw_nil (n : Int) (w : World) : Calls Tryd.prog 69 #[.pointer none, .int .i64 n] w fun x w' => x = .returned (.string ⟨#[]⟩) ∧ Kept (fun _ => False) w w' := by
  by_cases h : n < 0
  · go_enter Tryd.func69, Tryd.ntmps69
    go_wp2_with (go_at_call 89; refine (fail_nil _ _).mono ?_; rintro e w1 ⟨rfl, rfl⟩)
    go_returns
    exact ⟨rfl, Kept.refl _ _⟩
  · go_enter Tryd.func69, Tryd.ntmps69
    go_wp2_with (first
      | (go_at_call 91; refine (take_nil _ _).mono ?_; rintro e w1 ⟨rfl, rfl⟩)
      | (go_at_call 90; refine (clone ⟨#[]⟩ _ (Nat.zero_le _)).mono ?_; rintro e w2 ⟨rfl, k2⟩))
    go_returns
    exact ⟨rfl, k2⟩
set_option maxHeartbeats 1000000 in
theorem rRaw {g : Nat} {st : RSt} {w : World} (h : Rd g st w) (n : Int) (hn : n ≤ 9223372036854775807) : Calls Tryd.prog 69 #[.pointer (some ⟨g, 0, none⟩), .int .i64 n] w fun x w' => x = .returned (.string (rraw st n).1) ∧ Rd g (rraw st n).2 w' ∧ Kept (only g) w w' := by
  have hl := h.sz
  have H := hidden h
  clear h
  by_cases h : n < 0
  · have e : rraw st n = (⟨#[]⟩, rfail st 1) := by simp only [rraw, if_pos h]
    have HE := hidden e
    clear e
    go_enter Tryd.func69, Tryd.ntmps69
    go_wp2_with (go_at_call 89; refine (fail_any H.out _).mono ?_; rintro e w1 ⟨rfl, h1, k1⟩)
    go_returns
    rw [HE.out]
    exact ⟨rfl, h1, k1⟩
  · obtain ⟨m, rfl⟩ := Int.eq_ofNat_of_zero_le (Int.not_lt.1 h)
    have e : rraw st (m : Int) = rtake st m := by simp only [rraw, if_neg h, Int.toNat_natCast]
    have ht := take_any H.out m (by omega)
    have hc := fun w => clone (rtake st m).1 w (rtake_le st m hl)
    generalize rtake st m = R at e ht hc
    have HE := hidden e
    have HT := hidden ht
    have HC := hidden hc
    clear e ht hc
    go_enter Tryd.func69, Tryd.ntmps69
    go_wp2_with (first
      | (go_at_call 91; refine HT.out.mono ?_; rintro e w1 ⟨rfl, h1, k1⟩)
      | (go_at_call 90; refine (HC.out _).mono ?_; rintro e w2 ⟨rfl, k2⟩))
    go_returns
    rw [HE.out]
    exact ⟨rfl, h1.kept k2 (fun h => h), k1.trans k2.weak⟩
theorem left_nil (w : World) : Calls Tryd.prog 95 #[.pointer none] w fun x w' => x = .returned (.int .i64 0) ∧ w = w' := by
  go_enter Tryd.func95, Tryd.ntmps95
  go_wp2
  go_returns
  exact ⟨rfl, rfl⟩
theorem rLeft {g : Nat} {st : RSt} {w : World} (h : Rd g st w) : Calls Tryd.prog 95 #[.pointer (some ⟨g, 0, none⟩)] w fun x w' => x = .returned (.int .i64 st.1.size) ∧ w = w' := by
  have h0 : w.cell? ⟨g, 0, none⟩ = some (.string st.1) := blk_cell h.blk
  clear h
  go_enter Tryd.func95, Tryd.ntmps95
  go_wp2
  go_returns
  exact ⟨rfl, rfl⟩
theorem err_nil (w : World) : Calls Tryd.prog 73 #[.pointer none] w fun x w' => x = .returned (.int .i64 6) ∧ w = w' := by
  go_enter Tryd.func73, Tryd.ntmps73
  go_wp2
  go_returns
  exact ⟨rfl, rfl⟩
theorem rErr {g : Nat} {st : RSt} {w : World} (h : Rd g st w) : Calls Tryd.prog 73 #[.pointer (some ⟨g, 0, none⟩)] w fun x w' => x = .returned (.int .i64 st.2) ∧ w = w' := by
  have h0 : w.cell? ⟨g, 1, none⟩ = some (.int .i64 st.2) := blk_cell h.blk
  clear h
  go_enter Tryd.func73, Tryd.ntmps73
  go_wp2
  go_returns
  exact ⟨rfl, rfl⟩
theorem rdone_nil (w : World) : Calls Tryd.prog 74 #[.pointer none] w fun x w' => x = .returned (.int .i64 6) ∧ w = w' := by
  go_enter Tryd.func74, Tryd.ntmps74
  go_wp2_with (go_at_call 73; refine (err_nil _).mono ?_; rintro e w1 ⟨rfl, rfl⟩)
  go_returns
  exact ⟨rfl, rfl⟩
set_option maxHeartbeats 400000 in
theorem rDone {g : Nat} {st : RSt} {w : World} (h : Rd g st w) : Calls Tryd.prog 74 #[.pointer (some ⟨g, 0, none⟩)] w fun x w' => x = .returned (.int .i64 (rdone st)) ∧ w = w' := by
  obtain ⟨s, f⟩ := st
  have he := rErr h
  have hl := rLeft h
  have hs : s.size ≤ 281474976710656 := h.sz
  have HE := hidden he
  have HL := hidden hl
  clear he hl h
  by_cases hf : f = 0
  · subst hf
    by_cases h0 : 0 < s.size
    · have e : rdone (s, 0) = 22 := by simp [rdone, h0]
      have HR := hidden e
      clear e
      go_enter Tryd.func74, Tryd.ntmps74
      go_wp2_with (first
        | (go_at_call 73; refine HE.out.mono ?_; rintro e w1 ⟨rfl, rfl⟩)
        | (go_at_call 95; refine HL.out.mono ?_; rintro e w1 ⟨rfl, rfl⟩))
      go_returns
      rw [HR.out]
      exact ⟨rfl, rfl⟩
    · have e : rdone (s, 0) = 0 := by simp [rdone, h0]
      have HR := hidden e
      clear e
      go_enter Tryd.func74, Tryd.ntmps74
      go_wp2_with (first
        | (go_at_call 73; refine HE.out.mono ?_; rintro e w1 ⟨rfl, rfl⟩)
        | (go_at_call 95; refine HL.out.mono ?_; rintro e w1 ⟨rfl, rfl⟩))
      go_returns
      rw [HR.out]
      exact ⟨rfl, rfl⟩
  · have hf1 : (f != 0) = true := by simpa using hf
    have e : rdone (s, f) = f := by simp [rdone, hf]
    have HR := hidden e
    clear e
    go_enter Tryd.func74, Tryd.ntmps74
    go_wp2_with (first
      | (go_at_call 73; refine HE.out.mono ?_; rintro e w1 ⟨rfl, rfl⟩))
    go_returns
    rw [HR.out]
    exact ⟨rfl, rfl⟩
theorem rvar_lt (st : RSt) : (rvar st).1 < 18446744073709551616 := by
  unfold rvar
  split
  · split
    · exact fv_lt _ 0 0 (by decide) (by decide)
    · simp
  · simp
theorem newReader (s : ByteArray) (w : World) : Calls Tryd.prog 68 #[.string s] w fun x w' => x = .returned (.pointer (some ⟨w.heap.size, 0, none⟩)) ∧ w' = w.alloc (.cells #[.string s, .int .i64 0] 115) := by
  go_enter Tryd.func68, Tryd.ntmps68
  go_wp2
  go_returns
  exact ⟨rfl, rfl⟩
theorem Rd.new (s : ByteArray) (w : World) (hs : s.size ≤ 281474976710656) : Rd w.heap.size (s, 0) (w.alloc (.cells #[.string s, .int .i64 0] 115)) := ⟨heap_alloc_new _ _, hs⟩
end Go.Proofs.YtpjgghalnkfdkaaDoor
