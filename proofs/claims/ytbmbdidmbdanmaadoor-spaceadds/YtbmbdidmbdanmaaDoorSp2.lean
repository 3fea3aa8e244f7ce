/- math/bits.OnesCount64, and a bitmap's ones. -/
import Derived.Test.YtbmbdidmbdanmaaDoorSp1
import Derived.Test.YtbmbdidmbdanmaaDoorOnes
import Derived.Test.YtbmbdidmbdanmaaDoorPowP
namespace Go.Proofs.YtbmbdidmbdanmaaDoor
open Go.RowKit
set_option linter.unusedVariables false

set_option maxHeartbeats 1000000 in
set_option maxRecDepth 100000 in
theorem ones64 (x : Nat) (h : x < 18446744073709551616) (w : World) : Calls Tryd.prog 58 #[.int .u64 x] w fun e w' => e = .returned (.int .i64 (pcn 64 x : Nat)) ∧ w = w' := by
  obtain ⟨o1, o2, o3, o4⟩ := ones_sum x
  have l1 := s1_le x
  have l2 := s2_le (s1 8 x)
  have E1 : IntKind.u64.wrap (bits .and .u64 ((x : Int) / 2) 6148914691236517205 + bits .and .u64 (x : Int) 6148914691236517205) = ((s1 8 x : Nat) : Int) := by
    rw [show ((x : Int) / 2) = ((x / 2 : Nat) : Int) by omega, show (6148914691236517205 : Int) = ((6148914691236517205 : Nat) : Int) from rfl, u64_and_nat _ _ (by omega) (by decide), u64_and_nat _ _ h (by decide), IntKind.wrap_u64]
    rw [show ((x / 2 &&& 6148914691236517205 : Nat) : Int) + ((x &&& 6148914691236517205 : Nat) : Int) = ((s1 8 x : Nat) : Int) from rfl]
    omega
  obtain ⟨y1, hy1⟩ : ∃ y, y = s1 8 x := ⟨_, rfl⟩
  rw [← hy1] at E1 o1 o2 o3 o4 l1 l2
  have E2 : IntKind.u64.wrap (bits .and .u64 ((y1 : Int) / 4) 3689348814741910323 + bits .and .u64 (y1 : Int) 3689348814741910323) = ((s2 8 y1 : Nat) : Int) := by
    rw [show ((y1 : Int) / 4) = ((y1 / 4 : Nat) : Int) by omega, show (3689348814741910323 : Int) = ((3689348814741910323 : Nat) : Int) from rfl, u64_and_nat _ _ (by omega) (by decide), u64_and_nat _ _ l1 (by decide), IntKind.wrap_u64]
    rw [show ((y1 / 4 &&& 3689348814741910323 : Nat) : Int) + ((y1 &&& 3689348814741910323 : Nat) : Int) = ((s2 8 y1 : Nat) : Int) from rfl]
    omega
  obtain ⟨y2, hy2⟩ : ∃ y, y = s2 8 y1 := ⟨_, rfl⟩
  rw [← hy2] at E2 o1 o2 o3 o4 l2
  have E3 : bits .and .u64 (IntKind.u64.wrap ((y2 : Int) / 16 + (y2 : Int))) 1085102592571150095 = ((s3 8 y2 : Nat) : Int) := by
    rw [show IntKind.u64.wrap ((y2 : Int) / 16 + (y2 : Int)) = ((y2 / 16 + y2 : Nat) : Int) by rw [IntKind.wrap_u64]; omega, show (1085102592571150095 : Int) = ((1085102592571150095 : Nat) : Int) from rfl, u64_and_nat _ _ (by omega) (by decide)]
    rfl
  obtain ⟨y3, hy3⟩ : ∃ y, y = s3 8 y2 := ⟨_, rfl⟩
  rw [← hy3] at E3 o1 o2 o3 o4
  have E4 : IntKind.u64.wrap ((y3 : Int) + (y3 : Int) / 256) = ((s4 y3 : Nat) : Int) := by
    rw [IntKind.wrap_u64]; unfold s4 at *; omega
  obtain ⟨y4, hy4⟩ : ∃ y, y = s4 y3 := ⟨_, rfl⟩
  rw [← hy4] at E4 o1 o2 o3 o4
  have E5 : IntKind.u64.wrap ((y4 : Int) + (y4 : Int) / 65536) = ((s5 y4 : Nat) : Int) := by
    rw [IntKind.wrap_u64]; unfold s5 at *; omega
  obtain ⟨y5, hy5⟩ : ∃ y, y = s5 y4 := ⟨_, rfl⟩
  rw [← hy5] at E5 o1 o3 o4
  have E6 : IntKind.u64.wrap ((y5 : Int) + (y5 : Int) / 4294967296) = ((s6 y5 : Nat) : Int) := by
    rw [IntKind.wrap_u64]; unfold s6 at *; omega
  obtain ⟨y6, hy6⟩ : ∃ y, y = s6 y5 := ⟨_, rfl⟩
  rw [← hy6] at E6 o1 o4
  have E7 : IntKind.i64.wrap (y6 : Int) = (y6 : Int) := by rw [IntKind.wrap_i64]; omega
  have E8 : bits .and .i64 (y6 : Int) 127 = ((pcn 64 x : Nat) : Int) := by
    rw [show (127 : Int) = ((127 : Nat) : Int) from rfl, i64_and_nat _ _ (by omega) (by decide), ← o1, show 127 = 2 ^ 7 - 1 from rfl, Nat.and_two_pow_sub_one_eq_mod]
  clear hy1 hy2 hy3 hy4 hy5 hy6 o1 o2 o3 o4 l1 l2
  go_enter Tryd.func58, Tryd.ntmps58
  go_wp2
  go_returns
  exact ⟨rfl, rfl⟩
/-- How many of the first n bits are 1. -/
def cnt (f : Nat → Bool) : Nat → Nat
  | 0 => 0
  | n + 1 => cnt f n + (f n).toNat
theorem cnt_add (f : Nat → Bool) (n m : Nat) : cnt f (n + m) = cnt f n + cnt (fun j => f (n + j)) m := by
  induction m with
  | zero => rfl
  | succ m ih => rw [← Nat.add_assoc]; simp only [cnt]; rw [ih]; omega
theorem cnt_ext {f h : Nat → Bool} (n : Nat) (e : ∀ j, j < n → f j = h j) : cnt f n = cnt h n := by
  induction n with
  | zero => rfl
  | succ n ih => simp only [cnt]; rw [ih (fun j hj => e j (by omega)), e n (by omega)]
theorem pcn_cnt (n x : Nat) : pcn n x = cnt x.testBit n := by
  induction n with
  | zero => rfl
  | succ n ih =>
    rw [pcn_add, ih]
    simp only [cnt, pcn, Nat.add_zero]
    rw [Nat.testBit_eq_decide_div_mod_eq]
    have : x / 2 ^ n % 2 = 0 ∨ x / 2 ^ n % 2 = 1 := by omega
    rcases this with e | e <;> simp [e]
theorem cnt_word {f : Nat → Bool} {k x : Nat} (h : ∀ j, j < 64 → x.testBit j = f (64 * k + j)) : cnt f (64 * (k + 1)) = cnt f (64 * k) + pcn 64 x := by
  rw [show 64 * (k + 1) = 64 * k + 64 by omega, cnt_add, pcn_cnt, cnt_ext 64 h]
theorem cnt_le (f : Nat → Bool) (n : Nat) : cnt f n ≤ n := by
  induction n with
  | zero => exact Nat.le_refl _
  | succ n ih => simp only [cnt]; have := Bool.toNat_le (f n); omega
set_option maxHeartbeats 1000000 in
set_option maxRecDepth 100000 in
theorem bm_ones (g o : Nat) (t : TypeId) (cs : Array Value) (f : Nat → Bool) (w : World) (hb : w.heap[g]? = some (.cells cs t (0, 0))) (hf : BmIn cs o f) :
    Calls Tryd.prog 47 #[.pointer (some ⟨g, o, none⟩)] w fun r w' => r = .returned (.int .i64 (cnt f 4096 : Nat)) ∧ w = w' := by
  have HB := hidden hb
  clear hb
  have H1 := hidden (fun x h w => ones64 x h w)
  go_enter Tryd.func47, Tryd.ntmps47
  go_wp2
  go_loop [3, 7] (fun n i => ∃ k : Nat, k ≤ 64 ∧ i = .int .i64 k ∧ n = .int .i64 (cnt f (64 * k) : Nat)) (fun _ i => 64 - (intOf i).toNat)
  case atStart => exact ⟨0, by omega, rfl, rfl⟩
  case round =>
    obtain ⟨k, hk, rfl, rfl⟩ := hrel
    by_cases hlt : k < 64
    · obtain ⟨x, hc, hx, hbit⟩ := hf.word k hlt
      have c1 : w.cell? ⟨g, o + k, none⟩ = some (.int .u64 x) := (blk_cell HB.out).trans hc
      have hs := hidden (cnt_word hbit)
      have hl := cnt_le f (64 * k)
      have hp := pcn_le 64 x
      have X1 := hidden (fun w => H1.out x hx w)
      have HF := hidden hf
      have k1 : (0 : Int) ≤ (k : Int) := by omega
      have k2 : (k : Int) < 64 := by omega
      obtain ⟨a, ha⟩ : ∃ a, a = cnt f (64 * k) := ⟨_, rfl⟩
      obtain ⟨b, hb⟩ : ∃ b, b = pcn 64 x := ⟨_, rfl⟩
      rw [← ha] at hs hl ⊢
      rw [← hb] at hs hp X1
      clear hc hbit hf ha hb H1
      go_wp2_with (go_at_call 58; refine (X1.out _).mono ?_; rintro e w1 ⟨rfl, rfl⟩)
      go_round
      case rel => exact ⟨k + 1, by omega, by go_num, by rw [hs.out]; go_num⟩
      case measure => simp [intOf]; omega
    · have k2 : ¬ (k : Int) < 64 := by omega
      have : k = 64 := by omega
      subst this
      go_wp2
      go_returns
      exact ⟨rfl, rfl⟩
end Go.Proofs.YtbmbdidmbdanmaaDoor
