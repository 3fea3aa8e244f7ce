/- math/bits.TrailingZeros64 of every word but 0, and a bitmap's find, firstSet, firstUnset. -/
import Derived.Test.YtbmbdidmbdanmaaDoorSp2
import Derived.Test.YtbmbdidmbdanmaaDoorCut1
import Derived.Shelf.Spec.TrailingZeros
namespace Go.Proofs.YtbmbdidmbdanmaaDoor
open Go.RowKit
set_option linter.unusedVariables false

set_option maxHeartbeats 1000000 in
set_option maxRecDepth 100000 in
theorem tz64_core (x k idx : Nat) (w : World) (hx0 : ((x : Int) == 0) = false)
    (key : IntKind.u64.wrap (bits BinOp.and IntKind.u64 (x : Int) (IntKind.u64.wrap (-(x : Int))) * 285870213051353865) / 288230376151711744 = (idx : Int))
    (hi : idx < 64) (hk : k < 64) (hcell : w.cell? ⟨0, idx, none⟩ = some (.int .u8 k)) :
    Calls Tryd.prog 61 #[.int .u64 x] w fun e w' => e = .returned (.int .i64 k) ∧ w = w' := by
  go_enter Tryd.func61, Tryd.ntmps61
  go_wp2_with (simp only [key])
  go_returns
  exact ⟨rfl, rfl⟩
theorem deB_eq : deB = Lib.deBruijn64tab := by decide
theorem tz64_all (x : Nat) (hx : x < 18446744073709551616) (hx0 : x ≠ 0) (w : World) (hT : Tab w) : Calls Tryd.prog 61 #[.int .u64 x] w fun e w' => e = .returned (.int .i64 (Lib.ctz 64 x : Nat)) ∧ w = w' := by
  obtain ⟨hlow, hk⟩ := Lib.lowest_bit 64 x hx0 hx
  obtain ⟨hi, htab⟩ := Lib.deBruijn64_at _ hk
  have hcell := hT _ hi
  rw [deB_eq, htab] at hcell
  exact tz64_core x _ _ w (by simp; omega) (Go.Proofs.tz64_key x _ hx hx0 hlow) hi hk hcell
/-- r is the first place from a on, below e, where h is; e, if there is none. -/
structure First (h : Nat → Bool) (a e r : Nat) : Prop where
  lo : a ≤ r
  hi : r ≤ e
  none : ∀ i, a ≤ i → i < r → h i = false
  some : r < e → h r = true
theorem First.one {h : Nat → Bool} {a e r s : Nat} (x : First h a e r) (y : First h a e s) : r = s := by
  rcases Nat.lt_trichotomy r s with l | l | l
  · have := y.none r x.lo l; have := x.some (Nat.lt_of_lt_of_le l y.hi); simp_all
  · exact l
  · have := x.none s y.lo l; have := y.some (Nat.lt_of_lt_of_le l x.hi); simp_all
theorem ctz_bits (x : Nat) (hx : x < 18446744073709551616) (hx0 : x ≠ 0) : x.testBit (Lib.ctz 64 x) = true ∧ (∀ j, j < Lib.ctz 64 x → x.testBit j = false) ∧ Lib.ctz 64 x < 64 := by
  obtain ⟨m, e, hk⟩ := Lib.ctzFrom_spec 64 x (Nat.pos_of_ne_zero hx0) hx
  have e1 : Lib.ctz 64 x = Lib.ctzFrom 64 x := if_neg hx0
  rw [e1]
  generalize Lib.ctzFrom 64 x = k at *
  subst e
  refine ⟨?_, fun j hj => ?_, hk⟩
  · rw [Nat.testBit_two_pow_mul]; simp [Nat.testBit_zero]
  · rw [Nat.testBit_two_pow_mul]; simp; omega
/-- The turning word. -/
def trn (t : Bool) : Nat := if t then 18446744073709551615 else 0
theorem trn_lt (t : Bool) : trn t < 18446744073709551616 := by cases t <;> decide
theorem trn_bit (t : Bool) (j : Nat) (hj : j < 64) : (trn t).testBit j = t := by
  cases t
  · simp [trn]
  · show (2 ^ 64 - 1).testBit j = true
    rw [Nat.testBit_two_pow_sub_one]; simp [hj]
set_option maxHeartbeats 1000000 in
set_option maxRecDepth 100000 in
theorem bm_find (g o : Nat) (t : TypeId) (cs : Array Value) (f : Nat → Bool) (a e : Nat) (b : Bool) (w : World) (hb : w.heap[g]? = some (.cells cs t (0, 0))) (hf : BmIn cs o f) (hT : Tab w) (hae : a ≤ e) (he : e ≤ 4096) :
    Calls Tryd.prog 60 #[.pointer (some ⟨g, o, none⟩), .int .i64 a, .int .i64 e, .int .u64 (trn b)] w fun r w' => ∃ n : Nat, r = .returned (.int .i64 n) ∧ First (fun i => f i ^^ b) a e n ∧ w = w' := by
  have HB := hidden hb
  have HT := hidden hT
  have HF := hidden hf
  have hX := trn_bit b
  have hXl := trn_lt b
  obtain ⟨X, hXe⟩ : ∃ X, X = trn b := ⟨_, rfl⟩
  rw [← hXe] at hX hXl ⊢
  clear hb hT hf hXe
  have HX := hidden hX
  clear hX
  go_enter Tryd.func60, Tryd.ntmps60
  go_wp2
  go_loop [9] (fun x => ∃ i : Nat, a ≤ i ∧ (i ≤ e ∨ i % 64 = 0 ∧ i ≤ 4096) ∧ x = .int .i64 i ∧ ∀ j, a ≤ j → j < i → j < e → (f j ^^ b) = false) (fun x => 4096 - (intOf x).toNat)
  case atStart => exact ⟨a, Nat.le_refl _, Or.inl hae, rfl, fun j h1 h2 => by omega⟩
  case round =>
    obtain ⟨i, hi0, hi1, rfl, hn⟩ := hrel
    have HN := hidden hn
    clear hn
    by_cases hlt : i < e
    · obtain ⟨q, hq⟩ : ∃ q, q = i / 64 := ⟨_, rfl⟩
      obtain ⟨r, hr'⟩ : ∃ r, r = i % 64 := ⟨_, rfl⟩
      have hq4 : q < 64 := by omega
      have hr4 : r < 64 := by omega
      obtain ⟨n, hc, hn, hbit⟩ := HF.out.word q hq4
      have c1 : w.cell? ⟨g, o + q, none⟩ = some (.int .u64 n) := (blk_cell HB.out).trans hc
      have HBit := hidden hbit
      have d1 : IntKind.i64.wrap ((i : Int) / 64) = (q : Int) := by rw [IntKind.wrap_i64]; omega
      have d2 : (i : Int).tmod 64 = (r : Int) := by rw [Int.tmod_eq_emod_of_nonneg (by omega)]; omega
      have k2 : (i : Int) < (e : Int) := by omega
      have k3 : (0 : Int) ≤ (q : Int) := by omega
      have k4 : (q : Int) < 64 := by omega
      have k5 : (r : Int) ≤ 64 := by omega
      have k6 : (0 : Int) ≤ (r : Int) := by omega
      have hx := hidden (show i = 64 * q + r by omega)
      have d3 : bits .xor .u64 (n : Int) (X : Int) = ((n ^^^ X : Nat) : Int) := u64_xor_nat n X hn hXl
      obtain ⟨R, hR⟩ : ∃ R, R = (n ^^^ X) / 2 ^ r := ⟨_, rfl⟩
      have d4 : ((n ^^^ X : Nat) : Int) / 2 ^ r = (R : Int) := by rw [hR]; simp
      have hRl : R < 18446744073709551616 := by rw [hR]; exact Nat.lt_of_le_of_lt (Nat.div_le_self _ _) (Nat.xor_lt_two_pow (n := 64) hn hXl)
      have hRb : ∀ j, R.testBit j = (decide (r + j < 64) && (f (i + j) ^^ b)) := fun j => by
        rw [hR, Nat.testBit_div_two_pow]
        by_cases h : r + j < 64
        · rw [Nat.add_comm j r, Nat.testBit_xor, hbit _ h, HX.out _ h, hx.out]; simp [h, Nat.add_assoc]
        · rw [Nat.add_comm j r, Nat.testBit_lt_two_pow (Nat.lt_of_lt_of_le (Nat.xor_lt_two_pow (n := 64) hn hXl) (Nat.pow_le_pow_right (by decide) (by omega)))]; simp [h]
      have HRb := hidden hRb
      clear hc hbit hq hr' hR hRb HF
      by_cases h0 : R = 0
      · subst h0
        have m1 : IntKind.i64.wrap (64 - (r : Int)) = 64 - (r : Int) := by rw [IntKind.wrap_i64]; omega
        go_wp2
        go_round
        case rel =>
          have e0 := hx.out
          refine ⟨i + (64 - r), by omega, by omega, by go_num, fun j j1 j2 j3 => ?_⟩
          by_cases hj : j < i
          · exact HN.out j j1 hj j3
          · have := HRb.out (j - i)
            rw [Nat.zero_testBit, show i + (j - i) = j by omega, decide_eq_true (show r + (j - i) < 64 by omega)] at this
            simpa using this.symm
        case measure => simp [intOf]; omega
      · have hb0 : ((R : Int) == 0) = false := by simp; exact h0
        have hb1 : (R : Int) ≠ 0 := by omega
        obtain ⟨z1, z2, z3⟩ := ctz_bits R hRl h0
        have A := hidden (tz64_all R hRl h0 w HT.out)
        obtain ⟨z, hz⟩ : ∃ z, z = Lib.ctz 64 R := ⟨_, rfl⟩
        rw [← hz] at z1 z2 z3 A
        rw [HRb.out, Bool.and_eq_true] at z1
        have y1 : r + z < 64 := by simpa using z1.1
        have y2 : ∀ j, a ≤ j → j < i + z → j < e → (f j ^^ b) = false := fun j j1 j2 j3 => by
          by_cases hj : j < i
          · exact HN.out j j1 hj j3
          · have := z2 (j - i) (by omega)
            rw [HRb.out, show i + (j - i) = j by omega, decide_eq_true (show r + (j - i) < 64 by omega)] at this
            simpa using this
        have F1 := hidden (fun h : i + z ≤ e => (⟨by omega, h, fun j j1 j2 => y2 j j1 j2 (by omega), fun _ => z1.2⟩ : First (fun i => f i ^^ b) a e (i + z)))
        have F2 := hidden (fun h : e ≤ i + z => (⟨hae, Nat.le_refl _, fun j j1 j2 => y2 j j1 (by omega) j2, fun h => absurd h (Nat.lt_irrefl _)⟩ : First (fun i => f i ^^ b) a e e))
        clear z1 z2 hz h0 y1 y2
        go_wp2_with (go_at_call 61; refine A.out.mono ?_; rintro e w1 ⟨rfl, rfl⟩)
        all_goals
          go_returns
          first
            | exact ⟨i + z, congrArg (fun n => Ending.returned (.int .i64 n)) (by omega), F1.out (by omega), rfl⟩
            | exact ⟨e, rfl, F2.out (by omega), rfl⟩
    · have k2 : ¬ (i : Int) < (e : Int) := by omega
      go_wp2
      go_returns
      exact ⟨e, rfl, ⟨hae, Nat.le_refl _, fun j j1 j2 => HN.out j j1 (by omega) j2, fun h => absurd h (Nat.lt_irrefl _)⟩, rfl⟩
end Go.Proofs.YtbmbdidmbdanmaaDoor
