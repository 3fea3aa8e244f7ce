/- A bitmap of 64 words in memory: set, unset. -/
import Derived.Test.YtbmbdidmbdanmaaDoorBase
import Derived.Test.YtbmbdidmbdanmaaDoorRows
import Derived.Deep.RegionWith
import Derived.Handy
import Derived.BigQuiet
import Derived.Deep.QuietTactic
import Derived.StillTailTactics
import Derived.Laws.BitsAllLaws
namespace Go.Proofs.YtbmbdidmbdanmaaDoor
open Go.RowKit
set_option linter.unusedVariables false

/-- Among the cells cs, from o on, lie 64 words, whose bits are f. -/
structure BmIn (cs : Array Value) (o : Nat) (f : Nat → Bool) : Prop where
  word : ∀ k, k < 64 → ∃ n : Nat, cs[o + k]? = some (.int .u64 n) ∧ n < 18446744073709551616 ∧ ∀ j, j < 64 → n.testBit j = f (64 * k + j)
/-- The bits with those from a to e - 1 at 1, at 0. -/
def fSet (f : Nat → Bool) (a e : Nat) : Nat → Bool := fun i => f i || decide (a ≤ i) && decide (i < e)
def fUnset (f : Nat → Bool) (a e : Nat) : Nat → Bool := fun i => f i && !(decide (a ≤ i) && decide (i < e))
/-- What lies elsewhere is as it was. -/
def Out (o : Nat) (cs cs' : Array Value) : Prop := cs'.size = cs.size ∧ ∀ j, (j < o ∨ o + 64 ≤ j) → cs'[j]? = cs[j]?
theorem bm_ext {cs : Array Value} {o : Nat} {f h : Nat → Bool} (k : BmIn cs o f) (e : ∀ j, j < 4096 → f j = h j) : BmIn cs o h :=
  ⟨fun q hq => let ⟨n, a, b, c⟩ := k.word q hq; ⟨n, a, b, fun j hj => (c j hj).trans (e _ (by omega))⟩⟩
theorem bm_put {cr : Array Value} {o q m : Nat} {f h : Nat → Bool} (hB : BmIn cr o f) (hq : q < 64) (hm : m < 18446744073709551616) (hbit : ∀ j, j < 64 → m.testBit j = h (64 * q + j)) (hoth : ∀ k j, k < 64 → j < 64 → k ≠ q → f (64 * k + j) = h (64 * k + j)) : BmIn (cr.setIfInBounds (o + q) (.int .u64 m)) o h := by
  refine ⟨fun k hk => ?_⟩
  by_cases e : k = q
  · subst e
    obtain ⟨n, a, b, c⟩ := hB.word k hk
    have hlt := (Array.getElem?_eq_some_iff.1 a).1
    exact ⟨m, by rw [Array.getElem?_setIfInBounds]; simp [hlt], hm, hbit⟩
  · obtain ⟨n, a, b, c⟩ := hB.word k hk
    exact ⟨n, by rw [Array.getElem?_setIfInBounds, if_neg (by omega)]; exact a, b, fun j hj => (c j hj).trans (hoth k j hk hj e)⟩
theorem out_put {cs cr : Array Value} {o q : Nat} {v : Value} (h : Out o cs cr) (hq : q < 64) : Out o cs (cr.setIfInBounds (o + q) v) :=
  ⟨by simp [h.1], fun j hj => by rw [Array.getElem?_setIfInBounds, if_neg (by omega)]; exact h.2 j hj⟩
theorem pow_lt {r : Nat} (h : r < 64) : 2 ^ r < 18446744073709551616 := Nat.pow_lt_pow_right (by decide) h
theorem or_lt {n m : Nat} (hn : n < 18446744073709551616) (hm : m < 18446744073709551616) : n ||| m < 18446744073709551616 := Nat.or_lt_two_pow (n := 64) hn hm
theorem wrap_pow {r : Nat} (h : r < 64) : IntKind.u64.wrap (2 ^ r) = ((2 ^ r : Nat) : Int) := by
  have := pow_lt h
  rw [show ((2 : Int) ^ r) = ((2 ^ r : Nat) : Int) by simp, IntKind.wrap_u64]
  generalize 2 ^ r = x at this
  omega
theorem or_bit {n r j : Nat} : (n ||| 2 ^ r).testBit j = (n.testBit j || decide (r = j)) := by rw [Nat.testBit_or, Nat.testBit_two_pow]
set_option maxHeartbeats 1000000 in
set_option maxRecDepth 100000 in
theorem bm_set (g o : Nat) (t : TypeId) (cs : Array Value) (f : Nat → Bool) (a e : Nat) (w : World) (hb : w.heap[g]? = some (.cells cs t (0, 0))) (hf : BmIn cs o f) (hae : a ≤ e) (he : e ≤ 4096) :
    Calls Tryd.prog 45 #[.pointer (some ⟨g, o, none⟩), .int .i64 a, .int .i64 e] w fun r w' => r = .returned (.tuple #[]) ∧
      Kept (fun b => b = g) w w' ∧ ∃ cs', w'.heap[g]? = some (.cells cs' t (0, 0)) ∧ Out o cs cs' ∧ BmIn cs' o (fSet f a e) := by
  have HB := hidden hb
  clear hb
  go_enter Tryd.func45, Tryd.ntmps45
  go_wp2
  go_loopw [6] (fun x wr => ∃ (i : Nat) (cr : Array Value), a ≤ i ∧ i ≤ e ∧ x = .int .i64 i ∧ wr.heap[g]? = some (.cells cr t (0, 0)) ∧ Out o cs cr ∧ BmIn cr o (fun j => f j || decide (a ≤ j) && decide (j < i)) ∧ Kept (fun b => b = g) w wr) (fun x _ => e - (intOf x).toNat)
  case atStart => exact ⟨a, cs, Nat.le_refl _, hae, rfl, HB.out, ⟨rfl, fun _ _ => rfl⟩, bm_ext hf (fun j _ => by by_cases h1 : a ≤ j <;> by_cases h2 : j < a <;> simp_all <;> omega), Kept.refl _ _⟩
  case round =>
    obtain ⟨i, cr, hi0, hi1, rfl, hr, hO, hB, hK⟩ := hrel
    by_cases hlt : i < e
    · obtain ⟨q, hq⟩ : ∃ q, q = i / 64 := ⟨_, rfl⟩
      obtain ⟨r, hr'⟩ : ∃ r, r = i % 64 := ⟨_, rfl⟩
      have hq4 : q < 64 := by omega
      have hr4 : r < 64 := by omega
      obtain ⟨n, hc, hn, hbit⟩ := hB.word q hq4
      have c1 : wr.cell? ⟨g, o + q, none⟩ = some (.int .u64 n) := (blk_cell hr).trans hc
      have f1 : wr.frozen? ⟨g, o + q, none⟩ = false := blk_free hr
      have HR := hidden hr
      have HO := hidden hO
      have HBm := hidden hB
      have HK := hidden hK
      have HBit := hidden hbit
      have HF := hidden hf
      have Hi := hidden hi0
      have d1 : IntKind.i64.wrap ((i : Int) / 64) = (q : Int) := by rw [IntKind.wrap_i64]; omega
      have d2 : IntKind.i64.wrap ((i : Int) % 64) = (r : Int) := by rw [IntKind.wrap_i64]; omega
      have d2' : (i : Int).tmod 64 = (r : Int) := by rw [Int.tmod_eq_emod_of_nonneg (by omega)]; omega
      obtain ⟨m, hm⟩ : ∃ m, m = n ||| 2 ^ r := ⟨_, rfl⟩
      have d4 : bits .or .u64 (n : Int) (IntKind.u64.wrap (2 ^ r)) = (m : Int) := by rw [wrap_pow hr4, u64_or_nat _ _ hn (pow_lt hr4), hm]
      have hm64 : m < 18446744073709551616 := by rw [hm]; exact or_lt hn (pow_lt hr4)
      have Hm := hidden hm
      clear hm
      have k2 : (i : Int) < (e : Int) := by omega
      have k3 : (0 : Int) ≤ (q : Int) := by omega
      have k4 : (q : Int) < 64 := by omega
      have k5 : (r : Int) ≤ 64 := by omega
      have k6 : (0 : Int) ≤ (r : Int) := by omega
      have hx := hidden (show i = 64 * q + r by omega)
      clear hr hO hB hK hbit hc hf hq hr' hi0
      go_wp2
      refine wp_region_still_tail 12 (by kernel_rfl) (by kernel_rfl) ?_
      change wpStill Tryd.prog _ wr.drew (fun a' => wpList Tryd.prog _ _ _ a' wr.drew) _ _
      simp only [List.take_succ_cons, List.take_zero, List.drop_succ_cons, List.drop_zero]
      repeat still_step
      refine wpStill_nil ?_
      go_wp2
      go_roundw
      case rel =>
        refine ⟨i + 1, cr.setIfInBounds (o + q) (.int .u64 m), by have := Hi.out; omega, by omega, by go_num, blk_set (w := wr.drew) HR.out _, out_put HO.out hq4, bm_put HBm.out hq4 hm64 (fun j hj => ?_) (fun k j hk hj hne => ?_), HK.out.drew.setCell rfl _⟩
        · rw [Hm.out, or_bit, HBit.out j hj, hx.out]
          have := Hi.out
          have := hx.out
          by_cases e1 : r = j
          · subst e1; simp; omega
          · by_cases e2 : a ≤ 64 * q + j <;> by_cases e3 : j < r <;> simp [e1, e2, e3] <;> omega
        · have := hx.out
          by_cases e3 : 64 * k + j < i
          · simp [e3, show 64 * k + j < i + 1 by omega]
          · simp [e3, show ¬ 64 * k + j < i + 1 by omega]
      case measure => simp [intOf]; omega
    · have k2 : ¬ (i : Int) < (e : Int) := by omega
      have : i = e := by omega
      subst this
      clear hlt
      have HR := hidden hr
      have HBm := hidden hB
      clear hr hB
      go_wp2
      go_returns
      exact ⟨rfl, hK, cr, HR.out, hO, HBm.out⟩
theorem off_bit {n r j : Nat} (hr : r < 64) (hj : j < 64) : (n &&& (18446744073709551615 - 2 ^ r)).testBit j = (n.testBit j && !decide (r = j)) := by
  rw [Nat.testBit_and, show 18446744073709551615 - 2 ^ r = 2 ^ 64 - (2 ^ r + 1) by omega, Nat.testBit_two_pow_sub_succ (pow_lt hr), Nat.testBit_two_pow]
  simp [hj]
set_option maxHeartbeats 1000000 in
set_option maxRecDepth 100000 in
theorem bm_unset (g o : Nat) (t : TypeId) (cs : Array Value) (f : Nat → Bool) (a e : Nat) (w : World) (hb : w.heap[g]? = some (.cells cs t (0, 0))) (hf : BmIn cs o f) (hae : a ≤ e) (he : e ≤ 4096) :
    Calls Tryd.prog 57 #[.pointer (some ⟨g, o, none⟩), .int .i64 a, .int .i64 e] w fun r w' => r = .returned (.tuple #[]) ∧
      Kept (fun b => b = g) w w' ∧ ∃ cs', w'.heap[g]? = some (.cells cs' t (0, 0)) ∧ Out o cs cs' ∧ BmIn cs' o (fUnset f a e) := by
  have HB := hidden hb
  clear hb
  go_enter Tryd.func57, Tryd.ntmps57
  go_wp2
  go_loopw [6] (fun x wr => ∃ (i : Nat) (cr : Array Value), a ≤ i ∧ i ≤ e ∧ x = .int .i64 i ∧ wr.heap[g]? = some (.cells cr t (0, 0)) ∧ Out o cs cr ∧ BmIn cr o (fun j => f j && !(decide (a ≤ j) && decide (j < i))) ∧ Kept (fun b => b = g) w wr) (fun x _ => e - (intOf x).toNat)
  case atStart => exact ⟨a, cs, Nat.le_refl _, hae, rfl, HB.out, ⟨rfl, fun _ _ => rfl⟩, bm_ext hf (fun j _ => by by_cases h1 : a ≤ j <;> by_cases h2 : j < a <;> simp_all <;> omega), Kept.refl _ _⟩
  case round =>
    obtain ⟨i, cr, hi0, hi1, rfl, hr, hO, hB, hK⟩ := hrel
    by_cases hlt : i < e
    · obtain ⟨q, hq⟩ : ∃ q, q = i / 64 := ⟨_, rfl⟩
      obtain ⟨r, hr'⟩ : ∃ r, r = i % 64 := ⟨_, rfl⟩
      have hq4 : q < 64 := by omega
      have hr4 : r < 64 := by omega
      obtain ⟨n, hc, hn, hbit⟩ := hB.word q hq4
      have c1 : wr.cell? ⟨g, o + q, none⟩ = some (.int .u64 n) := (blk_cell hr).trans hc
      have f1 : wr.frozen? ⟨g, o + q, none⟩ = false := blk_free hr
      have HR := hidden hr
      have HO := hidden hO
      have HBm := hidden hB
      have HK := hidden hK
      have HBit := hidden hbit
      have HF := hidden hf
      have Hi := hidden hi0
      have d1 : IntKind.i64.wrap ((i : Int) / 64) = (q : Int) := by rw [IntKind.wrap_i64]; omega
      have d2 : IntKind.i64.wrap ((i : Int) % 64) = (r : Int) := by rw [IntKind.wrap_i64]; omega
      have d2' : (i : Int).tmod 64 = (r : Int) := by rw [Int.tmod_eq_emod_of_nonneg (by omega)]; omega
      obtain ⟨m, hm⟩ : ∃ m, m = n &&& (18446744073709551615 - 2 ^ r) := ⟨_, rfl⟩
      have d4 : bits .andNot .u64 (n : Int) (IntKind.u64.wrap (2 ^ r)) = (m : Int) := by rw [wrap_pow hr4, u64_andNot_nat _ _ hn (pow_lt hr4), hm]
      have hm64 : m < 18446744073709551616 := by rw [hm]; exact Nat.lt_of_le_of_lt Nat.and_le_left hn
      have Hm := hidden hm
      clear hm
      have k2 : (i : Int) < (e : Int) := by omega
      have k3 : (0 : Int) ≤ (q : Int) := by omega
      have k4 : (q : Int) < 64 := by omega
      have k5 : (r : Int) ≤ 64 := by omega
      have k6 : (0 : Int) ≤ (r : Int) := by omega
      have hx := hidden (show i = 64 * q + r by omega)
      clear hr hO hB hK hbit hc hf hq hr' hi0
      go_wp2
      refine wp_region_still_tail 12 (by kernel_rfl) (by kernel_rfl) ?_
      change wpStill Tryd.prog _ wr.drew (fun a' => wpList Tryd.prog _ _ _ a' wr.drew) _ _
      simp only [List.take_succ_cons, List.take_zero, List.drop_succ_cons, List.drop_zero]
      repeat still_step
      refine wpStill_nil ?_
      go_wp2
      go_roundw
      case rel =>
        refine ⟨i + 1, cr.setIfInBounds (o + q) (.int .u64 m), by have := Hi.out; omega, by omega, by go_num, blk_set (w := wr.drew) HR.out _, out_put HO.out hq4, bm_put HBm.out hq4 hm64 (fun j hj => ?_) (fun k j hk hj hne => ?_), HK.out.drew.setCell rfl _⟩
        · rw [Hm.out, off_bit hr4 hj, HBit.out j hj, hx.out]
          have := Hi.out
          have := hx.out
          by_cases e1 : r = j
          · subst e1; simp; omega
          · by_cases e2 : a ≤ 64 * q + j <;> by_cases e3 : j < r <;> simp [e1, e2, e3] <;> omega
        · have := hx.out
          by_cases e3 : 64 * k + j < i
          · simp [e3, show 64 * k + j < i + 1 by omega]
          · simp [e3, show ¬ 64 * k + j < i + 1 by omega]
      case measure => simp [intOf]; omega
    · have k2 : ¬ (i : Int) < (e : Int) := by omega
      have : i = e := by omega
      subst this
      clear hlt
      have HR := hidden hr
      have HBm := hidden hB
      clear hr hB
      go_wp2
      go_returns
      exact ⟨rfl, hK, cr, HR.out, hO, HBm.out⟩
end Go.Proofs.YtbmbdidmbdanmaaDoor
