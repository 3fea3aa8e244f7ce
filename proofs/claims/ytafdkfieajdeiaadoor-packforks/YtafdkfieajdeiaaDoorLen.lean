/- math/bits.Len64, walked; the widths of numbers; how many bytes a varint has. -/
import Derived.Test.YtafdkfieajdeiaaDoorRoom
import Derived.Lib.Strings
import Derived.Lib.Slices
import Derived.Lib.Small
import Derived.Lib.Walk
import Derived.Lib.BitFns
import Derived.Laws.BitsAllLaws
namespace Go.Proofs.YtafdkfieajdeiaaDoor
open Go.RowKit

theorem bitLen_log2 : ∀ (f x : Nat), x < 2 ^ f → f ≤ 64 → x ≠ 0 → Lib.bitLen x = Nat.log2 x + 1 := by
  intro f
  induction f with
  | zero => intro x h _ h0; simp at h; omega
  | succ f ih =>
    intro x h hf h0
    have h64 : x < 2 ^ 64 := Nat.lt_of_lt_of_le h (Nat.pow_le_pow_right (by decide) hf)
    rw [Lib.bitLen_half x h0 h64]
    by_cases h2 : 2 ≤ x
    · rw [Nat.log2_def, if_pos h2, ih (x / 2) (by rw [Nat.pow_succ] at h; omega) (by omega) (by omega)]
      omega
    · obtain rfl : x = 1 := by omega
      decide
/-- One way through Len64: the byte that is looked up stands k bits up. -/
theorem len_at (k : Nat) (x y : Int) (h : y.toNat = x.toNat / 2 ^ k) (hy0 : 0 ≤ y) (hy : y ≤ 255) (s : 2 ^ k ≤ x.toNat ∨ k = 0) (hx : x.toNat < 2 ^ 64) : (k : Int) + Lib.len8 y = (Lib.bitLen x.toNat : Int) := by
  rw [Lib.len8_of y hy0 (by omega), h]
  rcases s with s | rfl
  · rw [Lib.bitLen_shift k x.toNat s hx]; omega
  · simp

theorem wrap_add (k a : Nat) (hk : k ≤ 56) (ha : a ≤ 8) : wrap64 ((k : Int) + wrap64 (a : Int)) = (k : Int) + a := by
  unfold wrap64
  omega
theorem len_get (k : Nat) (x y : Int) (hy : y.toNat < Lib.len8tab.size) (h : y.toNat = x.toNat / 2 ^ k) (hy0 : 0 ≤ y) (hy1 : y ≤ 255) (s : 2 ^ k ≤ x.toNat ∨ k = 0) (hx : x.toNat < 2 ^ 64) (hk : k ≤ 56) :
    wrap64 ((k : Int) + wrap64 ((Lib.len8tab[y.toNat]'hy).toNat : Int)) = (Lib.bitLen x.toNat : Int) := by
  have e : ((Lib.len8tab[y.toNat]'hy).toNat : Int) = Lib.len8 y := by
    unfold Lib.len8
    rw [getElem?_pos Lib.len8tab y.toNat hy]
    rfl
  rw [e, Lib.len8_of y hy0 hy1, wrap_add k _ hk (Lib.bitLen_le8' y hy0 hy1), ← Lib.len8_of y hy0 hy1]
  exact len_at k x y h hy0 hy1 s hx
theorem wrap_wrap (a : Int) : wrap64 (wrap64 a) = wrap64 (((0 : Nat) : Int) + wrap64 a) := by simp
set_option maxHeartbeats 4000000 in
set_option maxRecDepth 100000 in
theorem len64 (x : Int) (w : World) (h0 : 0 ≤ x) (h1 : x ≤ 18446744073709551615) :
    Calls Tryd.prog 83 #[.int .u64 x] w fun e w' => e = .returned (.int .i64 (Lib.bitLen x.toNat)) ∧ w = w' := by
  have hts : Lib.len8tab.size = 256 := by decide +kernel
  go_enter Tryd.func83, Tryd.ntmps83
  go_wp2
  all_goals (go_ret; refine ⟨congrArg Ending.returned (congrArg (Value.int IntKind.i64) ?_), rfl⟩)
  all_goals first
    | (refine len_get 56 x (x / 4294967296 / 65536 / 256) _ ?_ ?_ ?_ ?_ ?_ ?_ <;> omega)
    | (refine len_get 48 x (x / 4294967296 / 65536) _ ?_ ?_ ?_ ?_ ?_ ?_ <;> omega)
    | (refine len_get 40 x (x / 4294967296 / 256) _ ?_ ?_ ?_ ?_ ?_ ?_ <;> omega)
    | (refine len_get 32 x (x / 4294967296) _ ?_ ?_ ?_ ?_ ?_ ?_ <;> omega)
    | (refine len_get 24 x (x / 65536 / 256) _ ?_ ?_ ?_ ?_ ?_ ?_ <;> omega)
    | (refine len_get 16 x (x / 65536) _ ?_ ?_ ?_ ?_ ?_ ?_ <;> omega)
    | (refine len_get 8 x (x / 256) _ ?_ ?_ ?_ ?_ ?_ ?_ <;> omega)
    | (rw [wrap_wrap]; refine len_get 0 x x _ ?_ ?_ ?_ ?_ ?_ ?_ <;> omega)
end Go.Proofs.YtafdkfieajdeiaaDoor
