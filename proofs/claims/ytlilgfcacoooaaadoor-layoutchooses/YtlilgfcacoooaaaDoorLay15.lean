/- layout's Next and the document's, walked. -/
import Derived.Test.YtlilgfcacoooaaaDoorLay12
import Derived.Deep.QuietTactic
import Derived.BigQuiet
namespace Go.Proofs.YtlilgfcacoooaaaDoor
open Go.RowKit
set_option linter.unusedVariables false
attribute [local go_sem ↓] Go.wp_at_zero Go.wp_at_succ

theorem next_full (gen : Nat) (root : Int) (sector sectors journal pack cmin cnorm cmax : Int) (seed : Nat) (nbits : Int) (dd : Bool) (w : World) (h : gen = 18446744073709551615) :
    Calls Tryd.prog 32 #[.agg #[.int .u64 gen, .int .i64 root, .int .i64 sector, .int .i64 sectors, .int .i64 journal, .int .i64 pack, .int .i64 cmin, .int .i64 cnorm, .int .i64 cmax, .int .u64 seed, .int .i64 nbits, .bool dd]] w fun e w' => e = .returned (.tuple #[.int .u64 0, .int .i64 0, .int .i64 2]) ∧ Same w w' := by
  subst h
  go_enter Tryd.func32, Tryd.ntmps32
  go_wp2
  go_returns
  exact ⟨rfl, same_alloc _ _⟩
theorem next_more (gen : Nat) (root : Int) (sector sectors journal pack cmin cnorm cmax : Int) (seed : Nat) (nbits : Int) (dd : Bool) (w : World) (h : gen < 18446744073709551615) :
    Calls Tryd.prog 32 #[.agg #[.int .u64 gen, .int .i64 root, .int .i64 sector, .int .i64 sectors, .int .i64 journal, .int .i64 pack, .int .i64 cmin, .int .i64 cnorm, .int .i64 cmax, .int .u64 seed, .int .i64 nbits, .bool dd]] w fun e w' => e = .returned (.tuple #[.int .u64 ((gen + 1 : Nat) : Int), .int .i64 (((gen + 1) % 2 : Nat) : Int), .int .i64 0]) ∧ Same w w' := by
  have hs := fun w => slot_any (gen + 1) w (by omega)
  have hb : ((gen : Int) == 18446744073709551615) = false := by simp; omega
  have hw : IntKind.u64.wrap ((gen : Int) + 1) = ((gen + 1 : Nat) : Int) := by rw [IntKind.wrap_u64]; omega
  generalize ((gen + 1 : Nat) : Int) = N at *
  generalize (((gen + 1) % 2 : Nat) : Int) = S at *
  have HS := hidden hs
  clear hs h
  go_enter Tryd.func32, Tryd.ntmps32
  go_wp2_with (go_at_call 34; refine (HS.out _).mono ?_; rintro e w1 ⟨rfl, rfl⟩)
  go_returns
  exact ⟨rfl, same_alloc _ _⟩
theorem refNext_full (gen : Nat) (root : Int) (sector sectors journal pack cmin cnorm cmax : Int) (seed : Nat) (nbits : Int) (dd : Bool) (w : World) (h : gen = 18446744073709551615) :
    Calls Tryd.prog 33 #[.agg #[.int .u64 gen, .int .i64 root, .int .i64 sector, .int .i64 sectors, .int .i64 journal, .int .i64 pack, .int .i64 cmin, .int .i64 cnorm, .int .i64 cmax, .int .u64 seed, .int .i64 nbits, .bool dd]] w fun e w' => e = .returned (.tuple #[.int .u64 0, .int .i64 0, .int .i64 2]) ∧ Same w w' := by
  subst h
  go_enter Tryd.func33, Tryd.ntmps33
  go_wp2
  go_returns
  exact ⟨rfl, same_alloc _ _⟩
theorem refNext_more (gen : Nat) (root : Int) (sector sectors journal pack cmin cnorm cmax : Int) (seed : Nat) (nbits : Int) (dd : Bool) (w : World) (h : gen < 18446744073709551615) :
    Calls Tryd.prog 33 #[.agg #[.int .u64 gen, .int .i64 root, .int .i64 sector, .int .i64 sectors, .int .i64 journal, .int .i64 pack, .int .i64 cmin, .int .i64 cnorm, .int .i64 cmax, .int .u64 seed, .int .i64 nbits, .bool dd]] w fun e w' => e = .returned (.tuple #[.int .u64 ((gen + 1 : Nat) : Int), .int .i64 (((gen + 1) % 2 : Nat) : Int), .int .i64 0]) ∧ Same w w' := by
  have hs := fun w => refSlot_any (gen + 1) w (by omega)
  have hb : ((gen : Int) == 18446744073709551615) = false := by simp; omega
  have hw : IntKind.u64.wrap ((gen : Int) + 1) = ((gen + 1 : Nat) : Int) := by rw [IntKind.wrap_u64]; omega
  generalize ((gen + 1 : Nat) : Int) = N at *
  generalize (((gen + 1) % 2 : Nat) : Int) = S at *
  have HS := hidden hs
  clear hs h
  go_enter Tryd.func33, Tryd.ntmps33
  go_wp2
  go_quiet ((go_at_call 35; exact Calls.quiet_of_same ((HS.out _).mono fun _ _ ⟨a, b⟩ => ⟨a, b.symm⟩)))
  go_wp2
  go_returns
  exact ⟨rfl, (same_alloc _ _).drewN _⟩
end Go.Proofs.YtlilgfcacoooaaaDoor
