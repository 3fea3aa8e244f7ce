/- dir: what may be; keys and texts. -/
import Derived.Test.YtmlibjohhgpniaaGreatDoorScL
import Derived.Test.YtmlibjohhgpniaaGreatDoorIn6
namespace Go.Proofs.YtmlibjohhgpniaaGreatDoor
open Go.RowKit
set_option linter.unusedVariables false
set_option linter.unusedSimpArgs false
set_option maxHeartbeats 400000 in
theorem dmayNumber_yes (z : Int) (h0 : 1 ≤ z) (h1 : z ≤ 2147483647) (w : World) : Calls Tryz.prog 99 #[.int .i64 z] w fun e w' => e = .returned (.bool true) ∧ w = w' := by
  go_enter Tryz.func99, Tryz.ntmps99
  go_wp2
  go_returns
  exact ⟨by simp [h0, h1], rfl⟩
set_option maxHeartbeats 1000000 in
set_option maxRecDepth 100000 in
theorem dmayName_b (w : World) : Calls Tryz.prog 150 #[.string ⟨#[98]⟩] w fun e w' => e = .returned (.bool true) ∧ w = w' := by
  have i0 : ((⟨#[98]⟩ : ByteArray)[0]'(by decide)).toNat = 98 := rfl
  have j0 : ((((⟨#[98]⟩ : ByteArray)[0]'(by decide)).toNat : Int) == 47) = false := rfl
  have l0 : ((((⟨#[98]⟩ : ByteArray)[0]'(by decide)).toNat : Int) == 0) = false := rfl
  go_enter Tryz.func150, Tryz.ntmps150
  go_wp2
  go_step3
  go_wp2
  go_step3
  go_wp2
  go_loopw [22, 3] (fun i m wr => ∃ t : Nat, i = .int .i64 t ∧ t ≤ 1 ∧ m = .bool true ∧ wr = w) (fun i _ _ => 1 - (intOf i).toNat)
  case atStart => exact ⟨0, rfl, by omega, rfl, rfl⟩
  case round =>
    obtain ⟨t, rfl, ht, rfl, rfl⟩ := hrel
    have hd : t = 0 ∨ t = 1 := by omega
    rcases hd with h0 | h1
    · obtain rfl : t = 0 := by omega
      go_wp2
      go_roundw
      case rel => exact ⟨1, by simp⟩
      case measure => simp [intOf]
    · obtain rfl : t = 1 := by omega
      go_wp2
      try rw [Exit.noGoto_ret]
      go_returns
      exact ⟨rfl, rfl⟩
set_option maxHeartbeats 1000000 in
set_option maxRecDepth 100000 in
theorem dmayName_dd (w : World) : Calls Tryz.prog 150 #[.string ⟨#[46, 46]⟩] w fun e w' => e = .returned (.bool false) ∧ w = w' := by
  have i0 : ((⟨#[46, 46]⟩ : ByteArray)[0]'(by decide)).toNat = 46 := rfl
  have j0 : ((((⟨#[46, 46]⟩ : ByteArray)[0]'(by decide)).toNat : Int) == 47) = false := rfl
  have l0 : ((((⟨#[46, 46]⟩ : ByteArray)[0]'(by decide)).toNat : Int) == 0) = false := rfl
  have i1 : ((⟨#[46, 46]⟩ : ByteArray)[1]'(by decide)).toNat = 46 := rfl
  have j1 : ((((⟨#[46, 46]⟩ : ByteArray)[1]'(by decide)).toNat : Int) == 47) = false := rfl
  have l1 : ((((⟨#[46, 46]⟩ : ByteArray)[1]'(by decide)).toNat : Int) == 0) = false := rfl
  go_enter Tryz.func150, Tryz.ntmps150
  go_wp2
  go_step3
  go_wp2
  go_step3
  go_wp2
  go_loopw [22, 3] (fun i m wr => ∃ t : Nat, i = .int .i64 t ∧ t ≤ 2 ∧ m = .bool false ∧ wr = w) (fun i _ _ => 2 - (intOf i).toNat)
  case atStart => exact ⟨0, rfl, by omega, rfl, rfl⟩
  case round =>
    obtain ⟨t, rfl, ht, rfl, rfl⟩ := hrel
    have hd : t = 0 ∨ t = 1 ∨ t = 2 := by omega
    rcases hd with h0 | h1 | h2
    · obtain rfl : t = 0 := by omega
      go_wp2
      go_roundw
      case rel => exact ⟨1, by simp⟩
      case measure => simp [intOf]
    · obtain rfl : t = 1 := by omega
      go_wp2
      go_roundw
      case rel => exact ⟨2, by simp⟩
      case measure => simp [intOf]
    · obtain rfl : t = 2 := by omega
      go_wp2
      try rw [Exit.noGoto_ret]
      go_returns
      exact ⟨rfl, rfl⟩
end Go.Proofs.YtmlibjohhgpniaaGreatDoor
