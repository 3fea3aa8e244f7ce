/- Two slices of items that are the same: same. -/
import Derived.Test.YtelngbkbdihdnaaItm
namespace Go.Proofs.Ytelngbkbdihdnaa
open Go.RowKit
set_option linter.unusedVariables false
set_option maxHeartbeats 2000000 in
set_option maxRecDepth 100000 in
theorem same_any {l : List Kv} {u v : Value} {w : World} (hu : Its w u l) (hv : Its w v l) (hl : l.length ≤ 562949953421312) :
    Calls Try.prog 35 #[u, v] w fun e w' => e = .returned (.bool true) ∧ Same w w' := by
  have HU : Hid (∀ W, Same w W → Its W u l) := fun W kk => hu.same kk
  have HV : Hid (∀ W, Same w W → Its W v l) := fun W kk => hv.same kk
  obtain ⟨a0, c0, rfl, _⟩ := hu
  obtain ⟨a1, c1, rfl, _⟩ := hv
  obtain ⟨n, hn⟩ : ∃ n, l.length = n := ⟨_, rfl⟩
  have HN := hidden hn
  rw [hn] at hl ⊢
  clear hn
  go_enter Try.func35, Try.ntmps35
  go_wp2
  go_loopw [13] (fun iv wr => ∃ i : Nat, iv = .int .i64 i ∧ i ≤ n ∧ Same w wr) (fun iv wr => n - (intOf iv).toNat)
  case atStart => exact ⟨0, rfl, Nat.zero_le _, Kept.refl _ _⟩
  case round =>
    obtain ⟨i, rfl, hi, hk⟩ := hrel
    have HK := hidden hk
    clear hk
    by_cases h1 : i < n
    · have hil : i < l.length := by rw [HN.out]; exact h1
      obtain ⟨a2, c2, e2, hc2⟩ := HU.out wr HK.out
      obtain ⟨a3, c3, e3, hc3⟩ := HV.out wr HK.out
      obtain ⟨b2, o2, rfl, f2⟩ := hc2 (by omega)
      obtain ⟨b3, o3, rfl, f3⟩ := hc3 (by omega)
      obtain ⟨y0, y1⟩ := f2 i hil
      obtain ⟨z0, z1⟩ := f3 i hil
      rw [HN.out] at e2 e3
      simp only [Value.slice.injEq] at e2 e3
      obtain ⟨rfl, -⟩ := e2
      obtain ⟨rfl, -⟩ := e3
      obtain ⟨⟨a, y⟩, hay⟩ : ∃ e, l[i] = e := ⟨_, rfl⟩
      rw [hay] at y0 y1 z0 z1
      have q1 : (i : Int) < (n : Int) := by omega
      have q0 : (0 : Int) ≤ (i : Int) := Int.natCast_nonneg _
      have t1 : (a.toList == a.toList) = true := by simp
      clear f2 f3 hc2 hc3 hay
      go_wp2
      go_quiet (fail)
      go_wp2
      go_roundw
      case rel => exact ⟨i + 1, by go_num, by omega, HK.out.trans ((Kept.refl _ _).drewN _)⟩
      case measure => simp [intOf]; omega
    · obtain rfl : i = n := by omega
      have q1 : ¬ (i : Int) < (i : Int) := by omega
      go_wp2
      go_returns
      exact ⟨rfl, HK.out⟩
end Go.Proofs.Ytelngbkbdihdnaa
