/- pack: the law's sameSlots. -/
import Derived.Test.YtafdkfieajdeiaaDoorPS5
namespace Go.Proofs.YtafdkfieajdeiaaDoor
open Go.RowKit
set_option linter.unusedVariables false
set_option linter.unusedSimpArgs false
theorem slotI_eq (W : World) (a b c d : Int) :
    (Op.equalIn 10000 34 (.agg #[.int .i64 a, .int .i64 b]) (.agg #[.int .i64 c, .int .i64 d])).run Tryd.prog W = .ok (decide (a = c ∧ b = d)) W := by
  rw [run_equalIn_struct W 9999 34 _ _ (by kernel_rfl) (by kernel_rfl)]
  simp [Program.fieldsOf, Tryd.underlying34, Op.eqFields, go_sem]
  by_cases h1 : a = c <;> by_cases h2 : b = d <;> simp [h1, h2]
set_option maxHeartbeats 2000000 in
set_option maxRecDepth 100000 in
theorem sameSlots_any (x y : Value) (l : List (Nat × Nat)) (w : World) (hx : SlM w x l) (hy : SlM w y l) (hn : l.length ≤ 262144) : Calls Tryd.prog 20 #[x, y] w fun e w' => e = .returned (.bool true) ∧ Same w w' := by
  obtain ⟨a1, c1, rfl, _⟩ := hx.form
  obtain ⟨a2, c2, rfl, _⟩ := hy.form
  have HX := hidden hx
  have HY := hidden hy
  clear hx hy
  go_enter Tryd.func20, Tryd.ntmps20
  go_wp2
  go_loopw [5] (fun i wr => ∃ k : Nat, k ≤ l.length ∧ i = .int .i64 k ∧ Same w wr) (fun i wr => l.length - (intOf i).toNat)
  case atStart => exact ⟨0, Nat.zero_le _, rfl, Kept.refl _ _⟩
  case round =>
    obtain ⟨k, hk, rfl, hK⟩ := hrel
    by_cases h1 : k < l.length
    · obtain ⟨g1, rfl, hc1⟩ := HX.out.at (by omega)
      obtain ⟨g2, rfl, hc2⟩ := HY.out.at (by omega)
      have q0 : (0 : Int) ≤ (k : Int) := Int.natCast_nonneg _
      have q1 : (k : Int) < (l.length : Int) := by omega
      obtain ⟨x1, x2⟩ := hc1 k h1
      obtain ⟨y1, y2⟩ := hc2 k h1
      have X1 := Kept.cell hK (fun h => h) x1
      have X2 := Kept.cell hK (fun h => h) x2
      have Y1 := Kept.cell hK (fun h => h) y1
      have Y2 := Kept.cell hK (fun h => h) y2
      have HK := hidden hK
      obtain ⟨A, hA⟩ : ∃ A, ((l[k].1 : Nat) : Int) = A := ⟨_, rfl⟩
      obtain ⟨B, hB⟩ : ∃ B, ((l[k].2 : Nat) : Int) = B := ⟨_, rfl⟩
      rw [hA] at X1 Y1
      rw [hB] at X2 Y2
      have HEq := fun W => slotI_eq W A B A B
      have hd : decide (A = A ∧ B = B) = true := by simp
      rw [hd] at HEq
      clear hK hc1 hc2 hA hB x1 x2 y1 y2 hd
      go_wp2
      go_quiet (fail)
      go_wp2
      go_roundw
      case rel => exact ⟨k + 1, by omega, by go_num, HK.out.drewN _⟩
      case measure => simp [intOf]; omega
    · have q1 : ¬ (k : Int) < (l.length : Int) := by omega
      go_wp2
      go_returns
      exact ⟨rfl, hK⟩
end Go.Proofs.YtafdkfieajdeiaaDoor
