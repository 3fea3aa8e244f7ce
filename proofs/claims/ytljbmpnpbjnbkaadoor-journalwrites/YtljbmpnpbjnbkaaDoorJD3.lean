/- journal: the document's New. -/
import Derived.Test.YtljbmpnpbjnbkaaDoorJD2
namespace Go.Proofs.YtljbmpnpbjnbkaaDoor
open Go.RowKit
set_option linter.unusedVariables false
set_option linter.unusedSimpArgs false
set_option maxHeartbeats 1000000 in
set_option maxRecDepth 100000 in
theorem newD_any (size sectors gen : Nat) (w : World) (h : JMay size sectors) : Calls Tryd.prog 10 #[.int .i64 size, .int .i64 sectors, .int .u64 gen] w fun e w' => ∃ g, e = .returned (.tuple #[.pointer (some ⟨g, 0, none⟩), .int .i64 0]) ∧ DW g ⟨size, sectors, gen, [], 0, 0⟩ w' ∧ Same w w' ∧ w.heap.size ≤ g := by
  have HP := hidden (fun W => refPower size 512 4096 W (by unfold Pow; omega) (by unfold Pow; omega))
  rw [show decide ((512 : Int) ≤ size ∧ (size : Int) ≤ 4096 ∧ Pow size) = true from decide_eq_true h.1] at HP
  have q1 : ¬ (sectors : Int) < 1 := by have := h.2.1; omega
  have q2 : ¬ (4096 : Int) < (sectors : Int) := by have := h.2.2; omega
  clear h
  go_enter Tryd.func10, Tryd.ntmps10
  go_wp2_with (go_at_call 30; refine (HP.out _).mono ?_; rintro e w1 ⟨rfl, rfl⟩)
  go_returns
  exact ⟨w.heap.size, rfl, ⟨_, [], blk_new _ _, rfl, World.ownsRow_nil _ _ _ _, fun i x u hx _ => by simp at hx, fun i j u u' k hu => by simp at hu⟩, same_alloc _ _, Nat.le_refl _⟩
set_option maxHeartbeats 1000000 in
set_option maxRecDepth 100000 in
theorem newD_no (size sectors : Int) (gen : Nat) (w : World) (h : ¬ JMay size sectors) : Calls Tryd.prog 10 #[.int .i64 size, .int .i64 sectors, .int .u64 gen] w fun e w' => e = .returned (.tuple #[.pointer none, .int .i64 1]) ∧ Same w w' := by
  have HP := hidden (fun W => refPower size 512 4096 W (by unfold Pow; omega) (by unfold Pow; omega))
  by_cases h1 : 512 ≤ size ∧ size ≤ 4096 ∧ Pow size
  · rw [decide_eq_true h1] at HP
    by_cases h2 : sectors < 1
    · clear h h1
      go_enter Tryd.func10, Tryd.ntmps10
      go_wp2_with (go_at_call 30; refine (HP.out _).mono ?_; rintro e w1 ⟨rfl, rfl⟩)
      go_returns
      exact ⟨rfl, Kept.refl _ _⟩
    · have q1 : (4096 : Int) < sectors := Int.not_le.1 (fun h3 => h ⟨h1, by omega, h3⟩)
      clear h h1
      go_enter Tryd.func10, Tryd.ntmps10
      go_wp2_with (go_at_call 30; refine (HP.out _).mono ?_; rintro e w1 ⟨rfl, rfl⟩)
      go_returns
      exact ⟨rfl, Kept.refl _ _⟩
  · rw [decide_eq_false h1] at HP
    clear h h1
    go_enter Tryd.func10, Tryd.ntmps10
    go_wp2_with (go_at_call 30; refine (HP.out _).mono ?_; rintro e w1 ⟨rfl, rfl⟩)
    go_returns
    exact ⟨rfl, Kept.refl _ _⟩
end Go.Proofs.YtljbmpnpbjnbkaaDoor
