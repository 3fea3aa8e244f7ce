/- The law's sameNumbers: two slices with the same numbers. -/
import Derived.Test.YtneccmjilcjglacDoorSplit
import Derived.BigQuiet
import Derived.Deep.QuietTactic
namespace Go.Proofs.YtneccmjilcjglacDoor
open Go.RowKit
set_option linter.unusedVariables false

/-- A slice, of whoever, whose elements are these numbers. -/
def Cells (w : World) (v : Value) (l : List Nat) : Prop :=
  ∃ a cap, v = .slice a l.length cap ∧ (l ≠ [] → ∃ b off, a = some ⟨b, off, none⟩ ∧ ∀ j, j < l.length → w.cell? ⟨b, off + j, none⟩ = some (W64 (l.getD j 0)))
theorem cell_drewN (w : World) (n : Nat) (a : Addr) : (w.drewN n).cell? a = w.cell? a := by
  unfold World.cell?
  rw [heap_drewN]
theorem Nums.cells {B : Nat} {v : Value} {l : List Nat} {w : World} (h : Nums B v l w) : Cells w v l := by
  rcases h.2 with ⟨h1, h2⟩ | ⟨g, cap, cur, h1, _⟩
  · exact ⟨none, 0, by rw [h1, h2], fun hn => absurd (List.eq_nil_of_length_eq_zero h2) hn⟩
  · refine ⟨some ⟨g, 0, none⟩, cap, h1, fun _ => ⟨g, 0, rfl, fun j hj => ?_⟩⟩
    have hc := World.ownsRow.cells h (g := g) (by rw [h1]; rfl) j (W64 (l.getD j 0)) (by simp [hj])
    have hadd : (⟨g, 0, none⟩ : Addr).add j = ⟨g, 0 + j, none⟩ := by unfold Addr.add; split <;> simp_all
    rw [hadd] at hc
    exact hc
theorem Cells.same {w w' : World} {v : Value} {l : List Nat} (h : Cells w v l) (hk : Same w w') : Cells w' v l := by
  obtain ⟨a, cap, h1, h2⟩ := h
  refine ⟨a, cap, h1, fun hn => ?_⟩
  obtain ⟨b, off, h3, h4⟩ := h2 hn
  exact ⟨b, off, h3, fun j hj => hk.cell (fun h => h) (h4 j hj)⟩
set_option maxHeartbeats 1000000 in
theorem same_any (v1 v2 : Value) (l : List Nat) (w : World) (h1 : Cells w v1 l) (h2 : Cells w v2 l) (hl : l.length ≤ 140737488355328) :
    Calls Tryd.prog 12 #[v1, v2] w fun e w' => e = .returned (.bool true) ∧ ∃ nq, w' = w.drewN nq := by
  obtain ⟨a1, c1, rfl, h1⟩ := h1
  obtain ⟨a2, c2, rfl, h2⟩ := h2
  have H1 := hidden h1
  have H2 := hidden h2
  clear h1 h2
  go_enter Tryd.func12, Tryd.ntmps12
  go_wp2
  go_loopw [13] (fun i wr => ∃ k nq : Nat, k ≤ l.length ∧ i = .int .i64 k ∧ wr = w.drewN nq) (fun i _ => l.length - (intOf i).toNat)
  case atStart => exact ⟨0, 0, Nat.zero_le _, rfl, rfl⟩
  case round =>
    obtain ⟨k, nq, hk, rfl, rfl⟩ := hrel
    by_cases hlt : k < l.length
    · have hne : l ≠ [] := by rintro rfl; simp at hlt
      obtain ⟨b1, o1, rfl, q1⟩ := H1.out hne
      obtain ⟨b2, o2, rfl, q2⟩ := H2.out hne
      have r1 : w.cell? ⟨b1, o1 + k, none⟩ = some (.int .u64 ((l.getD k 0 : Nat) : Int)) := q1 k hlt
      have r2 : w.cell? ⟨b2, o2 + k, none⟩ = some (.int .u64 ((l.getD k 0 : Nat) : Int)) := q2 k hlt
      generalize l.getD k 0 = x at r1 r2
      clear q1 q2 H1 H2 hne
      have k1 : (0 : Int) ≤ (k : Int) := by omega
      have k2 : (k : Int) < (l.length : Int) := by omega
      go_wp2
      go_quiet (fail)
      go_wp2
      go_roundw
      case rel => exact ⟨k + 1, _, by omega, by go_num, by first | rfl | exact (World.drewN_drewN w _ _)⟩
      case measure => simp [intOf]; omega
    · go_wp2
      go_returns
      exact ⟨rfl, _, rfl⟩
end Go.Proofs.YtneccmjilcjglacDoor
