/- The law's own 'same' and 'lives', and cut's Cuts of a shape that may not be, walked. -/
import Derived.Test.YtdmekpokgnieeaaDoorCut6
import Derived.Test.YtdmekpokgnieeaaDoorCut8
import Derived.Laws.MakeOwn
namespace Go.Proofs.YtdmekpokgnieeaaDoor
open Go.RowKit Go.Shelf
set_option linter.unusedVariables false
attribute [local go_sem ↓] Go.wp_at_zero Go.wp_at_succ

/-- A slice, of whoever, whose elements are these numbers. -/
def Cells (w : World) (v : Value) (l : List Nat) : Prop :=
  ∃ a cap, v = .slice a l.length cap ∧ (l ≠ [] → ∃ b off, a = some ⟨b, off, none⟩ ∧ ∀ j, j < l.length → w.cell? ⟨b, off + j, none⟩ = some (.int .i64 (l.getD j 0 : Nat)))
theorem Ints.cells {B : Nat} {v : Value} {l : List Nat} {w : World} (h : Ints B w v l) : Cells w v l := by
  rcases h.2 with ⟨h1, h2⟩ | ⟨g, cap, cur, h1, _⟩
  · exact ⟨none, 0, by rw [h1, h2], fun hn => absurd (List.eq_nil_of_length_eq_zero h2) hn⟩
  · refine ⟨some ⟨g, 0, none⟩, cap, h1, fun _ => ⟨g, 0, rfl, fun j hj => ?_⟩⟩
    have hc := World.ownsRow.cells h (g := g) (by rw [h1]; rfl) j (.int .i64 (l.getD j 0 : Nat)) (by simp [hj])
    have hadd : (⟨g, 0, none⟩ : Addr).add j = ⟨g, 0 + j, none⟩ := by unfold Addr.add; split <;> simp_all
    rw [hadd] at hc
    exact hc
theorem Cells.same {w w' : World} {v : Value} {l : List Nat} (h : Cells w v l) (hk : Same w w') : Cells w' v l := by
  obtain ⟨a, cap, h1, h2⟩ := h
  refine ⟨a, cap, h1, fun hn => ?_⟩
  obtain ⟨b, off, h3, h4⟩ := h2 hn
  exact ⟨b, off, h3, fun j hj => hk.cell (fun h => h) (h4 j hj)⟩
set_option maxHeartbeats 1000000 in
theorem sameInts_any (v1 v2 : Value) (l : List Nat) (w : World) (h1 : Cells w v1 l) (h2 : Cells w v2 l) (hl : l.length ≤ 140737488355328) :
    Calls Tryd.prog 9 #[v1, v2] w fun e w' => e = .returned (.bool true) ∧ Same w w' := by
  obtain ⟨a1, c1, rfl, h1⟩ := h1
  obtain ⟨a2, c2, rfl, h2⟩ := h2
  have H1 := hidden h1
  have H2 := hidden h2
  clear h1 h2
  go_enter Tryd.func9, Tryd.ntmps9
  go_wp2
  go_loopw [5] (fun i wr => ∃ k : Nat, k ≤ l.length ∧ i = .int .i64 k ∧ Same w wr) (fun i _ => l.length - (intOf i).toNat)
  case atStart => exact ⟨0, Nat.zero_le _, rfl, Kept.refl _ _⟩
  case round =>
    obtain ⟨k, hk, rfl, hS⟩ := hrel
    have HS := hidden hS
    by_cases hlt : k < l.length
    · have hne : l ≠ [] := by rintro rfl; simp at hlt
      obtain ⟨b1, o1, rfl, q1⟩ := H1.out hne
      obtain ⟨b2, o2, rfl, q2⟩ := H2.out hne
      have r1 : wr.cell? ⟨b1, o1 + k, none⟩ = some (.int .i64 ((l.getD k 0 : Nat) : Int)) := hS.cell (p := ⟨b1, o1 + k, none⟩) (fun h => h) (q1 k hlt)
      have r2 : wr.cell? ⟨b2, o2 + k, none⟩ = some (.int .i64 ((l.getD k 0 : Nat) : Int)) := hS.cell (p := ⟨b2, o2 + k, none⟩) (fun h => h) (q2 k hlt)
      generalize l.getD k 0 = x at r1 r2
      clear q1 q2 H1 H2 hne hS
      have k1 : (0 : Int) ≤ (k : Int) := by omega
      have k2 : (k : Int) < (l.length : Int) := by omega
      go_wp2
      go_quiet (fail)
      go_wp2
      go_roundw
      case rel => exact ⟨k + 1, by omega, by go_num, HS.out.drewN _⟩
      case measure => simp [intOf]; omega
    · clear hS
      go_wp2
      go_returns
      exact ⟨rfl, HS.out⟩
set_option maxHeartbeats 1000000 in
set_option maxRecDepth 100000 in
theorem cuts_no {mn no mx : Int} (hn : ¬ CutOk mn no mx) (seed : Nat) (v : Value) (w : World) :
    Calls Tryd.prog 10 #[.agg #[.int .i64 mn, .int .i64 no, .int .i64 mx, .int .u64 seed], v] w fun e w' => e = .returned (.func (.func 23) #[] #[]) ∧ Same w w' := by
  have HK := hidden (fun w => check_no hn seed w)
  clear hn
  go_enter Tryd.func10, Tryd.ntmps10
  go_wp2_with (go_at_call 20; refine (HK.out _).mono ?_; rintro e w1 ⟨rfl, k1⟩)
  go_returns
  exact ⟨rfl, Kept.trans (same_alloc _ _) k1⟩
theorem not_zero : ¬ CutOk 0 0 0 := by decide
def shpA : Shp := ⟨4, 16, 16, 0, 4⟩
def shpB : Shp := ⟨16, 16, 16, 0, 4⟩
theorem shpA_ok : shpA.Ok := ⟨by decide, by decide, by decide, by decide, by decide, by decide, by decide, by decide⟩
theorem shpB_ok : shpB.Ok := ⟨by decide, by decide, by decide, by decide, by decide, by decide, by decide, by decide⟩
theorem infoByte : (Tryd.prog.info? 5).map (fun i => (i.zero, i.size, i.bytes)) = some (some (.int .u8 0), 1, 1) := by kernel_rfl
theorem cutA : shpA.cut [97, 98, 99] = 3 := by decide +kernel
theorem lensB : shpB.lens (List.replicate 40 0) = [16, 16, 8] := by decide +kernel
end Go.Proofs.YtdmekpokgnieeaaDoor
