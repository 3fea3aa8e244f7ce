/-
  LayoutChecks (P4.1): for every shape Check, Journal and Data tell what the document tells: the law's call returns true and leaves its argument as it was.
  Condition: the table crcSteps holds what the program's text lays (the card ties it).
-/
import Derived.Test.YtlilgfcacoooaaaDoorLayK
import Derived.Deep.RegionWith
import Derived.Deep.RegionLaw
namespace Go.Proofs.YtlilgfcacoooaaaDoor
open Go.RowKit
set_option linter.unusedVariables false
attribute [local go_sem ↓] Go.wp_at_zero Go.wp_at_succ

set_option maxHeartbeats 8000000 in
set_option maxRecDepth 100000 in
theorem checks_walk (sector sectors journal pack cmin cnorm cmax : Int) (seed : Nat) (nbits : Int) (dd : Bool) (w : World) (hseed : seed < 18446744073709551616) (hT : Tab w) : Calls Tryd.prog 3 #[.agg #[.int .i64 sector, .int .i64 sectors, .int .i64 journal, .int .i64 pack, .int .i64 cmin, .int .i64 cnorm, .int .i64 cmax, .int .u64 seed, .int .i64 nbits, .bool dd]] w fun e w' => e = .returned (.bool true) ∧ Same w w' := by
  have a0 := fun w ht => lay_awake w ht
  have a1 := fun w => check_any sector sectors journal pack cmin cnorm cmax seed nbits dd w
  have a2 := fun w => refCheck_any sector sectors journal pack cmin cnorm cmax seed nbits dd w
  have A0 := hidden a0
  have HT := hidden hT
  by_cases h : Shp sector sectors journal pack cmin cnorm cmax nbits
  · have a3 := fun w => journal_yes sector sectors journal pack cmin cnorm cmax seed nbits dd w h
    have a4 := fun w => refJournal_yes sector sectors journal pack cmin cnorm cmax seed nbits dd w h
    have a5 := fun w => data_yes sector sectors journal pack cmin cnorm cmax seed nbits dd w h
    have a6 := fun w => refData_yes sector sectors journal pack cmin cnorm cmax seed nbits dd w h
    rw [shpErr_yes h] at a1 a2
    have A1 := hidden a1
    have A2 := hidden a2
    have A3 := hidden a3
    have A4 := hidden a4
    have A5 := hidden a5
    have A6 := hidden a6
    clear a0 a1 a2 a3 a4 a5 a6 hT h hseed
    have K : Same (w.alloc (.cells #[.int .i64 sector, .int .i64 sectors, .int .i64 journal, .int .i64 pack, .int .i64 cmin, .int .i64 cnorm, .int .i64 cmax, .int .u64 seed, .int .i64 nbits, .bool dd] 26)) (w.alloc (.cells #[.int .i64 sector, .int .i64 sectors, .int .i64 journal, .int .i64 pack, .int .i64 cmin, .int .i64 cnorm, .int .i64 cmax, .int .u64 seed, .int .i64 nbits, .bool dd] 26)) := Kept.refl _ _
    go_enter Tryd.func3, Tryd.ntmps3
    go_wp2
    go_region_with (first
      | (go_at_call 15; (first | refine (A0.out _ (HT.out.same (Kept.trans (same_alloc _ _) K))).mono ?_ | refine (A0.out _ (HT.out.same (Kept.trans (same_alloc _ _) (Kept.drew K)))).mono ?_); rintro e wn ⟨rfl, kn⟩; (first | have K := Kept.trans K kn | have K := Kept.trans (Kept.drew K) kn); have c0 : wn.cell? ⟨w.heap.size, 0, none⟩ = some (.int .i64 sector) := box_cell 0 K rfl; have c1 : wn.cell? ⟨w.heap.size, 1, none⟩ = some (.int .i64 sectors) := box_cell 1 K rfl; have c2 : wn.cell? ⟨w.heap.size, 2, none⟩ = some (.int .i64 journal) := box_cell 2 K rfl; have c3 : wn.cell? ⟨w.heap.size, 3, none⟩ = some (.int .i64 pack) := box_cell 3 K rfl; have c4 : wn.cell? ⟨w.heap.size, 4, none⟩ = some (.int .i64 cmin) := box_cell 4 K rfl; have c5 : wn.cell? ⟨w.heap.size, 5, none⟩ = some (.int .i64 cnorm) := box_cell 5 K rfl; have c6 : wn.cell? ⟨w.heap.size, 6, none⟩ = some (.int .i64 cmax) := box_cell 6 K rfl; have c7 : wn.cell? ⟨w.heap.size, 7, none⟩ = some (.int .u64 seed) := box_cell 7 K rfl; have c8 : wn.cell? ⟨w.heap.size, 8, none⟩ = some (.int .i64 nbits) := box_cell 8 K rfl; have c9 : wn.cell? ⟨w.heap.size, 9, none⟩ = some (.bool dd) := box_cell 9 K rfl)
      | (go_at_call 16; refine (A1.out _).mono ?_; rintro e wn ⟨rfl, kn⟩; (first | have K := Kept.trans K kn | have K := Kept.trans (Kept.drew K) kn); have c0 : wn.cell? ⟨w.heap.size, 0, none⟩ = some (.int .i64 sector) := box_cell 0 K rfl; have c1 : wn.cell? ⟨w.heap.size, 1, none⟩ = some (.int .i64 sectors) := box_cell 1 K rfl; have c2 : wn.cell? ⟨w.heap.size, 2, none⟩ = some (.int .i64 journal) := box_cell 2 K rfl; have c3 : wn.cell? ⟨w.heap.size, 3, none⟩ = some (.int .i64 pack) := box_cell 3 K rfl; have c4 : wn.cell? ⟨w.heap.size, 4, none⟩ = some (.int .i64 cmin) := box_cell 4 K rfl; have c5 : wn.cell? ⟨w.heap.size, 5, none⟩ = some (.int .i64 cnorm) := box_cell 5 K rfl; have c6 : wn.cell? ⟨w.heap.size, 6, none⟩ = some (.int .i64 cmax) := box_cell 6 K rfl; have c7 : wn.cell? ⟨w.heap.size, 7, none⟩ = some (.int .u64 seed) := box_cell 7 K rfl; have c8 : wn.cell? ⟨w.heap.size, 8, none⟩ = some (.int .i64 nbits) := box_cell 8 K rfl; have c9 : wn.cell? ⟨w.heap.size, 9, none⟩ = some (.bool dd) := box_cell 9 K rfl)
      | (go_at_call 17; refine (A2.out _).mono ?_; rintro e wn ⟨rfl, kn⟩; (first | have K := Kept.trans K kn | have K := Kept.trans (Kept.drew K) kn); have c0 : wn.cell? ⟨w.heap.size, 0, none⟩ = some (.int .i64 sector) := box_cell 0 K rfl; have c1 : wn.cell? ⟨w.heap.size, 1, none⟩ = some (.int .i64 sectors) := box_cell 1 K rfl; have c2 : wn.cell? ⟨w.heap.size, 2, none⟩ = some (.int .i64 journal) := box_cell 2 K rfl; have c3 : wn.cell? ⟨w.heap.size, 3, none⟩ = some (.int .i64 pack) := box_cell 3 K rfl; have c4 : wn.cell? ⟨w.heap.size, 4, none⟩ = some (.int .i64 cmin) := box_cell 4 K rfl; have c5 : wn.cell? ⟨w.heap.size, 5, none⟩ = some (.int .i64 cnorm) := box_cell 5 K rfl; have c6 : wn.cell? ⟨w.heap.size, 6, none⟩ = some (.int .i64 cmax) := box_cell 6 K rfl; have c7 : wn.cell? ⟨w.heap.size, 7, none⟩ = some (.int .u64 seed) := box_cell 7 K rfl; have c8 : wn.cell? ⟨w.heap.size, 8, none⟩ = some (.int .i64 nbits) := box_cell 8 K rfl; have c9 : wn.cell? ⟨w.heap.size, 9, none⟩ = some (.bool dd) := box_cell 9 K rfl)
      | (go_at_call 18; refine (A3.out _).mono ?_; rintro e wn ⟨rfl, kn⟩; (first | have K := Kept.trans K kn | have K := Kept.trans (Kept.drew K) kn); have c0 : wn.cell? ⟨w.heap.size, 0, none⟩ = some (.int .i64 sector) := box_cell 0 K rfl; have c1 : wn.cell? ⟨w.heap.size, 1, none⟩ = some (.int .i64 sectors) := box_cell 1 K rfl; have c2 : wn.cell? ⟨w.heap.size, 2, none⟩ = some (.int .i64 journal) := box_cell 2 K rfl; have c3 : wn.cell? ⟨w.heap.size, 3, none⟩ = some (.int .i64 pack) := box_cell 3 K rfl; have c4 : wn.cell? ⟨w.heap.size, 4, none⟩ = some (.int .i64 cmin) := box_cell 4 K rfl; have c5 : wn.cell? ⟨w.heap.size, 5, none⟩ = some (.int .i64 cnorm) := box_cell 5 K rfl; have c6 : wn.cell? ⟨w.heap.size, 6, none⟩ = some (.int .i64 cmax) := box_cell 6 K rfl; have c7 : wn.cell? ⟨w.heap.size, 7, none⟩ = some (.int .u64 seed) := box_cell 7 K rfl; have c8 : wn.cell? ⟨w.heap.size, 8, none⟩ = some (.int .i64 nbits) := box_cell 8 K rfl; have c9 : wn.cell? ⟨w.heap.size, 9, none⟩ = some (.bool dd) := box_cell 9 K rfl)
      | (go_at_call 19; refine (A4.out _).mono ?_; rintro e wn ⟨rfl, kn⟩; (first | have K := Kept.trans K kn | have K := Kept.trans (Kept.drew K) kn); have c0 : wn.cell? ⟨w.heap.size, 0, none⟩ = some (.int .i64 sector) := box_cell 0 K rfl; have c1 : wn.cell? ⟨w.heap.size, 1, none⟩ = some (.int .i64 sectors) := box_cell 1 K rfl; have c2 : wn.cell? ⟨w.heap.size, 2, none⟩ = some (.int .i64 journal) := box_cell 2 K rfl; have c3 : wn.cell? ⟨w.heap.size, 3, none⟩ = some (.int .i64 pack) := box_cell 3 K rfl; have c4 : wn.cell? ⟨w.heap.size, 4, none⟩ = some (.int .i64 cmin) := box_cell 4 K rfl; have c5 : wn.cell? ⟨w.heap.size, 5, none⟩ = some (.int .i64 cnorm) := box_cell 5 K rfl; have c6 : wn.cell? ⟨w.heap.size, 6, none⟩ = some (.int .i64 cmax) := box_cell 6 K rfl; have c7 : wn.cell? ⟨w.heap.size, 7, none⟩ = some (.int .u64 seed) := box_cell 7 K rfl; have c8 : wn.cell? ⟨w.heap.size, 8, none⟩ = some (.int .i64 nbits) := box_cell 8 K rfl; have c9 : wn.cell? ⟨w.heap.size, 9, none⟩ = some (.bool dd) := box_cell 9 K rfl)
      | (go_at_call 20; refine (A5.out _).mono ?_; rintro e wn ⟨rfl, kn⟩; (first | have K := Kept.trans K kn | have K := Kept.trans (Kept.drew K) kn); have c0 : wn.cell? ⟨w.heap.size, 0, none⟩ = some (.int .i64 sector) := box_cell 0 K rfl; have c1 : wn.cell? ⟨w.heap.size, 1, none⟩ = some (.int .i64 sectors) := box_cell 1 K rfl; have c2 : wn.cell? ⟨w.heap.size, 2, none⟩ = some (.int .i64 journal) := box_cell 2 K rfl; have c3 : wn.cell? ⟨w.heap.size, 3, none⟩ = some (.int .i64 pack) := box_cell 3 K rfl; have c4 : wn.cell? ⟨w.heap.size, 4, none⟩ = some (.int .i64 cmin) := box_cell 4 K rfl; have c5 : wn.cell? ⟨w.heap.size, 5, none⟩ = some (.int .i64 cnorm) := box_cell 5 K rfl; have c6 : wn.cell? ⟨w.heap.size, 6, none⟩ = some (.int .i64 cmax) := box_cell 6 K rfl; have c7 : wn.cell? ⟨w.heap.size, 7, none⟩ = some (.int .u64 seed) := box_cell 7 K rfl; have c8 : wn.cell? ⟨w.heap.size, 8, none⟩ = some (.int .i64 nbits) := box_cell 8 K rfl; have c9 : wn.cell? ⟨w.heap.size, 9, none⟩ = some (.bool dd) := box_cell 9 K rfl)
      | (go_at_call 21; refine (A6.out _).mono ?_; rintro e wn ⟨rfl, kn⟩; (first | have K := Kept.trans K kn | have K := Kept.trans (Kept.drew K) kn); have c0 : wn.cell? ⟨w.heap.size, 0, none⟩ = some (.int .i64 sector) := box_cell 0 K rfl; have c1 : wn.cell? ⟨w.heap.size, 1, none⟩ = some (.int .i64 sectors) := box_cell 1 K rfl; have c2 : wn.cell? ⟨w.heap.size, 2, none⟩ = some (.int .i64 journal) := box_cell 2 K rfl; have c3 : wn.cell? ⟨w.heap.size, 3, none⟩ = some (.int .i64 pack) := box_cell 3 K rfl; have c4 : wn.cell? ⟨w.heap.size, 4, none⟩ = some (.int .i64 cmin) := box_cell 4 K rfl; have c5 : wn.cell? ⟨w.heap.size, 5, none⟩ = some (.int .i64 cnorm) := box_cell 5 K rfl; have c6 : wn.cell? ⟨w.heap.size, 6, none⟩ = some (.int .i64 cmax) := box_cell 6 K rfl; have c7 : wn.cell? ⟨w.heap.size, 7, none⟩ = some (.int .u64 seed) := box_cell 7 K rfl; have c8 : wn.cell? ⟨w.heap.size, 8, none⟩ = some (.int .i64 nbits) := box_cell 8 K rfl; have c9 : wn.cell? ⟨w.heap.size, 9, none⟩ = some (.bool dd) := box_cell 9 K rfl))
    all_goals
      go_wp2
      go_returns
      first
        | exact ⟨rfl, Kept.trans (same_alloc _ _) K⟩
        | exact ⟨rfl, Kept.trans (same_alloc _ _) (Kept.drew K)⟩
  · have a3 := fun w => journal_no sector sectors journal pack cmin cnorm cmax seed nbits dd w h
    have a4 := fun w => refJournal_no sector sectors journal pack cmin cnorm cmax seed nbits dd w h
    have a5 := fun w => data_no sector sectors journal pack cmin cnorm cmax seed nbits dd w h
    have a6 := fun w => refData_no sector sectors journal pack cmin cnorm cmax seed nbits dd w h
    rw [shpErr_no h] at a1 a2
    have A1 := hidden a1
    have A2 := hidden a2
    have A3 := hidden a3
    have A4 := hidden a4
    have A5 := hidden a5
    have A6 := hidden a6
    clear a0 a1 a2 a3 a4 a5 a6 hT h hseed
    have K : Same (w.alloc (.cells #[.int .i64 sector, .int .i64 sectors, .int .i64 journal, .int .i64 pack, .int .i64 cmin, .int .i64 cnorm, .int .i64 cmax, .int .u64 seed, .int .i64 nbits, .bool dd] 26)) (w.alloc (.cells #[.int .i64 sector, .int .i64 sectors, .int .i64 journal, .int .i64 pack, .int .i64 cmin, .int .i64 cnorm, .int .i64 cmax, .int .u64 seed, .int .i64 nbits, .bool dd] 26)) := Kept.refl _ _
    go_enter Tryd.func3, Tryd.ntmps3
    go_wp2
    go_region_with (first
      | (go_at_call 15; (first | refine (A0.out _ (HT.out.same (Kept.trans (same_alloc _ _) K))).mono ?_ | refine (A0.out _ (HT.out.same (Kept.trans (same_alloc _ _) (Kept.drew K)))).mono ?_); rintro e wn ⟨rfl, kn⟩; (first | have K := Kept.trans K kn | have K := Kept.trans (Kept.drew K) kn); have c0 : wn.cell? ⟨w.heap.size, 0, none⟩ = some (.int .i64 sector) := box_cell 0 K rfl; have c1 : wn.cell? ⟨w.heap.size, 1, none⟩ = some (.int .i64 sectors) := box_cell 1 K rfl; have c2 : wn.cell? ⟨w.heap.size, 2, none⟩ = some (.int .i64 journal) := box_cell 2 K rfl; have c3 : wn.cell? ⟨w.heap.size, 3, none⟩ = some (.int .i64 pack) := box_cell 3 K rfl; have c4 : wn.cell? ⟨w.heap.size, 4, none⟩ = some (.int .i64 cmin) := box_cell 4 K rfl; have c5 : wn.cell? ⟨w.heap.size, 5, none⟩ = some (.int .i64 cnorm) := box_cell 5 K rfl; have c6 : wn.cell? ⟨w.heap.size, 6, none⟩ = some (.int .i64 cmax) := box_cell 6 K rfl; have c7 : wn.cell? ⟨w.heap.size, 7, none⟩ = some (.int .u64 seed) := box_cell 7 K rfl; have c8 : wn.cell? ⟨w.heap.size, 8, none⟩ = some (.int .i64 nbits) := box_cell 8 K rfl; have c9 : wn.cell? ⟨w.heap.size, 9, none⟩ = some (.bool dd) := box_cell 9 K rfl)
      | (go_at_call 16; refine (A1.out _).mono ?_; rintro e wn ⟨rfl, kn⟩; (first | have K := Kept.trans K kn | have K := Kept.trans (Kept.drew K) kn); have c0 : wn.cell? ⟨w.heap.size, 0, none⟩ = some (.int .i64 sector) := box_cell 0 K rfl; have c1 : wn.cell? ⟨w.heap.size, 1, none⟩ = some (.int .i64 sectors) := box_cell 1 K rfl; have c2 : wn.cell? ⟨w.heap.size, 2, none⟩ = some (.int .i64 journal) := box_cell 2 K rfl; have c3 : wn.cell? ⟨w.heap.size, 3, none⟩ = some (.int .i64 pack) := box_cell 3 K rfl; have c4 : wn.cell? ⟨w.heap.size, 4, none⟩ = some (.int .i64 cmin) := box_cell 4 K rfl; have c5 : wn.cell? ⟨w.heap.size, 5, none⟩ = some (.int .i64 cnorm) := box_cell 5 K rfl; have c6 : wn.cell? ⟨w.heap.size, 6, none⟩ = some (.int .i64 cmax) := box_cell 6 K rfl; have c7 : wn.cell? ⟨w.heap.size, 7, none⟩ = some (.int .u64 seed) := box_cell 7 K rfl; have c8 : wn.cell? ⟨w.heap.size, 8, none⟩ = some (.int .i64 nbits) := box_cell 8 K rfl; have c9 : wn.cell? ⟨w.heap.size, 9, none⟩ = some (.bool dd) := box_cell 9 K rfl)
      | (go_at_call 17; refine (A2.out _).mono ?_; rintro e wn ⟨rfl, kn⟩; (first | have K := Kept.trans K kn | have K := Kept.trans (Kept.drew K) kn); have c0 : wn.cell? ⟨w.heap.size, 0, none⟩ = some (.int .i64 sector) := box_cell 0 K rfl; have c1 : wn.cell? ⟨w.heap.size, 1, none⟩ = some (.int .i64 sectors) := box_cell 1 K rfl; have c2 : wn.cell? ⟨w.heap.size, 2, none⟩ = some (.int .i64 journal) := box_cell 2 K rfl; have c3 : wn.cell? ⟨w.heap.size, 3, none⟩ = some (.int .i64 pack) := box_cell 3 K rfl; have c4 : wn.cell? ⟨w.heap.size, 4, none⟩ = some (.int .i64 cmin) := box_cell 4 K rfl; have c5 : wn.cell? ⟨w.heap.size, 5, none⟩ = some (.int .i64 cnorm) := box_cell 5 K rfl; have c6 : wn.cell? ⟨w.heap.size, 6, none⟩ = some (.int .i64 cmax) := box_cell 6 K rfl; have c7 : wn.cell? ⟨w.heap.size, 7, none⟩ = some (.int .u64 seed) := box_cell 7 K rfl; have c8 : wn.cell? ⟨w.heap.size, 8, none⟩ = some (.int .i64 nbits) := box_cell 8 K rfl; have c9 : wn.cell? ⟨w.heap.size, 9, none⟩ = some (.bool dd) := box_cell 9 K rfl)
      | (go_at_call 18; refine (A3.out _).mono ?_; rintro e wn ⟨rfl, kn⟩; (first | have K := Kept.trans K kn | have K := Kept.trans (Kept.drew K) kn); have c0 : wn.cell? ⟨w.heap.size, 0, none⟩ = some (.int .i64 sector) := box_cell 0 K rfl; have c1 : wn.cell? ⟨w.heap.size, 1, none⟩ = some (.int .i64 sectors) := box_cell 1 K rfl; have c2 : wn.cell? ⟨w.heap.size, 2, none⟩ = some (.int .i64 journal) := box_cell 2 K rfl; have c3 : wn.cell? ⟨w.heap.size, 3, none⟩ = some (.int .i64 pack) := box_cell 3 K rfl; have c4 : wn.cell? ⟨w.heap.size, 4, none⟩ = some (.int .i64 cmin) := box_cell 4 K rfl; have c5 : wn.cell? ⟨w.heap.size, 5, none⟩ = some (.int .i64 cnorm) := box_cell 5 K rfl; have c6 : wn.cell? ⟨w.heap.size, 6, none⟩ = some (.int .i64 cmax) := box_cell 6 K rfl; have c7 : wn.cell? ⟨w.heap.size, 7, none⟩ = some (.int .u64 seed) := box_cell 7 K rfl; have c8 : wn.cell? ⟨w.heap.size, 8, none⟩ = some (.int .i64 nbits) := box_cell 8 K rfl; have c9 : wn.cell? ⟨w.heap.size, 9, none⟩ = some (.bool dd) := box_cell 9 K rfl)
      | (go_at_call 19; refine (A4.out _).mono ?_; rintro e wn ⟨rfl, kn⟩; (first | have K := Kept.trans K kn | have K := Kept.trans (Kept.drew K) kn); have c0 : wn.cell? ⟨w.heap.size, 0, none⟩ = some (.int .i64 sector) := box_cell 0 K rfl; have c1 : wn.cell? ⟨w.heap.size, 1, none⟩ = some (.int .i64 sectors) := box_cell 1 K rfl; have c2 : wn.cell? ⟨w.heap.size, 2, none⟩ = some (.int .i64 journal) := box_cell 2 K rfl; have c3 : wn.cell? ⟨w.heap.size, 3, none⟩ = some (.int .i64 pack) := box_cell 3 K rfl; have c4 : wn.cell? ⟨w.heap.size, 4, none⟩ = some (.int .i64 cmin) := box_cell 4 K rfl; have c5 : wn.cell? ⟨w.heap.size, 5, none⟩ = some (.int .i64 cnorm) := box_cell 5 K rfl; have c6 : wn.cell? ⟨w.heap.size, 6, none⟩ = some (.int .i64 cmax) := box_cell 6 K rfl; have c7 : wn.cell? ⟨w.heap.size, 7, none⟩ = some (.int .u64 seed) := box_cell 7 K rfl; have c8 : wn.cell? ⟨w.heap.size, 8, none⟩ = some (.int .i64 nbits) := box_cell 8 K rfl; have c9 : wn.cell? ⟨w.heap.size, 9, none⟩ = some (.bool dd) := box_cell 9 K rfl)
      | (go_at_call 20; refine (A5.out _).mono ?_; rintro e wn ⟨rfl, kn⟩; (first | have K := Kept.trans K kn | have K := Kept.trans (Kept.drew K) kn); have c0 : wn.cell? ⟨w.heap.size, 0, none⟩ = some (.int .i64 sector) := box_cell 0 K rfl; have c1 : wn.cell? ⟨w.heap.size, 1, none⟩ = some (.int .i64 sectors) := box_cell 1 K rfl; have c2 : wn.cell? ⟨w.heap.size, 2, none⟩ = some (.int .i64 journal) := box_cell 2 K rfl; have c3 : wn.cell? ⟨w.heap.size, 3, none⟩ = some (.int .i64 pack) := box_cell 3 K rfl; have c4 : wn.cell? ⟨w.heap.size, 4, none⟩ = some (.int .i64 cmin) := box_cell 4 K rfl; have c5 : wn.cell? ⟨w.heap.size, 5, none⟩ = some (.int .i64 cnorm) := box_cell 5 K rfl; have c6 : wn.cell? ⟨w.heap.size, 6, none⟩ = some (.int .i64 cmax) := box_cell 6 K rfl; have c7 : wn.cell? ⟨w.heap.size, 7, none⟩ = some (.int .u64 seed) := box_cell 7 K rfl; have c8 : wn.cell? ⟨w.heap.size, 8, none⟩ = some (.int .i64 nbits) := box_cell 8 K rfl; have c9 : wn.cell? ⟨w.heap.size, 9, none⟩ = some (.bool dd) := box_cell 9 K rfl)
      | (go_at_call 21; refine (A6.out _).mono ?_; rintro e wn ⟨rfl, kn⟩; (first | have K := Kept.trans K kn | have K := Kept.trans (Kept.drew K) kn); have c0 : wn.cell? ⟨w.heap.size, 0, none⟩ = some (.int .i64 sector) := box_cell 0 K rfl; have c1 : wn.cell? ⟨w.heap.size, 1, none⟩ = some (.int .i64 sectors) := box_cell 1 K rfl; have c2 : wn.cell? ⟨w.heap.size, 2, none⟩ = some (.int .i64 journal) := box_cell 2 K rfl; have c3 : wn.cell? ⟨w.heap.size, 3, none⟩ = some (.int .i64 pack) := box_cell 3 K rfl; have c4 : wn.cell? ⟨w.heap.size, 4, none⟩ = some (.int .i64 cmin) := box_cell 4 K rfl; have c5 : wn.cell? ⟨w.heap.size, 5, none⟩ = some (.int .i64 cnorm) := box_cell 5 K rfl; have c6 : wn.cell? ⟨w.heap.size, 6, none⟩ = some (.int .i64 cmax) := box_cell 6 K rfl; have c7 : wn.cell? ⟨w.heap.size, 7, none⟩ = some (.int .u64 seed) := box_cell 7 K rfl; have c8 : wn.cell? ⟨w.heap.size, 8, none⟩ = some (.int .i64 nbits) := box_cell 8 K rfl; have c9 : wn.cell? ⟨w.heap.size, 9, none⟩ = some (.bool dd) := box_cell 9 K rfl))
    all_goals
      go_wp2
      go_returns
      first
        | exact ⟨rfl, Kept.trans (same_alloc _ _) K⟩
        | exact ⟨rfl, Kept.trans (same_alloc _ _) (Kept.drew K)⟩
end Go.Proofs.YtlilgfcacoooaaaDoor
namespace Go.Proofs.YtlilgfcacoooaaaDoor.LayoutChecks
open Go.ChangeShapes Go.WideShapes Go.ChangeAt Go.RowKit Go.Joins Go.ChangeMaps
set_option maxRecDepth 100000 in
theorem contract (H : Type) (enc : TypeId × Value → H) (W : World) (base : Nat) (args : Array Value) (ds gs : List (DataW H)) (before : List MemPlace)
    (hval : ∀ (j : Nat) t v, Tryd.f3.params[j]? = some t → args[j]? = some v → Value.okWide Tryd.prog W .any base t v)
    (hW : DataW.Whole enc Tryd.prog Tryd.f3.params.toList Rows.layoutChecksSpec.vars false W args.toList ds gs before)
    (hsz : (DataW.weightsEach Tryd.prog (Tryd.f3.params.toList ++ (OpenSpec.ofChange Rows.layoutChecksSpec).bare.plain.varTypes Tryd.prog) (ds ++ gs)).all (· ≤ reachBytes) = true)
    (hL : laidMetH Tryd.prog Rows.layoutChecksRow.laid W) :
    Calls Tryd.prog 3 args W fun e W' => ∃ v, e = .returned v ∧ Rows.layoutChecksSpec.post enc Tryd.prog Tryd.f3 false true false false W args v W' := by
  have hW' := hW
  obtain ⟨p, q, hA0, hV, rfl, hfz, hnd⟩ := hW
  have hA : DataW.TrodAll enc Tryd.prog W 0 (fun _ => true) true Tryd.f3.params.toList args.toList ds p := hA0
  rw [Tryd.params3] at hA hval hsz
  obtain ⟨v0, vs0, d0, ds0, p0, q0, hargs, rfl, rfl, h0, r0⟩ := trodAll_cons hA
  obtain ⟨rfl, rfl, rfl⟩ := trodAll_nil r0
  obtain rfl : args = #[v0] := by cases args; simp_all
  obtain ⟨rfl, rfl⟩ := trodVars_none hV
  obtain ⟨sector, sectors, journal, pack, cmin, cnorm, cmax, seed, nbits, dd, rfl, b_seed⟩ := shape_open (hval 0 26 v0 rfl rfl) h0
  refine (checks_walk sector sectors journal pack cmin cnorm cmax seed nbits dd W b_seed (tab_laid hL)).mono fun e W' ⟨he, hg⟩ => ?_
  subst he
  exact ⟨_, rfl, law_post laidOut (by rw [Tryd.params3]; decide +kernel) rfl hW' rfl Tryd.underlying4 ⟨rfl, rfl, rfl⟩ (hg.below (Nat.le_refl _) fun _ h => h.elim)⟩
set_option maxRecDepth 100000 in
theorem lifted (os : Os) (started : os.Started) (H : Type) (enc : TypeId × Value → H) (F : Stop.Interp) :
    ReturnsInHanded {} Tryd.checked os 3 .any ((OpenSpec.ofChange Rows.layoutChecksSpec).preRow enc Tryd.prog Tryd.f3 Rows.layoutChecksRow.domain false Rows.layoutChecksRow.laid) (((OpenSpec.ofChange Rows.layoutChecksSpec).at F).post enc Tryd.prog Tryd.f3 false true false false) := by
  refine returnsInHanded_of_row (C := Tryd.checked) (s := OpenSpec.ofChange Rows.layoutChecksSpec) own started (by kernel_rfl) Tryd.func3
    (witness_row_at (enc := enc) (C := Tryd.checked) false ({ World.holding Tryd.prog os ⟨#[], #[], []⟩ with heap := (World.holding Tryd.prog os ⟨#[], #[], []⟩).heap.modify tabBlock fun | .cells _ t frozen => .cells (tabInts.map (Value.int .u32)).toArray t frozen | o => o }) #[.agg #[.int .i64 0, .int .i64 0, .int .i64 0, .int .i64 0, .int .i64 0, .int .i64 0, .int .i64 0, .int .u64 0, .int .i64 0, .bool false]] rfl (by kernel_rfl) (by kernel_rfl) (by kernel_rfl)
      (OpenSpec.preRow_of_cond (x := ([.agg [.lit (.int .i64 0), .lit (.int .i64 0), .lit (.int .i64 0), .lit (.int .i64 0), .agg [.lit (.int .i64 0), .lit (.int .i64 0), .lit (.int .i64 0), .lit (.int .u64 0)], .lit (.int .i64 0), .lit (.bool false)]], [], [])) 8 (by kernel_rfl) (by kernel_rfl) (fun k hk => by cases hk) (by kernel_rfl) (laidMet_of_run' 8 (by kernel_rfl) (by kernel_rfl)))) ?_
  intro W base args ds gs before hval hW _ _ hsz hL _ _
  exact contract H enc W base args ds gs before hval hW hsz hL
theorem said : Rows.LayoutChecksSaid :=
  OpenClaim.holds_of_cond 3 Tryd.f3 rfl rfl rfl rfl rfl rfl rfl ⟨rfl, rfl, rfl, rfl, rfl⟩ rfl rfl rfl rfl rfl (by kernel_rfl) Tryd.func3 (by kernel_rfl)
    (of_decide_eq_true (by kernel_rfl)) (by unfold Func.isWrapper; first | (rw [if_pos (by decide +kernel)]; kernel_rfl) | (rw [if_neg (by decide +kernel)]; exact ⟨rfl, rfl⟩))
    (fun os started H enc _ F => by rw [OpenClaim.pre_eq_preRow]; exact lifted os started H enc F)
theorem plain (f : FuncId) (fn : Func) (hf : Tryd.pinned.checked.prog.funcNamed Rows.layoutChecksRow.func = some f) (hfn : Tryd.pinned.checked.prog.funcs[f]? = some fn) :
    false = Tryd.pinned.checked.prog.looks [] ∧ ∀ (j : Nat) t, fn.params[j]? = some t → Tryd.pinned.checked.prog.wantsStandIn t = false := by
  obtain rfl : f = 3 := Option.some.inj ((show Tryd.prog.funcNamed Rows.layoutChecksRow.func = some 3 by kernel_rfl).symm.trans hf) |>.symm
  obtain rfl : fn = Tryd.f3 := (Option.some.inj (Tryd.func3.symm.trans hfn)).symm
  refine ⟨by kernel_rfl, fun j t ht => ?_⟩
  rw [Tryd.params3] at ht
  have hm : t ∈ [26] := by simpa using Array.mem_of_getElem? ht
  have hall : [26].all (fun t => !Tryd.prog.wantsStandIn t) = true := by kernel_rfl
  have h1 := List.all_eq_true.1 hall t hm
  have h2 : Tryd.prog.wantsStandIn t = false := by simpa using h1
  exact h2
theorem card : Rows.LayoutChecksCardSaid :=
  Claim7.holds_tied_plain_at .later [] _ _ _ _ said (fun _ h => by cases h) (by kernel_rfl) (fun _ h => by cases h) layoutChecks_row_tie rfl ⟨rfl, rfl⟩ (by kernel_rfl) rfl plain (by kernel_rfl)
end Go.Proofs.YtlilgfcacoooaaaDoor.LayoutChecks
namespace Go.Proofs.YtlilgfcacoooaaaDoor
theorem layoutChecks_card : Rows.LayoutChecksCardSaid := LayoutChecks.card
end Go.Proofs.YtlilgfcacoooaaaDoor
