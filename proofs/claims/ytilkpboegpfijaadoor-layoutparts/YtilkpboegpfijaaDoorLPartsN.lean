/- LayoutParts at a shape that Check refuses. -/
import Derived.Test.YtilkpboegpfijaaDoorLayK
import Derived.Deep.RegionWith
import Derived.Deep.RegionLaw
namespace Go.Proofs.YtilkpboegpfijaaDoor
open Go.RowKit
set_option linter.unusedVariables false
attribute [local go_sem ↓] Go.wp_at_zero Go.wp_at_succ

set_option maxHeartbeats 8000000 in
set_option maxRecDepth 100000 in
theorem parts_no (sector sectors journal pack cmin cnorm cmax : Int) (seed : Nat) (nbits : Int) (dd : Bool) (w : World) (hseed : seed < 18446744073709551616) (hT : Tab w) (h : ¬ Shp sector sectors journal pack cmin cnorm cmax nbits) : Calls Tryd.prog 6 #[.agg #[.int .i64 sector, .int .i64 sectors, .int .i64 journal, .int .i64 pack, .int .i64 cmin, .int .i64 cnorm, .int .i64 cmax, .int .u64 seed, .int .i64 nbits, .bool dd]] w fun e w' => e = .returned (.bool true) ∧ Same w w' := by
  have a0 := fun w ht => lay_awake w ht
  have A0 := hidden a0
  have HT := hidden hT
  have a1 := fun w => check_any sector sectors journal pack cmin cnorm cmax seed nbits dd w
  rw [shpErr_no h] at a1
  have a2 := fun w => journal_no sector sectors journal pack cmin cnorm cmax seed nbits dd w h
  have a4 := fun w => kind_no sector sectors journal pack cmin cnorm cmax seed nbits dd 2 w h
  have A1 := hidden a1
  have A2 := hidden a2
  have A4 := hidden a4
  clear a0 a1 a2 a4 hT h
  have K : Same (w.alloc (.cells #[.int .i64 sector, .int .i64 sectors, .int .i64 journal, .int .i64 pack, .int .i64 cmin, .int .i64 cnorm, .int .i64 cmax, .int .u64 seed, .int .i64 nbits, .bool dd] 58)) (w.alloc (.cells #[.int .i64 sector, .int .i64 sectors, .int .i64 journal, .int .i64 pack, .int .i64 cmin, .int .i64 cnorm, .int .i64 cmax, .int .u64 seed, .int .i64 nbits, .bool dd] 58)) := Kept.refl _ _
  go_enter Tryd.func6, Tryd.ntmps6
  go_wp2_with (first
    | (go_at_call 25; (first | refine (A0.out _ (HT.out.same (Kept.trans (same_alloc _ _) K))).mono ?_ | refine (A0.out _ (HT.out.same (Kept.trans (same_alloc _ _) (Kept.drew K)))).mono ?_); rintro e wn ⟨rfl, kn⟩; (first | have K := Kept.trans K kn | have K := Kept.trans (Kept.drew K) kn); have c0 : wn.cell? ⟨w.heap.size, 0, none⟩ = some (.int .i64 sector) := box_cell 0 K rfl; have c1 : wn.cell? ⟨w.heap.size, 1, none⟩ = some (.int .i64 sectors) := box_cell 1 K rfl; have c2 : wn.cell? ⟨w.heap.size, 2, none⟩ = some (.int .i64 journal) := box_cell 2 K rfl; have c3 : wn.cell? ⟨w.heap.size, 3, none⟩ = some (.int .i64 pack) := box_cell 3 K rfl; have c4 : wn.cell? ⟨w.heap.size, 4, none⟩ = some (.int .i64 cmin) := box_cell 4 K rfl; have c5 : wn.cell? ⟨w.heap.size, 5, none⟩ = some (.int .i64 cnorm) := box_cell 5 K rfl; have c6 : wn.cell? ⟨w.heap.size, 6, none⟩ = some (.int .i64 cmax) := box_cell 6 K rfl; have c7 : wn.cell? ⟨w.heap.size, 7, none⟩ = some (.int .u64 seed) := box_cell 7 K rfl; have c8 : wn.cell? ⟨w.heap.size, 8, none⟩ = some (.int .i64 nbits) := box_cell 8 K rfl; have c9 : wn.cell? ⟨w.heap.size, 9, none⟩ = some (.bool dd) := box_cell 9 K rfl)
    | (go_at_call 26; refine (A1.out _).mono ?_; rintro e wn ⟨rfl, kn⟩; (first | have K := Kept.trans K kn | have K := Kept.trans (Kept.drew K) kn); have c0 : wn.cell? ⟨w.heap.size, 0, none⟩ = some (.int .i64 sector) := box_cell 0 K rfl; have c1 : wn.cell? ⟨w.heap.size, 1, none⟩ = some (.int .i64 sectors) := box_cell 1 K rfl; have c2 : wn.cell? ⟨w.heap.size, 2, none⟩ = some (.int .i64 journal) := box_cell 2 K rfl; have c3 : wn.cell? ⟨w.heap.size, 3, none⟩ = some (.int .i64 pack) := box_cell 3 K rfl; have c4 : wn.cell? ⟨w.heap.size, 4, none⟩ = some (.int .i64 cmin) := box_cell 4 K rfl; have c5 : wn.cell? ⟨w.heap.size, 5, none⟩ = some (.int .i64 cnorm) := box_cell 5 K rfl; have c6 : wn.cell? ⟨w.heap.size, 6, none⟩ = some (.int .i64 cmax) := box_cell 6 K rfl; have c7 : wn.cell? ⟨w.heap.size, 7, none⟩ = some (.int .u64 seed) := box_cell 7 K rfl; have c8 : wn.cell? ⟨w.heap.size, 8, none⟩ = some (.int .i64 nbits) := box_cell 8 K rfl; have c9 : wn.cell? ⟨w.heap.size, 9, none⟩ = some (.bool dd) := box_cell 9 K rfl)
    | (go_at_call 27; refine (A4.out _).mono ?_; rintro e wn ⟨rfl, kn⟩; (first | have K := Kept.trans K kn | have K := Kept.trans (Kept.drew K) kn); have c0 : wn.cell? ⟨w.heap.size, 0, none⟩ = some (.int .i64 sector) := box_cell 0 K rfl; have c1 : wn.cell? ⟨w.heap.size, 1, none⟩ = some (.int .i64 sectors) := box_cell 1 K rfl; have c2 : wn.cell? ⟨w.heap.size, 2, none⟩ = some (.int .i64 journal) := box_cell 2 K rfl; have c3 : wn.cell? ⟨w.heap.size, 3, none⟩ = some (.int .i64 pack) := box_cell 3 K rfl; have c4 : wn.cell? ⟨w.heap.size, 4, none⟩ = some (.int .i64 cmin) := box_cell 4 K rfl; have c5 : wn.cell? ⟨w.heap.size, 5, none⟩ = some (.int .i64 cnorm) := box_cell 5 K rfl; have c6 : wn.cell? ⟨w.heap.size, 6, none⟩ = some (.int .i64 cmax) := box_cell 6 K rfl; have c7 : wn.cell? ⟨w.heap.size, 7, none⟩ = some (.int .u64 seed) := box_cell 7 K rfl; have c8 : wn.cell? ⟨w.heap.size, 8, none⟩ = some (.int .i64 nbits) := box_cell 8 K rfl; have c9 : wn.cell? ⟨w.heap.size, 9, none⟩ = some (.bool dd) := box_cell 9 K rfl)
    | (go_at_call 28; refine (A2.out _).mono ?_; rintro e wn ⟨rfl, kn⟩; (first | have K := Kept.trans K kn | have K := Kept.trans (Kept.drew K) kn)))
  go_returns
  first
    | exact ⟨rfl, Kept.trans (same_alloc _ _) K⟩
    | exact ⟨rfl, Kept.trans (same_alloc _ _) (Kept.drew K)⟩
end Go.Proofs.YtilkpboegpfijaaDoor
