/-
  LayoutOneOrOther (P4.5): for every superblock that may be, next root and bytes of the other sector that are no superblock of a greater generation: Choose tells the old one as long as the other sector has its old bytes, and the next one as soon as it has the new ones: the law's call returns true and leaves its arguments as they were.
  Condition: the table crcSteps holds what the program's text lays (the card ties it).
-/
import Derived.Test.YtlilgfcacoooaaaDoorLOne2
namespace Go.Proofs.YtlilgfcacoooaaaDoor
open Go.RowKit
set_option linter.unusedVariables false
attribute [local go_sem ↓] Go.wp_at_zero Go.wp_at_succ

set_option maxHeartbeats 8000000 in
set_option maxRecDepth 100000 in
theorem one_refused (gen : Nat) (root : Int) (sector sectors journal pack cmin cnorm cmax : Int) (seed : Nat) (nbits : Int) (dd : Bool) (rt : Int) (v : Value) (w : World) (e : Int) (h : supErr sectors journal root (Shp sector sectors journal pack cmin cnorm cmax nbits) = e) (he : e ≠ 0) (hT : Tab w) :
    Calls Tryd.prog 9 #[.agg #[.int .u64 gen, .int .i64 root, .int .i64 sector, .int .i64 sectors, .int .i64 journal, .int .i64 pack, .int .i64 cmin, .int .i64 cnorm, .int .i64 cmax, .int .u64 seed, .int .i64 nbits, .bool dd], .int .i64 rt, v] w fun e w' => e = .returned (.bool true) ∧ Same w w' := by
  have A0 := hidden fun w ht => lay_awake w ht
  have a1 := fun w => refCsup_any gen root sector sectors journal pack cmin cnorm cmax seed nbits dd w
  rw [h] at a1
  have A1 := hidden a1
  have heb : (e != 0) = true := by simpa using he
  clear a1 h he
  have HT := hidden hT
  have tok : True := trivial
  clear hT
  go_enter Tryd.func9, Tryd.ntmps9
  go_wp2_with (first
    | (go_at_call 15; refine (A0.out _ (HT.out.same (same_alloc _ _))).mono ?_; rintro e w1 ⟨rfl, k1⟩; have bx := blk_kept k1 (fun h => h) (blk_new w _); have x0 : w1.cell? ⟨w.heap.size, 0, none⟩ = some (.int .u64 gen) := blk_cell bx; have x1 : w1.cell? ⟨w.heap.size, 1, none⟩ = some (.int .i64 root) := blk_cell bx; have x2 : w1.cell? ⟨w.heap.size, 2, none⟩ = some (.int .i64 sector) := blk_cell bx; have x3 : w1.cell? ⟨w.heap.size, 3, none⟩ = some (.int .i64 sectors) := blk_cell bx; have x4 : w1.cell? ⟨w.heap.size, 4, none⟩ = some (.int .i64 journal) := blk_cell bx; have x5 : w1.cell? ⟨w.heap.size, 5, none⟩ = some (.int .i64 pack) := blk_cell bx; have x6 : w1.cell? ⟨w.heap.size, 6, none⟩ = some (.int .i64 cmin) := blk_cell bx; have x7 : w1.cell? ⟨w.heap.size, 7, none⟩ = some (.int .i64 cnorm) := blk_cell bx; have x8 : w1.cell? ⟨w.heap.size, 8, none⟩ = some (.int .i64 cmax) := blk_cell bx; have x9 : w1.cell? ⟨w.heap.size, 9, none⟩ = some (.int .u64 seed) := blk_cell bx; have x10 : w1.cell? ⟨w.heap.size, 10, none⟩ = some (.int .i64 nbits) := blk_cell bx; have x11 : w1.cell? ⟨w.heap.size, 11, none⟩ = some (.bool dd) := blk_cell bx; have K1 : Same w w1 := Kept.trans (same_alloc _ _) k1; have BX := hidden bx; clear bx k1)
    | (go_at_call 25; have _t := tok; refine (A1.out _).mono ?_; rintro e w2 ⟨rfl, k2⟩; have bx := blk_kept k2 (fun h => h) BX.out; have x0 : w2.cell? ⟨w.heap.size, 0, none⟩ = some (.int .u64 gen) := blk_cell bx; have x1 : w2.cell? ⟨w.heap.size, 1, none⟩ = some (.int .i64 root) := blk_cell bx; have x2 : w2.cell? ⟨w.heap.size, 2, none⟩ = some (.int .i64 sector) := blk_cell bx; have x3 : w2.cell? ⟨w.heap.size, 3, none⟩ = some (.int .i64 sectors) := blk_cell bx; have x4 : w2.cell? ⟨w.heap.size, 4, none⟩ = some (.int .i64 journal) := blk_cell bx; have x5 : w2.cell? ⟨w.heap.size, 5, none⟩ = some (.int .i64 pack) := blk_cell bx; have x6 : w2.cell? ⟨w.heap.size, 6, none⟩ = some (.int .i64 cmin) := blk_cell bx; have x7 : w2.cell? ⟨w.heap.size, 7, none⟩ = some (.int .i64 cnorm) := blk_cell bx; have x8 : w2.cell? ⟨w.heap.size, 8, none⟩ = some (.int .i64 cmax) := blk_cell bx; have x9 : w2.cell? ⟨w.heap.size, 9, none⟩ = some (.int .u64 seed) := blk_cell bx; have x10 : w2.cell? ⟨w.heap.size, 10, none⟩ = some (.int .i64 nbits) := blk_cell bx; have x11 : w2.cell? ⟨w.heap.size, 11, none⟩ = some (.bool dd) := blk_cell bx; have K2 : Same w w2 := Kept.trans K1 k2; have BX := hidden bx; clear bx k2 tok))
  go_returns
  exact ⟨rfl, K2⟩
set_option maxHeartbeats 8000000 in
set_option maxRecDepth 100000 in
theorem one_last (gen root : Nat) (rt : Int) (sector sectors journal pack cmin cnorm cmax seed nbits : Nat) (dd : Bool) (v : Value) (w : World) (hX : Sup gen root sector sectors journal pack cmin cnorm cmax seed nbits dd) (hg : gen = 18446744073709551615) (hT : Tab w) :
    Calls Tryd.prog 9 #[.agg #[.int .u64 gen, .int .i64 root, .int .i64 sector, .int .i64 sectors, .int .i64 journal, .int .i64 pack, .int .i64 cmin, .int .i64 cnorm, .int .i64 cmax, .int .u64 seed, .int .i64 nbits, .bool dd], .int .i64 rt, v] w fun e w' => e = .returned (.bool true) ∧ Same w w' := by
  have A0 := hidden fun w ht => lay_awake w ht
  have a1 := fun w => refCsup_any gen root sector sectors journal pack cmin cnorm cmax seed nbits dd w
  rw [hX.ok] at a1
  have A1 := hidden a1
  have hgb : ((gen : Int) == 18446744073709551615) = true := by rw [hg]; rfl
  clear a1 hX hg
  have HT := hidden hT
  have tok : True := trivial
  clear hT
  go_enter Tryd.func9, Tryd.ntmps9
  go_wp2_with (first
    | (go_at_call 15; refine (A0.out _ (HT.out.same (same_alloc _ _))).mono ?_; rintro e w1 ⟨rfl, k1⟩; have bx := blk_kept k1 (fun h => h) (blk_new w _); have x0 : w1.cell? ⟨w.heap.size, 0, none⟩ = some (.int .u64 gen) := blk_cell bx; have x1 : w1.cell? ⟨w.heap.size, 1, none⟩ = some (.int .i64 root) := blk_cell bx; have x2 : w1.cell? ⟨w.heap.size, 2, none⟩ = some (.int .i64 sector) := blk_cell bx; have x3 : w1.cell? ⟨w.heap.size, 3, none⟩ = some (.int .i64 sectors) := blk_cell bx; have x4 : w1.cell? ⟨w.heap.size, 4, none⟩ = some (.int .i64 journal) := blk_cell bx; have x5 : w1.cell? ⟨w.heap.size, 5, none⟩ = some (.int .i64 pack) := blk_cell bx; have x6 : w1.cell? ⟨w.heap.size, 6, none⟩ = some (.int .i64 cmin) := blk_cell bx; have x7 : w1.cell? ⟨w.heap.size, 7, none⟩ = some (.int .i64 cnorm) := blk_cell bx; have x8 : w1.cell? ⟨w.heap.size, 8, none⟩ = some (.int .i64 cmax) := blk_cell bx; have x9 : w1.cell? ⟨w.heap.size, 9, none⟩ = some (.int .u64 seed) := blk_cell bx; have x10 : w1.cell? ⟨w.heap.size, 10, none⟩ = some (.int .i64 nbits) := blk_cell bx; have x11 : w1.cell? ⟨w.heap.size, 11, none⟩ = some (.bool dd) := blk_cell bx; have K1 : Same w w1 := Kept.trans (same_alloc _ _) k1; have BX := hidden bx; clear bx k1)
    | (go_at_call 25; have _t := tok; refine (A1.out _).mono ?_; rintro e w2 ⟨rfl, k2⟩; have bx := blk_kept k2 (fun h => h) BX.out; have x0 : w2.cell? ⟨w.heap.size, 0, none⟩ = some (.int .u64 gen) := blk_cell bx; have x1 : w2.cell? ⟨w.heap.size, 1, none⟩ = some (.int .i64 root) := blk_cell bx; have x2 : w2.cell? ⟨w.heap.size, 2, none⟩ = some (.int .i64 sector) := blk_cell bx; have x3 : w2.cell? ⟨w.heap.size, 3, none⟩ = some (.int .i64 sectors) := blk_cell bx; have x4 : w2.cell? ⟨w.heap.size, 4, none⟩ = some (.int .i64 journal) := blk_cell bx; have x5 : w2.cell? ⟨w.heap.size, 5, none⟩ = some (.int .i64 pack) := blk_cell bx; have x6 : w2.cell? ⟨w.heap.size, 6, none⟩ = some (.int .i64 cmin) := blk_cell bx; have x7 : w2.cell? ⟨w.heap.size, 7, none⟩ = some (.int .i64 cnorm) := blk_cell bx; have x8 : w2.cell? ⟨w.heap.size, 8, none⟩ = some (.int .i64 cmax) := blk_cell bx; have x9 : w2.cell? ⟨w.heap.size, 9, none⟩ = some (.int .u64 seed) := blk_cell bx; have x10 : w2.cell? ⟨w.heap.size, 10, none⟩ = some (.int .i64 nbits) := blk_cell bx; have x11 : w2.cell? ⟨w.heap.size, 11, none⟩ = some (.bool dd) := blk_cell bx; have K2 : Same w w2 := Kept.trans K1 k2; have BX := hidden bx; clear bx k2 tok))
  go_returns
  exact ⟨rfl, K2⟩
set_option maxHeartbeats 8000000 in
set_option maxRecDepth 100000 in
theorem one_no_next (gen root : Nat) (rt : Int) (sector sectors journal pack cmin cnorm cmax seed nbits : Nat) (dd : Bool) (v : Value) (w : World) (hX : Sup gen root sector sectors journal pack cmin cnorm cmax seed nbits dd) (hg : gen < 18446744073709551615) (e : Int) (h : supErr sectors journal rt (Shp sector sectors journal pack cmin cnorm cmax nbits) = e) (he : e ≠ 0) (hT : Tab w) :
    Calls Tryd.prog 9 #[.agg #[.int .u64 gen, .int .i64 root, .int .i64 sector, .int .i64 sectors, .int .i64 journal, .int .i64 pack, .int .i64 cmin, .int .i64 cnorm, .int .i64 cmax, .int .u64 seed, .int .i64 nbits, .bool dd], .int .i64 rt, v] w fun e w' => e = .returned (.bool true) ∧ Same w w' := by
  have A0 := hidden fun w ht => lay_awake w ht
  have a1 := fun w => refCsup_any gen root sector sectors journal pack cmin cnorm cmax seed nbits dd w
  rw [hX.ok] at a1
  have A1 := hidden a1
  have a2 := fun w => refCsup_any (gen + 1) rt sector sectors journal pack cmin cnorm cmax seed nbits dd w
  rw [h] at a2
  have A2 := hidden a2
  have heb : (e != 0) = true := by simpa using he
  have hgb : ((gen : Int) == 18446744073709551615) = false := by simp; omega
  have hgw : IntKind.u64.wrap ((gen : Int) + 1) = ((gen + 1 : Nat) : Int) := by rw [IntKind.wrap_u64]; omega
  clear a1 a2 hX hg h he
  have HT := hidden hT
  have tok : True := trivial
  clear hT
  go_enter Tryd.func9, Tryd.ntmps9
  go_wp2_with (first
    | (go_at_call 15; refine (A0.out _ (HT.out.same (same_alloc _ _))).mono ?_; rintro e w1 ⟨rfl, k1⟩; have bx := blk_kept k1 (fun h => h) (blk_new w _); have x0 : w1.cell? ⟨w.heap.size, 0, none⟩ = some (.int .u64 gen) := blk_cell bx; have x1 : w1.cell? ⟨w.heap.size, 1, none⟩ = some (.int .i64 root) := blk_cell bx; have x2 : w1.cell? ⟨w.heap.size, 2, none⟩ = some (.int .i64 sector) := blk_cell bx; have x3 : w1.cell? ⟨w.heap.size, 3, none⟩ = some (.int .i64 sectors) := blk_cell bx; have x4 : w1.cell? ⟨w.heap.size, 4, none⟩ = some (.int .i64 journal) := blk_cell bx; have x5 : w1.cell? ⟨w.heap.size, 5, none⟩ = some (.int .i64 pack) := blk_cell bx; have x6 : w1.cell? ⟨w.heap.size, 6, none⟩ = some (.int .i64 cmin) := blk_cell bx; have x7 : w1.cell? ⟨w.heap.size, 7, none⟩ = some (.int .i64 cnorm) := blk_cell bx; have x8 : w1.cell? ⟨w.heap.size, 8, none⟩ = some (.int .i64 cmax) := blk_cell bx; have x9 : w1.cell? ⟨w.heap.size, 9, none⟩ = some (.int .u64 seed) := blk_cell bx; have x10 : w1.cell? ⟨w.heap.size, 10, none⟩ = some (.int .i64 nbits) := blk_cell bx; have x11 : w1.cell? ⟨w.heap.size, 11, none⟩ = some (.bool dd) := blk_cell bx; have K1 : Same w w1 := Kept.trans (same_alloc _ _) k1; have BX := hidden bx; clear bx k1)
    | (go_at_call 25; have _t := tok; refine (A1.out _).mono ?_; rintro e w2 ⟨rfl, k2⟩; have bx := blk_kept k2 (fun h => h) BX.out; have x0 : w2.cell? ⟨w.heap.size, 0, none⟩ = some (.int .u64 gen) := blk_cell bx; have x1 : w2.cell? ⟨w.heap.size, 1, none⟩ = some (.int .i64 root) := blk_cell bx; have x2 : w2.cell? ⟨w.heap.size, 2, none⟩ = some (.int .i64 sector) := blk_cell bx; have x3 : w2.cell? ⟨w.heap.size, 3, none⟩ = some (.int .i64 sectors) := blk_cell bx; have x4 : w2.cell? ⟨w.heap.size, 4, none⟩ = some (.int .i64 journal) := blk_cell bx; have x5 : w2.cell? ⟨w.heap.size, 5, none⟩ = some (.int .i64 pack) := blk_cell bx; have x6 : w2.cell? ⟨w.heap.size, 6, none⟩ = some (.int .i64 cmin) := blk_cell bx; have x7 : w2.cell? ⟨w.heap.size, 7, none⟩ = some (.int .i64 cnorm) := blk_cell bx; have x8 : w2.cell? ⟨w.heap.size, 8, none⟩ = some (.int .i64 cmax) := blk_cell bx; have x9 : w2.cell? ⟨w.heap.size, 9, none⟩ = some (.int .u64 seed) := blk_cell bx; have x10 : w2.cell? ⟨w.heap.size, 10, none⟩ = some (.int .i64 nbits) := blk_cell bx; have x11 : w2.cell? ⟨w.heap.size, 11, none⟩ = some (.bool dd) := blk_cell bx; have K2 : Same w w2 := Kept.trans K1 k2; have BX := hidden bx; clear bx k2 tok)
    | (go_at_call 25; refine (A2.out _).mono ?_; rintro e w3 ⟨rfl, k3⟩; have bx := blk_kept k3 (fun h => h) (blk_alloc BX.out _); have K3 : Same w w3 := Kept.trans (Kept.alloc K2 _) k3; have BX := hidden bx; clear bx k3))
  go_returns
  exact ⟨rfl, K3⟩
set_option maxHeartbeats 8000000 in
set_option maxRecDepth 100000 in
theorem one_greater (gen root rt sector sectors journal pack cmin cnorm cmax seed nbits : Nat) (dd : Bool) (v : Value) (w : World) (dO : Dec) (hX : Sup gen root sector sectors journal pack cmin cnorm cmax seed nbits dd) (hY : Sup (gen + 1) rt sector sectors journal pack cmin cnorm cmax seed nbits dd) (hg : gen < 18446744073709551615) (hO : Tells w v dO) (h1 : (dO.e == 0) = true) (h2 : (gen : Int) < dO.gen) (hT : Tab w) :
    Calls Tryd.prog 9 #[.agg #[.int .u64 gen, .int .i64 root, .int .i64 sector, .int .i64 sectors, .int .i64 journal, .int .i64 pack, .int .i64 cmin, .int .i64 cnorm, .int .i64 cmax, .int .u64 seed, .int .i64 nbits, .bool dd], .int .i64 rt, v] w fun e w' => e = .returned (.bool true) ∧ Same w w' := by
  have A0 := hidden fun w ht => lay_awake w ht
  have a1 := fun w => refCsup_any gen root sector sectors journal pack cmin cnorm cmax seed nbits dd w
  rw [hX.ok] at a1
  have A1 := hidden a1
  have a2 := fun w => refCsup_any (gen + 1) rt sector sectors journal pack cmin cnorm cmax seed nbits dd w
  rw [hY.ok] at a2
  have A2 := hidden a2
  have TO := hidden hO
  have hgb : ((gen : Int) == 18446744073709551615) = false := by simp; omega
  have hgw : IntKind.u64.wrap ((gen : Int) + 1) = ((gen + 1 : Nat) : Int) := by rw [IntKind.wrap_u64]; omega
  clear a1 a2 hX hY hg hO
  have HT := hidden hT
  have tok : True := trivial
  clear hT
  go_enter Tryd.func9, Tryd.ntmps9
  go_wp2_with (first
    | (go_at_call 15; refine (A0.out _ (HT.out.same (same_alloc _ _))).mono ?_; rintro e w1 ⟨rfl, k1⟩; have bx := blk_kept k1 (fun h => h) (blk_new w _); have x0 : w1.cell? ⟨w.heap.size, 0, none⟩ = some (.int .u64 gen) := blk_cell bx; have x1 : w1.cell? ⟨w.heap.size, 1, none⟩ = some (.int .i64 root) := blk_cell bx; have x2 : w1.cell? ⟨w.heap.size, 2, none⟩ = some (.int .i64 sector) := blk_cell bx; have x3 : w1.cell? ⟨w.heap.size, 3, none⟩ = some (.int .i64 sectors) := blk_cell bx; have x4 : w1.cell? ⟨w.heap.size, 4, none⟩ = some (.int .i64 journal) := blk_cell bx; have x5 : w1.cell? ⟨w.heap.size, 5, none⟩ = some (.int .i64 pack) := blk_cell bx; have x6 : w1.cell? ⟨w.heap.size, 6, none⟩ = some (.int .i64 cmin) := blk_cell bx; have x7 : w1.cell? ⟨w.heap.size, 7, none⟩ = some (.int .i64 cnorm) := blk_cell bx; have x8 : w1.cell? ⟨w.heap.size, 8, none⟩ = some (.int .i64 cmax) := blk_cell bx; have x9 : w1.cell? ⟨w.heap.size, 9, none⟩ = some (.int .u64 seed) := blk_cell bx; have x10 : w1.cell? ⟨w.heap.size, 10, none⟩ = some (.int .i64 nbits) := blk_cell bx; have x11 : w1.cell? ⟨w.heap.size, 11, none⟩ = some (.bool dd) := blk_cell bx; have K1 : Same w w1 := Kept.trans (same_alloc _ _) k1; have BX := hidden bx; clear bx k1)
    | (go_at_call 25; have _t := tok; refine (A1.out _).mono ?_; rintro e w2 ⟨rfl, k2⟩; have bx := blk_kept k2 (fun h => h) BX.out; have x0 : w2.cell? ⟨w.heap.size, 0, none⟩ = some (.int .u64 gen) := blk_cell bx; have x1 : w2.cell? ⟨w.heap.size, 1, none⟩ = some (.int .i64 root) := blk_cell bx; have x2 : w2.cell? ⟨w.heap.size, 2, none⟩ = some (.int .i64 sector) := blk_cell bx; have x3 : w2.cell? ⟨w.heap.size, 3, none⟩ = some (.int .i64 sectors) := blk_cell bx; have x4 : w2.cell? ⟨w.heap.size, 4, none⟩ = some (.int .i64 journal) := blk_cell bx; have x5 : w2.cell? ⟨w.heap.size, 5, none⟩ = some (.int .i64 pack) := blk_cell bx; have x6 : w2.cell? ⟨w.heap.size, 6, none⟩ = some (.int .i64 cmin) := blk_cell bx; have x7 : w2.cell? ⟨w.heap.size, 7, none⟩ = some (.int .i64 cnorm) := blk_cell bx; have x8 : w2.cell? ⟨w.heap.size, 8, none⟩ = some (.int .i64 cmax) := blk_cell bx; have x9 : w2.cell? ⟨w.heap.size, 9, none⟩ = some (.int .u64 seed) := blk_cell bx; have x10 : w2.cell? ⟨w.heap.size, 10, none⟩ = some (.int .i64 nbits) := blk_cell bx; have x11 : w2.cell? ⟨w.heap.size, 11, none⟩ = some (.bool dd) := blk_cell bx; have K2 : Same w w2 := Kept.trans K1 k2; have BX := hidden bx; clear bx k2 tok)
    | (go_at_call 25; refine (A2.out _).mono ?_; rintro e w3 ⟨rfl, k3⟩; have bx := blk_kept k3 (fun h => h) (blk_alloc BX.out _); have K3 : Same w w3 := Kept.trans (Kept.alloc K2 _) k3; have BX := hidden bx; clear bx k3)
    | (go_at_call 29; refine (TO.out.ref _ K3).mono ?_; rintro e w4 ⟨rfl, k4⟩; have bx := blk_kept k4 (fun h => h) BX.out; have x0 : ∀ o, (w4.alloc o).cell? ⟨w.heap.size, 0, none⟩ = some (.int .u64 gen) := (fun o => blk_cell (blk_alloc bx o)); have x1 : ∀ o, (w4.alloc o).cell? ⟨w.heap.size, 1, none⟩ = some (.int .i64 root) := (fun o => blk_cell (blk_alloc bx o)); have x2 : ∀ o, (w4.alloc o).cell? ⟨w.heap.size, 2, none⟩ = some (.int .i64 sector) := (fun o => blk_cell (blk_alloc bx o)); have x3 : ∀ o, (w4.alloc o).cell? ⟨w.heap.size, 3, none⟩ = some (.int .i64 sectors) := (fun o => blk_cell (blk_alloc bx o)); have x4 : ∀ o, (w4.alloc o).cell? ⟨w.heap.size, 4, none⟩ = some (.int .i64 journal) := (fun o => blk_cell (blk_alloc bx o)); have x5 : ∀ o, (w4.alloc o).cell? ⟨w.heap.size, 5, none⟩ = some (.int .i64 pack) := (fun o => blk_cell (blk_alloc bx o)); have x6 : ∀ o, (w4.alloc o).cell? ⟨w.heap.size, 6, none⟩ = some (.int .i64 cmin) := (fun o => blk_cell (blk_alloc bx o)); have x7 : ∀ o, (w4.alloc o).cell? ⟨w.heap.size, 7, none⟩ = some (.int .i64 cnorm) := (fun o => blk_cell (blk_alloc bx o)); have x8 : ∀ o, (w4.alloc o).cell? ⟨w.heap.size, 8, none⟩ = some (.int .i64 cmax) := (fun o => blk_cell (blk_alloc bx o)); have x9 : ∀ o, (w4.alloc o).cell? ⟨w.heap.size, 9, none⟩ = some (.int .u64 seed) := (fun o => blk_cell (blk_alloc bx o)); have x10 : ∀ o, (w4.alloc o).cell? ⟨w.heap.size, 10, none⟩ = some (.int .i64 nbits) := (fun o => blk_cell (blk_alloc bx o)); have x11 : ∀ o, (w4.alloc o).cell? ⟨w.heap.size, 11, none⟩ = some (.bool dd) := (fun o => blk_cell (blk_alloc bx o)); have K4 : Same w w4 := Kept.trans K3 k4; clear bx k4))
  go_returns
  exact ⟨rfl, Kept.alloc K4 _⟩
theorem sup_next {gen root sector sectors journal pack cmin cnorm cmax seed nbits : Nat} {dd : Bool} {rt : Int} (hX : Sup gen root sector sectors journal pack cmin cnorm cmax seed nbits dd) (hg : gen < 18446744073709551615) (h : supErr sectors journal rt (Shp sector sectors journal pack cmin cnorm cmax nbits) = 0) : ∃ r : Nat, rt = r ∧ Sup (gen + 1) r sector sectors journal pack cmin cnorm cmax seed nbits dd := by
  have hr : 0 ≤ rt := by
    apply Classical.byContradiction
    intro hn
    unfold supErr at h
    rw [if_pos hX.shp, if_pos ⟨by omega, by unfold kindOf; rw [if_pos (by omega)]; decide⟩] at h
    cases h
  obtain ⟨r, rfl⟩ := Int.eq_ofNat_of_zero_le hr
  exact ⟨r, rfl, by omega, hX.s, hX.shp, h⟩
theorem one_walk (gen : Nat) (root : Int) (sector sectors journal pack cmin cnorm cmax : Int) (seed : Nat) (nbits : Int) (dd : Bool) (rt : Int) (v : Value) (l : List UInt8) (w : World) (hg : gen < 18446744073709551616) (hseed : seed < 18446744073709551616) (h1 : -9223372036854775808 ≤ rt) (h2 : rt ≤ 9223372036854775807) (hb : Byt w v l) (hl : l.length ≤ 140737488351232) (hT : Tab w) :
    Calls Tryd.prog 9 #[.agg #[.int .u64 gen, .int .i64 root, .int .i64 sector, .int .i64 sectors, .int .i64 journal, .int .i64 pack, .int .i64 cmin, .int .i64 cnorm, .int .i64 cmax, .int .u64 seed, .int .i64 nbits, .bool dd], .int .i64 rt, v] w fun e w' => e = .returned (.bool true) ∧ Same w w' := by
  by_cases h : supErr sectors journal root (Shp sector sectors journal pack cmin cnorm cmax nbits) = 0
  · obtain ⟨root, sector, sectors, journal, pack, cmin, cnorm, cmax, nbits, rfl, rfl, rfl, rfl, rfl, rfl, rfl, rfl, rfl, hX⟩ := sup_nat (dd := dd) hg hseed h
    by_cases hmax : gen = 18446744073709551615
    · exact one_last gen root rt sector sectors journal pack cmin cnorm cmax seed nbits dd v w hX hmax hT
    · have hg' : gen < 18446744073709551615 := by omega
      by_cases hy : supErr sectors journal rt (Shp sector sectors journal pack cmin cnorm cmax nbits) = 0
      · obtain ⟨r, rfl, hY⟩ := sup_next hX hg' hy
        obtain ⟨dO, tO⟩ := tells_any hb (by omega)
        by_cases ho : dO.e = 0 ∧ gen < dO.gen
        · exact one_greater gen root r sector sectors journal pack cmin cnorm cmax seed nbits dd v w dO hX hY hg' tO (by simpa using ho.1) (by omega) hT
        · have ho' : (dO.e == 0) = false ∨ (dO.e == 0) = true ∧ ¬ (gen : Int) < dO.gen := by
            by_cases he : dO.e = 0
            · exact Or.inr ⟨by simpa using he, fun hlt => ho ⟨he, by omega⟩⟩
            · exact Or.inl (by simpa using he)
          rcases Nat.mod_two_eq_zero_or_one gen with hp | hp
          · exact one_even gen root r sector sectors journal pack cmin cnorm cmax seed nbits dd v l dO w hX hY hg' hb tO ho' hp hT
          · exact one_odd gen root r sector sectors journal pack cmin cnorm cmax seed nbits dd v l dO w hX hY hg' hb tO ho' hp hT
      · exact one_no_next gen root rt sector sectors journal pack cmin cnorm cmax seed nbits dd v w hX hg' _ rfl hy hT
  · exact one_refused gen root sector sectors journal pack cmin cnorm cmax seed nbits dd rt v w _ rfl h hT
end Go.Proofs.YtlilgfcacoooaaaDoor
namespace Go.Proofs.YtlilgfcacoooaaaDoor.LayoutOneOrOther
open Go.ChangeShapes Go.WideShapes Go.ChangeAt Go.RowKit Go.Joins Go.ChangeMaps
set_option maxRecDepth 100000 in
theorem contract (H : Type) (enc : TypeId × Value → H) (W : World) (base : Nat) (args : Array Value) (ds gs : List (DataW H)) (before : List MemPlace)
    (hval : ∀ (j : Nat) t v, Tryd.f9.params[j]? = some t → args[j]? = some v → Value.okWide Tryd.prog W .any base t v)
    (hW : DataW.Whole enc Tryd.prog Tryd.f9.params.toList Rows.layoutOneOrOtherSpec.vars false W args.toList ds gs before)
    (hsz : (DataW.weightsEach Tryd.prog (Tryd.f9.params.toList ++ (OpenSpec.ofChange Rows.layoutOneOrOtherSpec).bare.plain.varTypes Tryd.prog) (ds ++ gs)).all (· ≤ reachBytes) = true)
    (hL : laidMetH Tryd.prog Rows.layoutOneOrOtherRow.laid W) :
    Calls Tryd.prog 9 args W fun e W' => ∃ v, e = .returned v ∧ Rows.layoutOneOrOtherSpec.post enc Tryd.prog Tryd.f9 false true false false W args v W' := by
  have hW' := hW
  obtain ⟨p, q, hA0, hV, rfl, hfz, hnd⟩ := hW
  have hA : DataW.TrodAll enc Tryd.prog W 0 (fun _ => true) true Tryd.f9.params.toList args.toList ds p := hA0
  rw [Tryd.params9] at hA hval hsz
  obtain ⟨v0, vs0, d0, ds0, p0, q0, hargs, rfl, rfl, h0, r0⟩ := trodAll_cons hA
  obtain ⟨v1, vs1, d1, ds1, p1, q1, rfl, rfl, rfl, h1, r1⟩ := trodAll_cons r0
  obtain ⟨v2, vs2, d2, ds2, p2, q2, rfl, rfl, rfl, h2, r2⟩ := trodAll_cons r1
  obtain ⟨rfl, rfl, rfl⟩ := trodAll_nil r2
  obtain rfl : args = #[v0, v1, v2] := by cases args; simp_all
  obtain ⟨rfl, rfl⟩ := trodVars_none hV
  obtain ⟨gen, root, sector, sectors, journal, pack, cmin, cnorm, cmax, seed, nbits, dd, rfl, b_gen, b_seed⟩ := super_open (hval 0 37 v0 rfl rfl) h0
  obtain ⟨rt, rfl, rfl, rfl, w_rt⟩ := open_int Tryd.underlying3 (hval 1 3 v1 rfl rfl) h1
  have b_rt : -9223372036854775808 ≤ rt ∧ rt ≤ 9223372036854775807 := by simpa [Lit.wf, IntKind.min, IntKind.max, IntKind.signed, IntKind.bits] using w_rt
  obtain ⟨l_old, in_old, sz_old⟩ := bytes_open (hval 2 39 v2 rfl rfl) h2
  refine (one_walk gen root sector sectors journal pack cmin cnorm cmax seed nbits dd rt v2 l_old W b_gen b_seed b_rt.1 b_rt.2 in_old (sz_old _ _ 2 hsz rfl rfl) (tab_laid hL)).mono fun e W' ⟨he, hg⟩ => ?_
  subst he
  exact ⟨_, rfl, law_post laidOut (by rw [Tryd.params9]; decide +kernel) rfl hW' rfl Tryd.underlying4 ⟨rfl, rfl, rfl⟩ (hg.below (Nat.le_refl _) fun _ h => h.elim)⟩
set_option maxRecDepth 100000 in
theorem lifted (os : Os) (started : os.Started) (H : Type) (enc : TypeId × Value → H) (F : Stop.Interp) :
    ReturnsInHanded {} Tryd.checked os 9 .any ((OpenSpec.ofChange Rows.layoutOneOrOtherSpec).preRow enc Tryd.prog Tryd.f9 Rows.layoutOneOrOtherRow.domain false Rows.layoutOneOrOtherRow.laid) (((OpenSpec.ofChange Rows.layoutOneOrOtherSpec).at F).post enc Tryd.prog Tryd.f9 false true false false) := by
  refine returnsInHanded_of_row (C := Tryd.checked) (s := OpenSpec.ofChange Rows.layoutOneOrOtherSpec) own started (by kernel_rfl) Tryd.func9
    (witness_row_at (enc := enc) (C := Tryd.checked) false ({ World.holding Tryd.prog os ⟨#[], #[], []⟩ with heap := (World.holding Tryd.prog os ⟨#[], #[], []⟩).heap.modify tabBlock fun | .cells _ t frozen => .cells (tabInts.map (Value.int .u32)).toArray t frozen | o => o }) #[.agg #[.int .u64 0, .int .i64 0, .int .i64 0, .int .i64 0, .int .i64 0, .int .i64 0, .int .i64 0, .int .i64 0, .int .i64 0, .int .u64 0, .int .i64 0, .bool false], .int .i64 0, .slice none 0 0] rfl (by kernel_rfl) (by kernel_rfl) (by kernel_rfl)
      (OpenSpec.preRow_of_cond (x := ([.agg [.lit (.int .u64 0), .lit (.int .i64 0), .agg [.lit (.int .i64 0), .lit (.int .i64 0), .lit (.int .i64 0), .lit (.int .i64 0), .agg [.lit (.int .i64 0), .lit (.int .i64 0), .lit (.int .i64 0), .lit (.int .u64 0)], .lit (.int .i64 0), .lit (.bool false)]], .lit (.int .i64 0), .nil], [], [])) 8 (by kernel_rfl) (by kernel_rfl) (fun k hk => by cases hk) (by kernel_rfl) (laidMet_of_run' 8 (by kernel_rfl) (by kernel_rfl)))) ?_
  intro W base args ds gs before hval hW _ _ hsz hL _ _
  exact contract H enc W base args ds gs before hval hW hsz hL
theorem said : Rows.LayoutOneOrOtherSaid :=
  OpenClaim.holds_of_cond 9 Tryd.f9 rfl rfl rfl rfl rfl rfl rfl ⟨rfl, rfl, rfl, rfl, rfl⟩ rfl rfl rfl rfl rfl (by kernel_rfl) Tryd.func9 (by kernel_rfl)
    (of_decide_eq_true (by kernel_rfl)) (by unfold Func.isWrapper; first | (rw [if_pos (by decide +kernel)]; kernel_rfl) | (rw [if_neg (by decide +kernel)]; exact ⟨rfl, rfl⟩))
    (fun os started H enc _ F => by rw [OpenClaim.pre_eq_preRow]; exact lifted os started H enc F)
theorem plain (f : FuncId) (fn : Func) (hf : Tryd.pinned.checked.prog.funcNamed Rows.layoutOneOrOtherRow.func = some f) (hfn : Tryd.pinned.checked.prog.funcs[f]? = some fn) :
    false = Tryd.pinned.checked.prog.looks [] ∧ ∀ (j : Nat) t, fn.params[j]? = some t → Tryd.pinned.checked.prog.wantsStandIn t = false := by
  obtain rfl : f = 9 := Option.some.inj ((show Tryd.prog.funcNamed Rows.layoutOneOrOtherRow.func = some 9 by kernel_rfl).symm.trans hf) |>.symm
  obtain rfl : fn = Tryd.f9 := (Option.some.inj (Tryd.func9.symm.trans hfn)).symm
  refine ⟨by kernel_rfl, fun j t ht => ?_⟩
  rw [Tryd.params9] at ht
  have hm : t ∈ [37, 3, 39] := by simpa using Array.mem_of_getElem? ht
  have hall : [37, 3, 39].all (fun t => !Tryd.prog.wantsStandIn t) = true := by kernel_rfl
  have h1 := List.all_eq_true.1 hall t hm
  have h2 : Tryd.prog.wantsStandIn t = false := by simpa using h1
  exact h2
theorem card : Rows.LayoutOneOrOtherCardSaid :=
  Claim7.holds_tied_plain_at .later [] _ _ _ _ said (fun _ h => by cases h) (by kernel_rfl) (fun _ h => by cases h) layoutOneOrOther_row_tie rfl ⟨rfl, rfl⟩ (by kernel_rfl) rfl plain (by kernel_rfl)
end Go.Proofs.YtlilgfcacoooaaaDoor.LayoutOneOrOther
namespace Go.Proofs.YtlilgfcacoooaaaDoor
theorem layoutOneOrOther_card : Rows.LayoutOneOrOtherCardSaid := LayoutOneOrOther.card
end Go.Proofs.YtlilgfcacoooaaaDoor
