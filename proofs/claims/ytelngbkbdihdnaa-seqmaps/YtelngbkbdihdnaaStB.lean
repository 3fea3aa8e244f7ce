/- The law's step: Len, Rank, All, nothing. (Made by mkstep.py.) -/
import Derived.Test.YtelngbkbdihdnaaStA
import Derived.Test.YtelngbkbdihdnaaGoes
import Derived.Test.YtelngbkbdihdnaaM12
namespace Go.Proofs.Ytelngbkbdihdnaa
open Go.RowKit
set_option linter.unusedVariables false
set_option maxHeartbeats 1000000 in
set_option maxRecDepth 100000 in
theorem step_len {B g : Nat} {l : List Kv} {v : Value} {w : World} (hm : MP B g l w) (h : ItR 0 w v l) (hl : (l.length + 2) * 24 ≤ 140737488355328) (key to : ByteArray) (N : Int) :
    Calls Try.prog 26 #[.pointer (some ⟨g, 0, none⟩), v, .agg #[.int .i64 3, .string key, .string to, .int .i64 N]] w fun e w' => ∃ u l', e = .returned (.tuple #[u, .bool true]) ∧ StT B g l.length w u l' w' := by
  have HM : Hid (∀ W, Same w W → MP B g l W) := fun W kk => hm.same kk
  have HR : Hid (∀ W, Same w W → ItR 0 W v l) := fun W kk => h.same kk
  have HS := hidden hm.st
  have hgl : g < w.heap.size := hm.lt
  obtain ⟨a0, c0, rfl, hc0, hb⟩ := h.form
  have HB := hidden hb

  have HF : Hid (∀ W, Same w W → Calls Try.prog 40 #[.slice a0 l.length c0, .string key] W fun e w' => e = .returned (.tuple #[.int .i64 (rkL key l), .bool (lk key l).isSome]) ∧ Same W w') := fun W kk => findD_any key (HR.out W kk).its HS.out (by omega)
  clear h hb hm
  have hl2 : l.length ≤ 562949953421312 := by omega
  have HL2 := hidden hl2
  clear hl2
  generalize hbo : (lk key l).isSome = bo at HF
  go_enter Try.func26, Try.ntmps26
  go_wp2_with (first
    | (go_at_call 40; go_must (refine (HF.out _ (same_alloc w _)).mono ?_; rintro e w1 ⟨rfl, k1⟩; have b1 := blk_kept k1 (fun h => h) (heap_alloc_new w _); have x0 : w1.cell? ⟨w.heap.size, 0, none⟩ = some (.int .i64 3) := blk_cell b1; have x1 : w1.cell? ⟨w.heap.size, 1, none⟩ = some (.string key) := blk_cell b1; have x2 : w1.cell? ⟨w.heap.size, 2, none⟩ = some (.string to) := blk_cell b1; have x3 : w1.cell? ⟨w.heap.size, 3, none⟩ = some (.int .i64 N) := blk_cell b1; have K1 := hidden (Kept.trans (same_alloc w _) k1); clear k1 b1))
    | (go_at_call 27; go_must (refine (lenM_any (HM.out _ K1.out)).mono ?_; rintro e w2 ⟨rfl, rfl⟩)))

  go_returns
  exact ⟨_, l, by first | rfl | simp, StT.still (HM.out w (Kept.refl _ _)) (HR.out w (Kept.refl _ _)) (K1.out)⟩
set_option maxHeartbeats 1000000 in
set_option maxRecDepth 100000 in
theorem step_rank {B g : Nat} {l : List Kv} {v : Value} {w : World} (hm : MP B g l w) (h : ItR 0 w v l) (hl : (l.length + 2) * 24 ≤ 140737488355328) (key to : ByteArray) (N : Int) :
    Calls Try.prog 26 #[.pointer (some ⟨g, 0, none⟩), v, .agg #[.int .i64 5, .string key, .string to, .int .i64 N]] w fun e w' => ∃ u l', e = .returned (.tuple #[u, .bool true]) ∧ StT B g l.length w u l' w' := by
  have HM : Hid (∀ W, Same w W → MP B g l W) := fun W kk => hm.same kk
  have HR : Hid (∀ W, Same w W → ItR 0 W v l) := fun W kk => h.same kk
  have HS := hidden hm.st
  have hgl : g < w.heap.size := hm.lt
  obtain ⟨a0, c0, rfl, hc0, hb⟩ := h.form
  have HB := hidden hb

  have HF : Hid (∀ W, Same w W → Calls Try.prog 40 #[.slice a0 l.length c0, .string key] W fun e w' => e = .returned (.tuple #[.int .i64 (rkL key l), .bool (lk key l).isSome]) ∧ Same W w') := fun W kk => findD_any key (HR.out W kk).its HS.out (by omega)
  clear h hb hm
  have hl2 : l.length ≤ 562949953421312 := by omega
  have HL2 := hidden hl2
  clear hl2
  generalize hbo : (lk key l).isSome = bo at HF
  go_enter Try.func26, Try.ntmps26
  go_wp2_with (first
    | (go_at_call 40; go_must (refine (HF.out _ (same_alloc w _)).mono ?_; rintro e w1 ⟨rfl, k1⟩; have b1 := blk_kept k1 (fun h => h) (heap_alloc_new w _); have x0 : w1.cell? ⟨w.heap.size, 0, none⟩ = some (.int .i64 5) := blk_cell b1; have x1 : w1.cell? ⟨w.heap.size, 1, none⟩ = some (.string key) := blk_cell b1; have x2 : w1.cell? ⟨w.heap.size, 2, none⟩ = some (.string to) := blk_cell b1; have x3 : w1.cell? ⟨w.heap.size, 3, none⟩ = some (.int .i64 N) := blk_cell b1; have K1 := hidden (Kept.trans (same_alloc w _) k1); clear k1 b1))
    | (go_at_call 31; go_must (refine (rankM_any (HM.out _ K1.out) key HL2.out).mono ?_; rintro e w2 ⟨rfl, rfl⟩)))

  go_returns
  exact ⟨_, l, by first | rfl | simp, StT.still (HM.out w (Kept.refl _ _)) (HR.out w (Kept.refl _ _)) (K1.out)⟩
set_option maxHeartbeats 1000000 in
set_option maxRecDepth 100000 in
theorem step_all {B g : Nat} {l : List Kv} {v : Value} {w : World} (hm : MP B g l w) (h : ItR 0 w v l) (hl : (l.length + 2) * 24 ≤ 140737488355328) (key to : ByteArray) (N : Int) :
    Calls Try.prog 26 #[.pointer (some ⟨g, 0, none⟩), v, .agg #[.int .i64 7, .string key, .string to, .int .i64 N]] w fun e w' => ∃ u l', e = .returned (.tuple #[u, .bool true]) ∧ StT B g l.length w u l' w' := by
  have HM : Hid (∀ W, Same w W → MP B g l W) := fun W kk => hm.same kk
  have HR : Hid (∀ W, Same w W → ItR 0 W v l) := fun W kk => h.same kk
  have HS := hidden hm.st
  have hgl : g < w.heap.size := hm.lt
  obtain ⟨a0, c0, rfl, hc0, hb⟩ := h.form
  have HB := hidden hb

  have HF : Hid (∀ W, Same w W → Calls Try.prog 40 #[.slice a0 l.length c0, .string key] W fun e w' => e = .returned (.tuple #[.int .i64 (rkL key l), .bool (lk key l).isSome]) ∧ Same W w') := fun W kk => findD_any key (HR.out W kk).its HS.out (by omega)
  clear h hb hm
  have hl2 : l.length ≤ 562949953421312 := by omega
  have HL2 := hidden hl2
  clear hl2
  generalize hbo : (lk key l).isSome = bo at HF
  go_enter Try.func26, Try.ntmps26
  go_wp2_with (first
    | (go_at_call 40; go_must (refine (HF.out _ (same_alloc w _)).mono ?_; rintro e w1 ⟨rfl, k1⟩; have b1 := blk_kept k1 (fun h => h) (heap_alloc_new w _); have x0 : w1.cell? ⟨w.heap.size, 0, none⟩ = some (.int .i64 7) := blk_cell b1; have x1 : w1.cell? ⟨w.heap.size, 1, none⟩ = some (.string key) := blk_cell b1; have x2 : w1.cell? ⟨w.heap.size, 2, none⟩ = some (.string to) := blk_cell b1; have x3 : w1.cell? ⟨w.heap.size, 3, none⟩ = some (.int .i64 N) := blk_cell b1; have K1 := hidden (Kept.trans (same_alloc w _) k1); clear k1 b1))
    | (go_at_call 53; go_must (refine (goes_all _ _ N (HM.out _ K1.out) (HR.out _ K1.out) (by omega)).mono ?_; rintro e w2 ⟨rfl, k2⟩)))

  go_returns
  exact ⟨_, l, by first | rfl | simp, StT.still (HM.out w (Kept.refl _ _)) (HR.out w (Kept.refl _ _)) (K1.out.trans k2)⟩
set_option maxHeartbeats 1000000 in
set_option maxRecDepth 100000 in
theorem step_other {B g : Nat} {l : List Kv} {v : Value} {w : World} (hm : MP B g l w) (h : ItR 0 w v l) (hl : (l.length + 2) * 24 ≤ 140737488355328) (kd : Int) (key to : ByteArray) (N : Int) (h0 : kd ≠ 0) (h1 : kd ≠ 1) (h2 : kd ≠ 2) (h3 : kd ≠ 3) (h4 : kd ≠ 4) (h5 : kd ≠ 5) (h6 : kd ≠ 6) (h7 : kd ≠ 7) :
    Calls Try.prog 26 #[.pointer (some ⟨g, 0, none⟩), v, .agg #[.int .i64 kd, .string key, .string to, .int .i64 N]] w fun e w' => ∃ u l', e = .returned (.tuple #[u, .bool true]) ∧ StT B g l.length w u l' w' := by
  have HM : Hid (∀ W, Same w W → MP B g l W) := fun W kk => hm.same kk
  have HR : Hid (∀ W, Same w W → ItR 0 W v l) := fun W kk => h.same kk
  have HS := hidden hm.st
  have hgl : g < w.heap.size := hm.lt
  obtain ⟨a0, c0, rfl, hc0, hb⟩ := h.form
  have HB := hidden hb

  have HF : Hid (∀ W, Same w W → Calls Try.prog 40 #[.slice a0 l.length c0, .string key] W fun e w' => e = .returned (.tuple #[.int .i64 (rkL key l), .bool (lk key l).isSome]) ∧ Same W w') := fun W kk => findD_any key (HR.out W kk).its HS.out (by omega)
  clear h hb hm
  generalize hbo : (lk key l).isSome = bo at HF
  go_enter Try.func26, Try.ntmps26
  go_wp2_with ((go_at_call 40; go_must (refine (HF.out _ (same_alloc w _)).mono ?_; rintro e w1 ⟨rfl, k1⟩; have b1 := blk_kept k1 (fun h => h) (heap_alloc_new w _); have x0 : w1.cell? ⟨w.heap.size, 0, none⟩ = some (.int .i64 kd) := blk_cell b1; have x1 : w1.cell? ⟨w.heap.size, 1, none⟩ = some (.string key) := blk_cell b1; have x2 : w1.cell? ⟨w.heap.size, 2, none⟩ = some (.string to) := blk_cell b1; have x3 : w1.cell? ⟨w.heap.size, 3, none⟩ = some (.int .i64 N) := blk_cell b1; have K1 := hidden (Kept.trans (same_alloc w _) k1); clear k1 b1)))
  go_returns
  exact ⟨_, l, by first | rfl | simp, StT.still (HM.out w (Kept.refl _ _)) (HR.out w (Kept.refl _ _)) (K1.out)⟩
end Go.Proofs.Ytelngbkbdihdnaa
