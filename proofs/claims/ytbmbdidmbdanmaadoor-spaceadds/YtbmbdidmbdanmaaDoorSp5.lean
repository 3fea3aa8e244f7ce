/- A Space's Left, New, and or, taken. -/
import Derived.Test.YtbmbdidmbdanmaaDoorSp4
import Derived.Test.YtbmbdidmbdanmaaDoorQuietS
namespace Go.Proofs.YtbmbdidmbdanmaaDoor
open Go.RowKit
set_option linter.unusedVariables false

set_option maxHeartbeats 1000000 in
set_option maxRecDepth 100000 in
theorem sp_left (g first count : Nat) (u v : Nat → Bool) (res : Nat) (w : World) (h : SpAt g first count u v res w) :
    Calls Tryd.prog 25 #[.pointer (some ⟨g, 0, none⟩)] w fun r w' => r = .returned (.int .i64 ((count : Int) - (cnt u 4096 : Nat) - (cnt v 4096 : Nat) - res)) ∧ Same w w' := by
  obtain ⟨cs, hb, hsz, q0, q1, hu, hv, q2⟩ := h.box
  have A := hidden (sp_made g first count u v res w h)
  have B := hidden (fun n => bm_ones g 2 _ cs u (w.drewN n) (blk_kept ((Kept.refl (fun _ => False) w).drewN n) (fun h => h) hb) hu)
  have C := hidden (fun n => bm_ones g 66 _ cs v (w.drewN n) (blk_kept ((Kept.refl (fun _ => False) w).drewN n) (fun h => h) hb) hv)
  have c1 : w.cell? ⟨g, 1, none⟩ = some (.int .i64 count) := (blk_cell hb).trans q1
  have c2 : w.cell? ⟨g, 130, none⟩ = some (.int .i64 res) := (blk_cell hb).trans q2
  have l1 := cnt_le u 4096
  have l2 := cnt_le v 4096
  have l3 := h.fits
  generalize cnt u 4096 = x at *
  generalize cnt v 4096 = y at *
  clear hb h hu hv q0 q1 q2
  have m1 : IntKind.i64.wrap ((count : Int) - (x : Int)) = (count : Int) - (x : Int) := by rw [IntKind.wrap_i64]; omega
  have m2 : IntKind.i64.wrap ((count : Int) - (x : Int) - (y : Int)) = (count : Int) - (x : Int) - (y : Int) := by rw [IntKind.wrap_i64]; omega
  have m3 : IntKind.i64.wrap ((count : Int) - (x : Int) - (y : Int) - (res : Int)) = (count : Int) - (x : Int) - (y : Int) - (res : Int) := by rw [IntKind.wrap_i64]; omega
  go_enter Tryd.func25, Tryd.ntmps25
  go_wp2_with (go_at_call 44; refine A.out.mono ?_; rintro e w1 ⟨rfl, rfl⟩)
  go_quiet (first
    | (go_at_call_of 47 (Value.pointer (some ⟨g, 2, none⟩)); exact Calls.quiet_of_same ((B.out _).mono fun _ _ ⟨a, b⟩ => ⟨a, b.symm⟩))
    | (go_at_call 47; exact Calls.quiet_of_same ((C.out _).mono fun _ _ ⟨a, b⟩ => ⟨a, b.symm⟩)))
  go_wp2
  go_returns
  exact ⟨rfl, (Kept.refl _ _).drewN _⟩
/-- A new Space's cells. -/
theorem zc_size : Tryd.zeroCells55.size = 131 := by kernel_rfl
def isU0 (o : Option Value) : Bool := match o with
  | some (.int .u64 n) => n == 0
  | _ => false
theorem isU0_eq {o : Option Value} (h : isU0 o = true) : o = some (.int .u64 (0 : Nat)) := by
  unfold isU0 at h
  split at h
  · rename_i n; simp at h; rw [h]; rfl
  · simp at h
theorem zc_used (k : Nat) (hk : k < 64) : Tryd.zeroCells55[2 + k]? = some (.int .u64 (0 : Nat)) :=
  isU0_eq (List.all_eq_true.1 (show (List.range 64).all (fun k => isU0 Tryd.zeroCells55[2 + k]?) = true by kernel_rfl) k (List.mem_range.2 hk))
theorem zc_wait (k : Nat) (hk : k < 64) : Tryd.zeroCells55[66 + k]? = some (.int .u64 (0 : Nat)) :=
  isU0_eq (List.all_eq_true.1 (show (List.range 64).all (fun k => isU0 Tryd.zeroCells55[66 + k]?) = true by kernel_rfl) k (List.mem_range.2 hk))
theorem zc_res : Tryd.zeroCells55[130]? = some (.int .i64 (0 : Nat)) := by kernel_rfl
set_option maxHeartbeats 1000000 in
set_option maxRecDepth 100000 in
theorem sp_new (first count : Nat) (w : World) (h1 : 1 ≤ count) (h2 : first + count ≤ 4096) :
    Calls Tryd.prog 30 #[.int .i64 first, .int .i64 count] w fun r w' => ∃ g, r = .returned (.tuple #[.pointer (some ⟨g, 0, none⟩), .int .i64 0]) ∧ w.heap.size ≤ g ∧ Same w w' ∧ SpAt g first count (fun _ => false) (fun _ => false) 0 w' := by
  go_enter Tryd.func30, Tryd.ntmps30
  go_wp2
  go_returns
  refine ⟨w.heap.size, rfl, Nat.le_refl _, same_alloc _ _, ⟨_, blk_new _ _, ?_, ?_, ?_, ?_, ?_, ?_⟩, ⟨h1, h2, by omega⟩, fun _ _ _ => rfl, fun _ _ _ => rfl⟩
  · simp
  · simp
  · simp
  · exact ⟨fun k hk => ⟨0, by rw [Array.getElem?_setIfInBounds, if_neg (by omega), Array.getElem?_setIfInBounds, if_neg (by omega)]; exact zc_used k hk, by decide, fun j _ => by simp⟩⟩
  · exact ⟨fun k hk => ⟨0, by rw [Array.getElem?_setIfInBounds, if_neg (by omega), Array.getElem?_setIfInBounds, if_neg (by omega)]; exact zc_wait k hk, by decide, fun j _ => by simp⟩⟩
  · rw [Array.getElem?_setIfInBounds, if_neg (by omega), Array.getElem?_setIfInBounds, if_neg (by omega)]
    exact zc_res
end Go.Proofs.YtbmbdidmbdanmaaDoor
