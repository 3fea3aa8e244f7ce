/- A map in memory: Put, At; of a nil one. -/
import Derived.Test.YtelngbkbdihdnaaM6
namespace Go.Proofs.Ytelngbkbdihdnaa
open Go.RowKit
set_option linter.unusedVariables false
set_option maxHeartbeats 2000000 in
set_option maxRecDepth 100000 in
theorem put_any {B g : Nat} {l : List Kv} {w : World} (h : MP B g l w) (k : ByteArray) (x : Int) (hl : l.length ≤ 562949953421312) :
    Calls Try.prog 24 #[.pointer (some ⟨g, 0, none⟩), .string k, .int .i64 x] w fun e w' => e = .returned (.tuple #[.int .i64 ((lk k l).getD 0), .bool (lk k l).isSome]) ∧ MP B g (insL k x l) w' ∧ Kept (fun i => i = g) w w' := by
  have HG := hidden (get_any h k)
  obtain ⟨v, t, h1, h2, h3⟩ := h.ex
  obtain ⟨p, rfl⟩ := h2.ptr
  have HW := hidden (with_any k x t (.pointer p) w h2 (by rw [h3]; exact h.st) (by rw [← T.list_len, h3]; exact hl))
  have c0 : w.cell? ⟨g, 0, none⟩ = some (.pointer p) := blk_cell h1
  have H1 := hidden h1
  have H3 := hidden h3
  have HST := hidden h.st
  have hlg := h.lg
  clear h h1 h2 h3
  generalize (lk k l).getD 0 = y at *
  generalize (lk k l).isSome = b at *
  go_enter Try.func24, Try.ntmps24
  go_wp2_with (first
    | (go_at_call 30; go_must (refine (HG.out).mono ?_; rintro e w1 ⟨rfl, rfl⟩))
    | (go_at_call 49; go_must (refine (HW.out).mono ?_; rintro e w1 ⟨v1, t1, rfl, hv1, hl1, k1⟩; obtain ⟨p1, rfl⟩ := hv1.ptr; have b1 := blk_kept k1 (fun h => h) H1.out; have x0 : w1.cell? ⟨g, 0, none⟩ = some (.pointer p) := blk_cell b1; have y0 : w1.frozen? ⟨g, 0, none⟩ = false := blk_free b1; have V1 := hidden hv1; have L1 := hidden hl1; have K1 := hidden k1; have B1 := hidden b1; clear hv1 hl1 k1 b1)))
  go_returns
  have kk : Kept (fun i => i = g) w1 (w1.setCell ⟨g, 0, none⟩ (.pointer p1)) := (Kept.refl (fun i => i = g) w1).setCell (p := ⟨g, 0, none⟩) rfl _
  refine ⟨rfl, ⟨⟨.pointer p1, t1, blk_set (j := 0) B1.out _, V1.out.kept kk (fun i cs hi e => ?_), by rw [L1.out, H3.out]⟩, HST.out.ins k x, hlg⟩, (K1.out.mono (fun _ _ h => h.elim)).trans kk⟩
  rw [e, B1.out] at hi
  simp at hi
set_option maxHeartbeats 2000000 in
set_option maxRecDepth 100000 in
theorem putNil (k : ByteArray) (x : Int) (w : World) :
    Calls Try.prog 24 #[.pointer none, .string k, .int .i64 x] w fun e w' => e = .returned (.tuple #[.int .i64 0, .bool false]) ∧ w = w' := by
  go_enter Try.func24, Try.ntmps24
  go_wp2_with (go_at_call 30; go_must (refine (getNil _ _).mono ?_; rintro e w1 ⟨rfl, rfl⟩))
  go_returns
  exact ⟨rfl, rfl⟩
set_option maxHeartbeats 2000000 in
set_option maxRecDepth 100000 in
theorem atM_any {B g : Nat} {l : List Kv} {w : World} (h : MP B g l w) (i : Nat) (a : ByteArray) (y : Int) (hi : l[i]? = some (a, y)) (hl : l.length ≤ 562949953421312) :
    Calls Try.prog 29 #[.pointer (some ⟨g, 0, none⟩), .int .i64 i] w fun e w' => e = .returned (.tuple #[It a y, .bool true]) ∧ Same w w' := by
  have HL : Hid (∀ o, Calls Try.prog 27 #[.pointer (some ⟨g, 0, none⟩)] (w.alloc o) fun e w' => e = .returned (.int .i64 l.length) ∧ w.alloc o = w') := fun o => lenM_any (h.same (same_alloc w o))
  obtain ⟨v, t, h1, h2, h3⟩ := h.ex
  obtain ⟨p, rfl⟩ := h2.ptr
  subst h3
  have HA : Hid (∀ o, Calls Try.prog 59 #[.pointer p, .int .i64 i] (w.alloc o) fun e w' => e = .returned (It a y) ∧ Same (w.alloc o) w') := fun o => at_any i a y (h2.same (same_alloc w o)) hi (by rw [← T.list_len]; omega)
  have c0 : ∀ o, (w.alloc o).cell? ⟨g, 0, none⟩ = some (.pointer p) := fun o => blk_cell (blk_alloc h1 o)
  have hil : i < t.list.length := (List.getElem?_eq_some_iff.1 hi).1
  have q1 : ¬ (i : Int) < 0 := by omega
  have q2 : ¬ (t.list.length : Int) ≤ (i : Int) := by omega
  have q3 : (i : Int) < (t.list.length : Int) := by omega
  clear h h1 h2 hi
  generalize t.list.length = n at *
  go_enter Try.func29, Try.ntmps29
  go_wp2_with (first
    | (go_at_call 27; go_must (refine (HL.out _).mono ?_; rintro e w1 ⟨rfl, rfl⟩))
    | (go_at_call 59; go_must (refine (HA.out _).mono ?_; rintro e w1 ⟨rfl, k1⟩; have b1 := blk_kept k1 (fun h => h) (heap_alloc_new w _); have x0 : w1.cell? ⟨w.heap.size, 0, none⟩ = some _ := blk_cell b1; have x1 : w1.cell? ⟨w.heap.size, 1, none⟩ = some _ := blk_cell b1; have y0 : w1.frozen? ⟨w.heap.size, 0, none⟩ = false := blk_free b1; have y1 : w1.frozen? ⟨w.heap.size, 1, none⟩ = false := blk_free b1; have K1 := hidden (Kept.trans (same_alloc w _) k1))))
  exact bodyPost_ret (v := .tuple #[It a y, .bool true]) (by simp [results, Try.results29, go_sem, x0, x1]) rfl ⟨rfl, (K1.out.setNew (p := ⟨w.heap.size, 0, none⟩) (Nat.le_refl _) _).setNew (p := ⟨w.heap.size, 1, none⟩) (Nat.le_refl _) _⟩
set_option maxHeartbeats 2000000 in
set_option maxRecDepth 100000 in
theorem atNil (w : World) : Calls Try.prog 29 #[.pointer none, .int .i64 0] w fun e w' => e = .returned (.tuple #[It ByteArray.empty 0, .bool false]) ∧ Same w w' := by
  go_enter Try.func29, Try.ntmps29
  go_wp2_with (go_at_call 27; go_must (refine (lenNil _).mono ?_; rintro e w1 ⟨rfl, rfl⟩))
  exact bodyPost_ret (v := .tuple #[It ByteArray.empty 0, .bool false]) (by simp [results, Try.results29, go_sem]; rfl) rfl ⟨rfl, same_alloc w _⟩
end Go.Proofs.Ytelngbkbdihdnaa
