/- node: the document's Split refused; copies. (Made by mkn52.py.) -/
import Derived.Test.YtpjgghalnkfdkaaDoorN51
import Derived.Test.YtpjgghalnkfdkaaDoorN15
namespace Go.Proofs.YtpjgghalnkfdkaaDoor
open Go.RowKit
set_option linter.unusedVariables false
set_option linter.unusedSimpArgs false
set_option maxHeartbeats 2000000 in
set_option maxRecDepth 100000 in
theorem rsplit_bad (n : Nd) (a1 a2 a3 : Option Addr) (k1 c1 k2 c2 k3 c3 : Nat) (w : World) (r1 : Row w (.slice a1 k1 c1) (TS n.keys)) (r2 : Row w (.slice a2 k2 c2) (TS n.vals)) (r3 : Row w (.slice a3 k3 c3) (IS n.kids)) (hb : n.Bd) (hc : n.chk ≠ 0) :
    Calls Tryd.prog 28 #[.agg #[.bool n.leaf, .slice a1 k1 c1, .slice a2 k2 c2, .slice a3 k3 c3]] w fun e w' => ∃ u, e = .returned u ∧ SpR Nd.zero ⟨#[]⟩ Nd.zero n.chk w u w' := by
  have HCk := hidden (fun W (k : Same w W) => refCheck_any n a1 a2 a3 k1 c1 k2 c2 k3 c3 W (r1.same k) (r2.same k) (r3.same k) hb)
  generalize n.chk = z at *
  have hz : (z == 0) = false := beq_eq_false_iff_ne.2 hc
  have hz2 : (z != 0) = true := by rw [bne_iff_ne]; exact hc
  clear r1 r2 r3 hb
  have bx := blk_alloc (blk_alloc (blk_new w (.cells #[.bool n.leaf, .slice a1 k1 c1, .slice a2 k2 c2, .slice a3 k3 c3] 25)) (.cells #[.bool false, .slice none 0 0, .slice none 0 0, .slice none 0 0] 25)) (.cells #[.bool false, .slice none 0 0, .slice none 0 0, .slice none 0 0] 25)
  have by' := blk_alloc (blk_new (w.alloc (.cells #[.bool n.leaf, .slice a1 k1 c1, .slice a2 k2 c2, .slice a3 k3 c3] 25)) (.cells #[.bool false, .slice none 0 0, .slice none 0 0, .slice none 0 0] 25)) (.cells #[.bool false, .slice none 0 0, .slice none 0 0, .slice none 0 0] 25)
  have bz' := blk_new ((w.alloc (.cells #[.bool n.leaf, .slice a1 k1 c1, .slice a2 k2 c2, .slice a3 k3 c3] 25)).alloc (.cells #[.bool false, .slice none 0 0, .slice none 0 0, .slice none 0 0] 25)) (.cells #[.bool false, .slice none 0 0, .slice none 0 0, .slice none 0 0] 25)
  rw [show (w.alloc (.cells #[.bool n.leaf, .slice a1 k1 c1, .slice a2 k2 c2, .slice a3 k3 c3] 25)).heap.size = w.heap.size + 1 by simp] at by'
  rw [show ((w.alloc (.cells #[.bool n.leaf, .slice a1 k1 c1, .slice a2 k2 c2, .slice a3 k3 c3] 25)).alloc (.cells #[.bool false, .slice none 0 0, .slice none 0 0, .slice none 0 0] 25)).heap.size = w.heap.size + 2 by simp] at bz'
  have K0 := hidden (((same_alloc w (.cells #[.bool n.leaf, .slice a1 k1 c1, .slice a2 k2 c2, .slice a3 k3 c3] 25)).alloc (.cells #[.bool false, .slice none 0 0, .slice none 0 0, .slice none 0 0] 25)).alloc (.cells #[.bool false, .slice none 0 0, .slice none 0 0, .slice none 0 0] 25))
  have zA : (((w.alloc (.cells #[.bool n.leaf, .slice a1 k1 c1, .slice a2 k2 c2, .slice a3 k3 c3] 25)).alloc (.cells #[.bool false, .slice none 0 0, .slice none 0 0, .slice none 0 0] 25)).alloc (.cells #[.bool false, .slice none 0 0, .slice none 0 0, .slice none 0 0] 25)).heap.size = w.heap.size + 3 := by simp
  have BX := hidden bx
  have BY := hidden by'
  have BZ := hidden bz'
  clear bx by' bz'
  go_enter Tryd.func28, Tryd.ntmps28
  go_wp2_with (first
    | (go_at_call 14; refine (HCk.out _ K0.out).mono ?_; rintro e w1 ⟨rfl, q1⟩; have BX1 := hidden (blk_kept q1 (fun h => h) BX.out); have BY1 := hidden (blk_kept q1 (fun h => h) BY.out); have BZ1 := hidden (blk_kept q1 (fun h => h) BZ.out); have K1 := hidden q1; have zK1 := q1.size; have x0 := blk_cell (j := 0) BX1.out; have x1 := blk_cell (j := 1) BX1.out; have x2 := blk_cell (j := 2) BX1.out; have x3 := blk_cell (j := 3) BX1.out; simp at x0 x1 x2 x3; have y0 := blk_cell (j := 0) BY1.out; have y1 := blk_cell (j := 1) BY1.out; have y2 := blk_cell (j := 2) BY1.out; have y3 := blk_cell (j := 3) BY1.out; simp at y0 y1 y2 y3; have z0 := blk_cell (j := 0) BZ1.out; have z1 := blk_cell (j := 1) BZ1.out; have z2 := blk_cell (j := 2) BZ1.out; have z3 := blk_cell (j := 3) BZ1.out; simp at z0 z1 z2 z3; have yf := (fun j => blk_free (j := j) BY1.out); have zf := (fun j => blk_free (j := j) BZ1.out); clear q1))
  have kf := kept_fill8 (W := w1) (g := w.heap.size + 1) (h := w.heap.size + 2) (.bool false) (.slice none 0 0) (.slice none 0 0) (.slice none 0 0) (.bool false) (.slice none 0 0) (.slice none 0 0) (.slice none 0 0)
  have hf := fill8 BY1.out BZ1.out (by omega) (.bool false) (.slice none 0 0) (.slice none 0 0) (.slice none 0 0) (.bool false) (.slice none 0 0) (.slice none 0 0) (.slice none 0 0)
  have kfin : Same w _ := (K0.out.trans K1.out).trans' kf (fun i hi hs => by omega)
  clear kf
  generalize ((((((((w1.setCell ⟨w.heap.size + 1, 0, none⟩ (.bool false)).setCell ⟨w.heap.size + 1, 1, none⟩ (.slice none 0 0)).setCell ⟨w.heap.size + 1, 2, none⟩ (.slice none 0 0)).setCell ⟨w.heap.size + 1, 3, none⟩ (.slice none 0 0)).setCell ⟨w.heap.size + 2, 0, none⟩ (.bool false)).setCell ⟨w.heap.size + 2, 1, none⟩ (.slice none 0 0)).setCell ⟨w.heap.size + 2, 2, none⟩ (.slice none 0 0)).setCell ⟨w.heap.size + 2, 3, none⟩ (.slice none 0 0)) = WF at *
  have s0 := blk_cell (j := 0) hf.1; have s1 := blk_cell (j := 1) hf.1; have s2 := blk_cell (j := 2) hf.1; have s3 := blk_cell (j := 3) hf.1; simp at s0 s1 s2 s3
  have t0 := blk_cell (j := 0) hf.2; have t1 := blk_cell (j := 1) hf.2; have t2 := blk_cell (j := 2) hf.2; have t3 := blk_cell (j := 3) hf.2; simp at t0 t1 t2 t3
  refine bodyPost_ret (v := .tuple #[.agg #[.bool false, .slice none 0 0, .slice none 0 0, .slice none 0 0], .string ⟨#[]⟩, .agg #[.bool false, .slice none 0 0, .slice none 0 0, .slice none 0 0], .int .i64 z]) (by simp [results, Tryd.results28, go_sem, s0, s1, s2, s3, t0, t1, t2, t3]) rfl ⟨_, rfl, ⟨_, _, rfl, NdO.zero _ _, NdO.zero _ _, kfin⟩⟩
set_option maxHeartbeats 2000000 in
set_option maxRecDepth 100000 in
theorem rsplit_fewL (n : Nd) (a1 a2 a3 : Option Addr) (k1 c1 k2 c2 k3 c3 : Nat) (w : World) (r1 : Row w (.slice a1 k1 c1) (TS n.keys)) (r2 : Row w (.slice a2 k2 c2) (TS n.vals)) (r3 : Row w (.slice a3 k3 c3) (IS n.kids)) (hb : n.Bd) (hl : n.leaf = true) (hc : n.chk = 0) (hk : n.keys.length ≤ 1) :
    Calls Tryd.prog 28 #[.agg #[.bool n.leaf, .slice a1 k1 c1, .slice a2 k2 c2, .slice a3 k3 c3]] w fun e w' => ∃ u, e = .returned u ∧ SpR Nd.zero ⟨#[]⟩ Nd.zero 4 w u w' := by
  have HCk := hidden (fun W (k : Same w W) => refCheck_any n a1 a2 a3 k1 c1 k2 c2 k3 c3 W (r1.same k) (r2.same k) (r3.same k) hb)
  have e1 := r1.tl
  rw [hc] at HCk
  rw [hl] at HCk ⊢
  rw [e1] at hk
  clear e1 hc hl
  clear r1 r2 r3 hb
  have bx := blk_alloc (blk_alloc (blk_new w (.cells #[.bool true, .slice a1 k1 c1, .slice a2 k2 c2, .slice a3 k3 c3] 25)) (.cells #[.bool false, .slice none 0 0, .slice none 0 0, .slice none 0 0] 25)) (.cells #[.bool false, .slice none 0 0, .slice none 0 0, .slice none 0 0] 25)
  have by' := blk_alloc (blk_new (w.alloc (.cells #[.bool true, .slice a1 k1 c1, .slice a2 k2 c2, .slice a3 k3 c3] 25)) (.cells #[.bool false, .slice none 0 0, .slice none 0 0, .slice none 0 0] 25)) (.cells #[.bool false, .slice none 0 0, .slice none 0 0, .slice none 0 0] 25)
  have bz' := blk_new ((w.alloc (.cells #[.bool true, .slice a1 k1 c1, .slice a2 k2 c2, .slice a3 k3 c3] 25)).alloc (.cells #[.bool false, .slice none 0 0, .slice none 0 0, .slice none 0 0] 25)) (.cells #[.bool false, .slice none 0 0, .slice none 0 0, .slice none 0 0] 25)
  rw [show (w.alloc (.cells #[.bool true, .slice a1 k1 c1, .slice a2 k2 c2, .slice a3 k3 c3] 25)).heap.size = w.heap.size + 1 by simp] at by'
  rw [show ((w.alloc (.cells #[.bool true, .slice a1 k1 c1, .slice a2 k2 c2, .slice a3 k3 c3] 25)).alloc (.cells #[.bool false, .slice none 0 0, .slice none 0 0, .slice none 0 0] 25)).heap.size = w.heap.size + 2 by simp] at bz'
  have K0 := hidden (((same_alloc w (.cells #[.bool true, .slice a1 k1 c1, .slice a2 k2 c2, .slice a3 k3 c3] 25)).alloc (.cells #[.bool false, .slice none 0 0, .slice none 0 0, .slice none 0 0] 25)).alloc (.cells #[.bool false, .slice none 0 0, .slice none 0 0, .slice none 0 0] 25))
  have zA : (((w.alloc (.cells #[.bool true, .slice a1 k1 c1, .slice a2 k2 c2, .slice a3 k3 c3] 25)).alloc (.cells #[.bool false, .slice none 0 0, .slice none 0 0, .slice none 0 0] 25)).alloc (.cells #[.bool false, .slice none 0 0, .slice none 0 0, .slice none 0 0] 25)).heap.size = w.heap.size + 3 := by simp
  have BX := hidden bx
  have BY := hidden by'
  have BZ := hidden bz'
  clear bx by' bz'
  have hk2 : (k1 : Int) - 1 < 1 := by omega
  have hk3 : (k1 : Int) ≤ 1 := by omega
  go_enter Tryd.func28, Tryd.ntmps28
  go_wp2_with (first
    | (go_at_call 14; refine (HCk.out _ K0.out).mono ?_; rintro e w1 ⟨rfl, q1⟩; have BX1 := hidden (blk_kept q1 (fun h => h) BX.out); have BY1 := hidden (blk_kept q1 (fun h => h) BY.out); have BZ1 := hidden (blk_kept q1 (fun h => h) BZ.out); have K1 := hidden q1; have zK1 := q1.size; have x0 := blk_cell (j := 0) BX1.out; have x1 := blk_cell (j := 1) BX1.out; have x2 := blk_cell (j := 2) BX1.out; have x3 := blk_cell (j := 3) BX1.out; simp at x0 x1 x2 x3; have y0 := blk_cell (j := 0) BY1.out; have y1 := blk_cell (j := 1) BY1.out; have y2 := blk_cell (j := 2) BY1.out; have y3 := blk_cell (j := 3) BY1.out; simp at y0 y1 y2 y3; have z0 := blk_cell (j := 0) BZ1.out; have z1 := blk_cell (j := 1) BZ1.out; have z2 := blk_cell (j := 2) BZ1.out; have z3 := blk_cell (j := 3) BZ1.out; simp at z0 z1 z2 z3; have yf := (fun j => blk_free (j := j) BY1.out); have zf := (fun j => blk_free (j := j) BZ1.out); clear q1))
  have kf := kept_fill8 (W := w1) (g := w.heap.size + 1) (h := w.heap.size + 2) (.bool false) (.slice none 0 0) (.slice none 0 0) (.slice none 0 0) (.bool false) (.slice none 0 0) (.slice none 0 0) (.slice none 0 0)
  have hf := fill8 BY1.out BZ1.out (by omega) (.bool false) (.slice none 0 0) (.slice none 0 0) (.slice none 0 0) (.bool false) (.slice none 0 0) (.slice none 0 0) (.slice none 0 0)
  have kfin : Same w _ := (K0.out.trans K1.out).trans' kf (fun i hi hs => by omega)
  clear kf
  generalize ((((((((w1.setCell ⟨w.heap.size + 1, 0, none⟩ (.bool false)).setCell ⟨w.heap.size + 1, 1, none⟩ (.slice none 0 0)).setCell ⟨w.heap.size + 1, 2, none⟩ (.slice none 0 0)).setCell ⟨w.heap.size + 1, 3, none⟩ (.slice none 0 0)).setCell ⟨w.heap.size + 2, 0, none⟩ (.bool false)).setCell ⟨w.heap.size + 2, 1, none⟩ (.slice none 0 0)).setCell ⟨w.heap.size + 2, 2, none⟩ (.slice none 0 0)).setCell ⟨w.heap.size + 2, 3, none⟩ (.slice none 0 0)) = WF at *
  have s0 := blk_cell (j := 0) hf.1; have s1 := blk_cell (j := 1) hf.1; have s2 := blk_cell (j := 2) hf.1; have s3 := blk_cell (j := 3) hf.1; simp at s0 s1 s2 s3
  have t0 := blk_cell (j := 0) hf.2; have t1 := blk_cell (j := 1) hf.2; have t2 := blk_cell (j := 2) hf.2; have t3 := blk_cell (j := 3) hf.2; simp at t0 t1 t2 t3
  refine bodyPost_ret (v := .tuple #[.agg #[.bool false, .slice none 0 0, .slice none 0 0, .slice none 0 0], .string ⟨#[]⟩, .agg #[.bool false, .slice none 0 0, .slice none 0 0, .slice none 0 0], .int .i64 4]) (by simp [results, Tryd.results28, go_sem, s0, s1, s2, s3, t0, t1, t2, t3]) rfl ⟨_, rfl, ⟨_, _, rfl, NdO.zero _ _, NdO.zero _ _, kfin⟩⟩
set_option maxHeartbeats 2000000 in
set_option maxRecDepth 100000 in
theorem rsplit_fewI (n : Nd) (a1 a2 a3 : Option Addr) (k1 c1 k2 c2 k3 c3 : Nat) (w : World) (r1 : Row w (.slice a1 k1 c1) (TS n.keys)) (r2 : Row w (.slice a2 k2 c2) (TS n.vals)) (r3 : Row w (.slice a3 k3 c3) (IS n.kids)) (hb : n.Bd) (hl : n.leaf = false) (hc : n.chk = 0) (hk : n.keys.length ≤ 2) :
    Calls Tryd.prog 28 #[.agg #[.bool n.leaf, .slice a1 k1 c1, .slice a2 k2 c2, .slice a3 k3 c3]] w fun e w' => ∃ u, e = .returned u ∧ SpR Nd.zero ⟨#[]⟩ Nd.zero 4 w u w' := by
  have HCk := hidden (fun W (k : Same w W) => refCheck_any n a1 a2 a3 k1 c1 k2 c2 k3 c3 W (r1.same k) (r2.same k) (r3.same k) hb)
  have e1 := r1.tl
  rw [hc] at HCk
  rw [hl] at HCk ⊢
  rw [e1] at hk
  clear e1 hc hl
  clear r1 r2 r3 hb
  have bx := blk_alloc (blk_alloc (blk_new w (.cells #[.bool false, .slice a1 k1 c1, .slice a2 k2 c2, .slice a3 k3 c3] 25)) (.cells #[.bool false, .slice none 0 0, .slice none 0 0, .slice none 0 0] 25)) (.cells #[.bool false, .slice none 0 0, .slice none 0 0, .slice none 0 0] 25)
  have by' := blk_alloc (blk_new (w.alloc (.cells #[.bool false, .slice a1 k1 c1, .slice a2 k2 c2, .slice a3 k3 c3] 25)) (.cells #[.bool false, .slice none 0 0, .slice none 0 0, .slice none 0 0] 25)) (.cells #[.bool false, .slice none 0 0, .slice none 0 0, .slice none 0 0] 25)
  have bz' := blk_new ((w.alloc (.cells #[.bool false, .slice a1 k1 c1, .slice a2 k2 c2, .slice a3 k3 c3] 25)).alloc (.cells #[.bool false, .slice none 0 0, .slice none 0 0, .slice none 0 0] 25)) (.cells #[.bool false, .slice none 0 0, .slice none 0 0, .slice none 0 0] 25)
  rw [show (w.alloc (.cells #[.bool false, .slice a1 k1 c1, .slice a2 k2 c2, .slice a3 k3 c3] 25)).heap.size = w.heap.size + 1 by simp] at by'
  rw [show ((w.alloc (.cells #[.bool false, .slice a1 k1 c1, .slice a2 k2 c2, .slice a3 k3 c3] 25)).alloc (.cells #[.bool false, .slice none 0 0, .slice none 0 0, .slice none 0 0] 25)).heap.size = w.heap.size + 2 by simp] at bz'
  have K0 := hidden (((same_alloc w (.cells #[.bool false, .slice a1 k1 c1, .slice a2 k2 c2, .slice a3 k3 c3] 25)).alloc (.cells #[.bool false, .slice none 0 0, .slice none 0 0, .slice none 0 0] 25)).alloc (.cells #[.bool false, .slice none 0 0, .slice none 0 0, .slice none 0 0] 25))
  have zA : (((w.alloc (.cells #[.bool false, .slice a1 k1 c1, .slice a2 k2 c2, .slice a3 k3 c3] 25)).alloc (.cells #[.bool false, .slice none 0 0, .slice none 0 0, .slice none 0 0] 25)).alloc (.cells #[.bool false, .slice none 0 0, .slice none 0 0, .slice none 0 0] 25)).heap.size = w.heap.size + 3 := by simp
  have BX := hidden bx
  have BY := hidden by'
  have BZ := hidden bz'
  clear bx by' bz'
  have hk2 : (k1 : Int) - 1 - 1 < 1 := by omega
  have hk3 : (k1 : Int) ≤ 2 := by omega
  go_enter Tryd.func28, Tryd.ntmps28
  go_wp2_with (first
    | (go_at_call 14; refine (HCk.out _ K0.out).mono ?_; rintro e w1 ⟨rfl, q1⟩; have BX1 := hidden (blk_kept q1 (fun h => h) BX.out); have BY1 := hidden (blk_kept q1 (fun h => h) BY.out); have BZ1 := hidden (blk_kept q1 (fun h => h) BZ.out); have K1 := hidden q1; have zK1 := q1.size; have x0 := blk_cell (j := 0) BX1.out; have x1 := blk_cell (j := 1) BX1.out; have x2 := blk_cell (j := 2) BX1.out; have x3 := blk_cell (j := 3) BX1.out; simp at x0 x1 x2 x3; have y0 := blk_cell (j := 0) BY1.out; have y1 := blk_cell (j := 1) BY1.out; have y2 := blk_cell (j := 2) BY1.out; have y3 := blk_cell (j := 3) BY1.out; simp at y0 y1 y2 y3; have z0 := blk_cell (j := 0) BZ1.out; have z1 := blk_cell (j := 1) BZ1.out; have z2 := blk_cell (j := 2) BZ1.out; have z3 := blk_cell (j := 3) BZ1.out; simp at z0 z1 z2 z3; have yf := (fun j => blk_free (j := j) BY1.out); have zf := (fun j => blk_free (j := j) BZ1.out); clear q1))
  have kf := kept_fill8 (W := w1) (g := w.heap.size + 1) (h := w.heap.size + 2) (.bool false) (.slice none 0 0) (.slice none 0 0) (.slice none 0 0) (.bool false) (.slice none 0 0) (.slice none 0 0) (.slice none 0 0)
  have hf := fill8 BY1.out BZ1.out (by omega) (.bool false) (.slice none 0 0) (.slice none 0 0) (.slice none 0 0) (.bool false) (.slice none 0 0) (.slice none 0 0) (.slice none 0 0)
  have kfin : Same w _ := (K0.out.trans K1.out).trans' kf (fun i hi hs => by omega)
  clear kf
  generalize ((((((((w1.setCell ⟨w.heap.size + 1, 0, none⟩ (.bool false)).setCell ⟨w.heap.size + 1, 1, none⟩ (.slice none 0 0)).setCell ⟨w.heap.size + 1, 2, none⟩ (.slice none 0 0)).setCell ⟨w.heap.size + 1, 3, none⟩ (.slice none 0 0)).setCell ⟨w.heap.size + 2, 0, none⟩ (.bool false)).setCell ⟨w.heap.size + 2, 1, none⟩ (.slice none 0 0)).setCell ⟨w.heap.size + 2, 2, none⟩ (.slice none 0 0)).setCell ⟨w.heap.size + 2, 3, none⟩ (.slice none 0 0)) = WF at *
  have s0 := blk_cell (j := 0) hf.1; have s1 := blk_cell (j := 1) hf.1; have s2 := blk_cell (j := 2) hf.1; have s3 := blk_cell (j := 3) hf.1; simp at s0 s1 s2 s3
  have t0 := blk_cell (j := 0) hf.2; have t1 := blk_cell (j := 1) hf.2; have t2 := blk_cell (j := 2) hf.2; have t3 := blk_cell (j := 3) hf.2; simp at t0 t1 t2 t3
  refine bodyPost_ret (v := .tuple #[.agg #[.bool false, .slice none 0 0, .slice none 0 0, .slice none 0 0], .string ⟨#[]⟩, .agg #[.bool false, .slice none 0 0, .slice none 0 0, .slice none 0 0], .int .i64 4]) (by simp [results, Tryd.results28, go_sem, s0, s1, s2, s3, t0, t1, t2, t3]) rfl ⟨_, rfl, ⟨_, _, rfl, NdO.zero _ _, NdO.zero _ _, kfin⟩⟩
/-- A copy's rows. -/
structure Cp (n : Nd) (k1 k2 k3 : Nat) (W : World) (p1 p2 p3 : Option Addr) (d1 d2 d3 : Nat) : Prop where
  r1 : W.ownsRow 0 9 1 (.slice p1 k1 d1) k1 (TS n.keys)
  r2 : W.ownsRow 0 9 1 (.slice p2 k2 d2) k2 (TS n.vals)
  r3 : W.ownsRow 0 3 1 (.slice p3 k3 d3) k3 (IS n.kids)
theorem Cp.same {n : Nd} {k1 k2 k3 : Nat} {W W' : World} {p1 p2 p3 : Option Addr} {d1 d2 d3 : Nat} (h : Cp n k1 k2 k3 W p1 p2 p3 d1 d2 d3) (k : Same W W') : Cp n k1 k2 k3 W' p1 p2 p3 d1 d2 d3 :=
  ⟨own_kept h.r1 k (fun _ _ h => h), own_kept h.r2 k (fun _ _ h => h), own_kept h.r3 k (fun _ _ h => h)⟩
theorem own_ne {w : World} {B g : Nat} {e t : TypeId} {v : Value} {n : Nat} {xs : List Value} {cs : Array Value} {f : Nat × Nat} (h : w.ownsRow B e 1 v n xs) (hg : w.heap[g]? = some (.cells cs t f)) (hne : t ≠ e) (k : Nat) (hk : v.ownBlock = some k) : k ≠ g := by
  rcases h.2 with ⟨h1, h2⟩ | ⟨g', cap, cur, h1, h2, hh, _⟩
  · rw [h1] at hk; simp [Value.ownBlock] at hk
  · rw [h1] at hk
    have : g' = k := by simpa [Value.ownBlock] using hk
    subst this
    rintro rfl
    rw [hh] at hg
    simp at hg
    exact hne hg.2.1.symm
theorem Cp.kept {n : Nd} {k1 k2 k3 g h : Nat} {W W' : World} {p1 p2 p3 : Option Addr} {d1 d2 d3 : Nat} {cs ds : Array Value} {f f' : Nat × Nat} (c : Cp n k1 k2 k3 W p1 p2 p3 d1 d2 d3) (k : Kept (fun i => i = g ∨ i = h) W W') (hg : W.heap[g]? = some (.cells cs 25 f)) (hh : W.heap[h]? = some (.cells ds 25 f')) : Cp n k1 k2 k3 W' p1 p2 p3 d1 d2 d3 :=
  ⟨own_kept c.r1 k (fun i hi e => e.elim (own_ne c.r1 hg (by decide) i hi) (own_ne c.r1 hh (by decide) i hi)), own_kept c.r2 k (fun i hi e => e.elim (own_ne c.r2 hg (by decide) i hi) (own_ne c.r2 hh (by decide) i hi)), own_kept c.r3 k (fun i hi e => e.elim (own_ne c.r3 hg (by decide) i hi) (own_ne c.r3 hh (by decide) i hi))⟩
structure CpR (n : Nd) (k1 k2 k3 : Nat) (w : World) (u : Value) (W : World) : Prop where
  ex : ∃ p1 p2 p3 d1 d2 d3, u = .agg #[.bool n.leaf, .slice p1 k1 d1, .slice p2 k2 d2, .slice p3 k3 d3] ∧ Cp n k1 k2 k3 W p1 p2 p3 d1 d2 d3 ∧ Same w W
theorem copy_cp (n : Nd) (a1 a2 a3 : Option Addr) (k1 c1 k2 c2 k3 c3 : Nat) (w : World) (r1 : Row w (.slice a1 k1 c1) (TS n.keys)) (r2 : Row w (.slice a2 k2 c2) (TS n.vals)) (r3 : Row w (.slice a3 k3 c3) (IS n.kids)) (h1 : n.keys.length ≤ 8796093022208) (h2 : n.vals.length ≤ 8796093022208) (h3 : n.kids.length ≤ 17592186044416) :
    Calls Tryd.prog 8 #[.agg #[.bool n.leaf, .slice a1 k1 c1, .slice a2 k2 c2, .slice a3 k3 c3]] w fun e w' => ∃ u, e = .returned u ∧ CpR n k1 k2 k3 w u w' := by
  have e1 := r1.tl
  have e2 := r2.tl
  have e3 := r3.il
  refine (copy_any n a1 a2 a3 k1 c1 k2 c2 k3 c3 w r1 r2 r3 h1 h2 h3).mono ?_
  rintro e w' ⟨u, rfl, h, k⟩
  obtain ⟨p1, p2, p3, d1, d2, d3, rfl, q1, q2, q3, _⟩ := h.out
  rw [e1] at q1
  rw [e2] at q2
  rw [e3] at q3
  exact ⟨_, rfl, ⟨p1, p2, p3, d1, d2, d3, by rw [e1, e2, e3], ⟨own_base' q1, own_base' q2, own_base' q3⟩, k⟩⟩
theorem NdR.mk' {W : World} {B : Bool} {L1 L2 : List ByteArray} {L3 : List Int} {a1 a2 a3 : Option Addr} {c1 c2 c3 k1 k2 k3 : Nat} (r1 : Row W (.slice a1 k1 c1) (TS L1)) (r2 : Row W (.slice a2 k2 c2) (TS L2)) (r3 : Row W (.slice a3 k3 c3) (IS L3)) : NdR W (.agg #[.bool B, .slice a1 k1 c1, .slice a2 k2 c2, .slice a3 k3 c3]) ⟨B, L1, L2, L3⟩ := by
  have e1 := r1.tl
  have e2 := r2.tl
  have e3 := r3.il
  subst e1 e2 e3
  exact ⟨a1, a2, a3, c1, c2, c3, rfl, r1, r2, r3⟩
/-- What the document's Split gives. -/
structure SpQ (m1 : Nd) (x : ByteArray) (m2 : Nd) (w : World) (u : Value) (W : World) : Prop where
  ex : ∃ u1 u2, u = .tuple #[u1, .string x, u2, .int .i64 0] ∧ NdR W u1 m1 ∧ NdR W u2 m2 ∧ Same w W
/-- Behind both copies: two boxes, apart from the results. -/
structure Two (n : Nd) (B : Bool) (k1 k2 k3 : Nat) (WA : World) (x y : Value) (W : World) : Prop where
  ex : ∃ g h p1 p2 p3 d1 d2 d3 q1 q2 q3 f1 f2 f3, x = .pointer (some ⟨g, 0, none⟩) ∧ y = .pointer (some ⟨h, 0, none⟩) ∧ WA.heap.size ≤ g ∧ WA.heap.size ≤ h ∧ W.heap[g]? = some (.cells #[.bool B, .slice p1 k1 d1, .slice p2 k2 d2, .slice p3 k3 d3] 25 (0, 0)) ∧ W.heap[h]? = some (.cells #[.bool B, .slice q1 k1 f1, .slice q2 k2 f2, .slice q3 k3 f3] 25 (0, 0)) ∧ Cp n k1 k2 k3 W p1 p2 p3 d1 d2 d3 ∧ Cp n k1 k2 k3 W q1 q2 q3 f1 f2 f3 ∧ Same WA W
end Go.Proofs.YtpjgghalnkfdkaaDoor
