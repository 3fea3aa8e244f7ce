/- node: the document's Put, refused or over an old value. (Made by mkn22.py.) -/
import Derived.Test.YtilnogadopmboaaDoorN21
namespace Go.Proofs.YtilnogadopmboaaDoor
open Go.RowKit
set_option linter.unusedVariables false
set_option linter.unusedSimpArgs false
structure PuQ (w : World) (n : Nd) (z : Int) (u : Value) (W : World) : Prop where
  out : ∃ v, u = .tuple #[v, .int .i64 z] ∧ NF' w.heap.size W v n ∧ Same w W
theorem nf_zero' (B : Nat) (w : World) : NF' B w (.agg #[.bool false, .slice none 0 0, .slice none 0 0, .slice none 0 0]) Nd.zero :=
  ⟨none, none, none, 0, 0, 0, rfl, World.ownsRow_nil _ _ _ _, World.ownsRow_nil _ _ _ _, World.ownsRow_nil _ _ _ _, fun h k hk => by cases hk⟩
theorem Nd.chk_rises {n : Nd} (h : n.chk = 0) : rises n.keys = true := by
  unfold Nd.chk at h
  split at h
  · split at h
    · rename_i h1 h2
      simp only [Bool.and_eq_true, Nd.shape] at h2
      exact h2.1.2
    · cases h
  · cases h
set_option maxHeartbeats 1000000 in
set_option maxRecDepth 100000 in
theorem refPut_chkT (n : Nd) (a1 a2 a3 : Option Addr) (k1 c1 k2 c2 k3 c3 : Nat) (key value : ByteArray) (w : World) (r1 : Row w (.slice a1 k1 c1) (TS n.keys)) (r2 : Row w (.slice a2 k2 c2) (TS n.vals)) (r3 : Row w (.slice a3 k3 c3) (IS n.kids)) (hb : n.Bd) (hl : n.leaf = true) (hc : n.chk ≠ 0) :
    Calls Tryd.prog 23 #[.agg #[.bool n.leaf, .slice a1 k1 c1, .slice a2 k2 c2, .slice a3 k3 c3], .string key, .string value] w fun e w' => ∃ u, e = .returned u ∧ PuQ w Nd.zero 90 u w' := by
  have HCk := hidden (fun W (k : Same w W) => refCheck_any n a1 a2 a3 k1 c1 k2 c2 k3 c3 W (r1.same k) (r2.same k) (r3.same k) hb)
  generalize n.chk = z at *
  have hz : (z == 0) = false := beq_eq_false_iff_ne.2 hc
  have hz2 : (z != 0) = true := by rw [bne_iff_ne]; exact hc
  rw [hl] at HCk ⊢
  have K0 : Hid (Same w ((w.alloc (.cells #[.bool true, .slice a1 k1 c1, .slice a2 k2 c2, .slice a3 k3 c3] 25)).alloc (.cells #[.bool false, .slice none 0 0, .slice none 0 0, .slice none 0 0] 25))) := hidden (((Kept.refl _ w).alloc _).alloc _)
  clear r1 r2 r3 hb hl
  go_enter Tryd.func23, Tryd.ntmps23
  go_wp2_with (go_at_call 14; refine (HCk.out _ K0.out).mono ?_; rintro e w1 ⟨rfl, q1⟩; have g0 : w1.heap[w.heap.size]? = some (.cells #[.bool true, .slice a1 k1 c1, .slice a2 k2 c2, .slice a3 k3 c3] 25 (0, 0)) := blk_kept q1 (fun h => h) (box_blk _ _ _); have g1 : w1.heap[w.heap.size + 1]? = some (.cells #[.bool false, .slice none 0 0, .slice none 0 0, .slice none 0 0] 25 (0, 0)) := blk_kept q1 (fun h => h) (zero_blk _ _); have xc0 : w1.cell? ⟨w.heap.size, 0, none⟩ = some (.bool true) := blk_cell g0; have xf0 : w1.frozen? ⟨w.heap.size, 0, none⟩ = false := blk_free g0; have xc1 : w1.cell? ⟨w.heap.size, 1, none⟩ = some (.slice a1 k1 c1) := blk_cell g0; have xf1 : w1.frozen? ⟨w.heap.size, 1, none⟩ = false := blk_free g0; have xc2 : w1.cell? ⟨w.heap.size, 2, none⟩ = some (.slice a2 k2 c2) := blk_cell g0; have xf2 : w1.frozen? ⟨w.heap.size, 2, none⟩ = false := blk_free g0; have xc3 : w1.cell? ⟨w.heap.size, 3, none⟩ = some (.slice a3 k3 c3) := blk_cell g0; have xf3 : w1.frozen? ⟨w.heap.size, 3, none⟩ = false := blk_free g0; have zc0 : w1.cell? ⟨w.heap.size + 1, 0, none⟩ = some (.bool false) := blk_cell g1; have zf0 : w1.frozen? ⟨w.heap.size + 1, 0, none⟩ = false := blk_free g1; have zc1 : w1.cell? ⟨w.heap.size + 1, 1, none⟩ = some (.slice none 0 0) := blk_cell g1; have zf1 : w1.frozen? ⟨w.heap.size + 1, 1, none⟩ = false := blk_free g1; have zc2 : w1.cell? ⟨w.heap.size + 1, 2, none⟩ = some (.slice none 0 0) := blk_cell g1; have zf2 : w1.frozen? ⟨w.heap.size + 1, 2, none⟩ = false := blk_free g1; have zc3 : w1.cell? ⟨w.heap.size + 1, 3, none⟩ = some (.slice none 0 0) := blk_cell g1; have zf3 : w1.frozen? ⟨w.heap.size + 1, 3, none⟩ = false := blk_free g1; have G0 := hidden g0; have G1 := hidden g1; have K1 := hidden (K0.out.trans q1); clear q1 g0 g1)
  have gf := fill4 G1.out (.bool false) (.slice none 0 0) (.slice none 0 0) (.slice none 0 0)
  have kf := kept_fill4 (W := w1) (g := w.heap.size + 1) (.bool false) (.slice none 0 0) (.slice none 0 0) (.slice none 0 0)
  have sf := same_fill4 K1.out (g := w.heap.size + 1) (by omega) (.bool false) (.slice none 0 0) (.slice none 0 0) (.slice none 0 0)
  generalize ((((w1.setCell ⟨w.heap.size + 1, 0, none⟩ (.bool false)).setCell ⟨w.heap.size + 1, 1, none⟩ (.slice none 0 0)).setCell ⟨w.heap.size + 1, 2, none⟩ (.slice none 0 0)).setCell ⟨w.heap.size + 1, 3, none⟩ (.slice none 0 0)) = WF at gf kf sf ⊢
  have qc0 : WF.cell? ⟨w.heap.size + 1, 0, none⟩ = some (.bool false) := blk_cell gf
  have qc1 : WF.cell? ⟨w.heap.size + 1, 1, none⟩ = some (.slice none 0 0) := blk_cell gf
  have qc2 : WF.cell? ⟨w.heap.size + 1, 2, none⟩ = some (.slice none 0 0) := blk_cell gf
  have qc3 : WF.cell? ⟨w.heap.size + 1, 3, none⟩ = some (.slice none 0 0) := blk_cell gf
  refine bodyPost_ret (v := .tuple #[.agg #[.bool false, .slice none 0 0, .slice none 0 0, .slice none 0 0], .int .i64 90]) (by simp [results, Tryd.results23, go_sem, qc0, qc1, qc2, qc3]) rfl ⟨_, rfl, ⟨⟨.agg #[.bool false, .slice none 0 0, .slice none 0 0, .slice none 0 0], rfl, ?_, sf⟩⟩⟩
  exact nf_zero' _ _
set_option maxHeartbeats 1000000 in
set_option maxRecDepth 100000 in
theorem refPut_chkF (n : Nd) (a1 a2 a3 : Option Addr) (k1 c1 k2 c2 k3 c3 : Nat) (key value : ByteArray) (w : World) (r1 : Row w (.slice a1 k1 c1) (TS n.keys)) (r2 : Row w (.slice a2 k2 c2) (TS n.vals)) (r3 : Row w (.slice a3 k3 c3) (IS n.kids)) (hb : n.Bd) (hl : n.leaf = false) (hc : n.chk ≠ 0) :
    Calls Tryd.prog 23 #[.agg #[.bool n.leaf, .slice a1 k1 c1, .slice a2 k2 c2, .slice a3 k3 c3], .string key, .string value] w fun e w' => ∃ u, e = .returned u ∧ PuQ w Nd.zero 90 u w' := by
  have HCk := hidden (fun W (k : Same w W) => refCheck_any n a1 a2 a3 k1 c1 k2 c2 k3 c3 W (r1.same k) (r2.same k) (r3.same k) hb)
  generalize n.chk = z at *
  have hz : (z == 0) = false := beq_eq_false_iff_ne.2 hc
  have hz2 : (z != 0) = true := by rw [bne_iff_ne]; exact hc
  rw [hl] at HCk ⊢
  have K0 : Hid (Same w ((w.alloc (.cells #[.bool false, .slice a1 k1 c1, .slice a2 k2 c2, .slice a3 k3 c3] 25)).alloc (.cells #[.bool false, .slice none 0 0, .slice none 0 0, .slice none 0 0] 25))) := hidden (((Kept.refl _ w).alloc _).alloc _)
  clear r1 r2 r3 hb hl
  go_enter Tryd.func23, Tryd.ntmps23
  go_wp2_with (go_at_call 14; refine (HCk.out _ K0.out).mono ?_; rintro e w1 ⟨rfl, q1⟩; have g0 : w1.heap[w.heap.size]? = some (.cells #[.bool false, .slice a1 k1 c1, .slice a2 k2 c2, .slice a3 k3 c3] 25 (0, 0)) := blk_kept q1 (fun h => h) (box_blk _ _ _); have g1 : w1.heap[w.heap.size + 1]? = some (.cells #[.bool false, .slice none 0 0, .slice none 0 0, .slice none 0 0] 25 (0, 0)) := blk_kept q1 (fun h => h) (zero_blk _ _); have xc0 : w1.cell? ⟨w.heap.size, 0, none⟩ = some (.bool false) := blk_cell g0; have xf0 : w1.frozen? ⟨w.heap.size, 0, none⟩ = false := blk_free g0; have xc1 : w1.cell? ⟨w.heap.size, 1, none⟩ = some (.slice a1 k1 c1) := blk_cell g0; have xf1 : w1.frozen? ⟨w.heap.size, 1, none⟩ = false := blk_free g0; have xc2 : w1.cell? ⟨w.heap.size, 2, none⟩ = some (.slice a2 k2 c2) := blk_cell g0; have xf2 : w1.frozen? ⟨w.heap.size, 2, none⟩ = false := blk_free g0; have xc3 : w1.cell? ⟨w.heap.size, 3, none⟩ = some (.slice a3 k3 c3) := blk_cell g0; have xf3 : w1.frozen? ⟨w.heap.size, 3, none⟩ = false := blk_free g0; have zc0 : w1.cell? ⟨w.heap.size + 1, 0, none⟩ = some (.bool false) := blk_cell g1; have zf0 : w1.frozen? ⟨w.heap.size + 1, 0, none⟩ = false := blk_free g1; have zc1 : w1.cell? ⟨w.heap.size + 1, 1, none⟩ = some (.slice none 0 0) := blk_cell g1; have zf1 : w1.frozen? ⟨w.heap.size + 1, 1, none⟩ = false := blk_free g1; have zc2 : w1.cell? ⟨w.heap.size + 1, 2, none⟩ = some (.slice none 0 0) := blk_cell g1; have zf2 : w1.frozen? ⟨w.heap.size + 1, 2, none⟩ = false := blk_free g1; have zc3 : w1.cell? ⟨w.heap.size + 1, 3, none⟩ = some (.slice none 0 0) := blk_cell g1; have zf3 : w1.frozen? ⟨w.heap.size + 1, 3, none⟩ = false := blk_free g1; have G0 := hidden g0; have G1 := hidden g1; have K1 := hidden (K0.out.trans q1); clear q1 g0 g1)
  have gf := fill4 G1.out (.bool false) (.slice none 0 0) (.slice none 0 0) (.slice none 0 0)
  have kf := kept_fill4 (W := w1) (g := w.heap.size + 1) (.bool false) (.slice none 0 0) (.slice none 0 0) (.slice none 0 0)
  have sf := same_fill4 K1.out (g := w.heap.size + 1) (by omega) (.bool false) (.slice none 0 0) (.slice none 0 0) (.slice none 0 0)
  generalize ((((w1.setCell ⟨w.heap.size + 1, 0, none⟩ (.bool false)).setCell ⟨w.heap.size + 1, 1, none⟩ (.slice none 0 0)).setCell ⟨w.heap.size + 1, 2, none⟩ (.slice none 0 0)).setCell ⟨w.heap.size + 1, 3, none⟩ (.slice none 0 0)) = WF at gf kf sf ⊢
  have qc0 : WF.cell? ⟨w.heap.size + 1, 0, none⟩ = some (.bool false) := blk_cell gf
  have qc1 : WF.cell? ⟨w.heap.size + 1, 1, none⟩ = some (.slice none 0 0) := blk_cell gf
  have qc2 : WF.cell? ⟨w.heap.size + 1, 2, none⟩ = some (.slice none 0 0) := blk_cell gf
  have qc3 : WF.cell? ⟨w.heap.size + 1, 3, none⟩ = some (.slice none 0 0) := blk_cell gf
  refine bodyPost_ret (v := .tuple #[.agg #[.bool false, .slice none 0 0, .slice none 0 0, .slice none 0 0], .int .i64 90]) (by simp [results, Tryd.results23, go_sem, qc0, qc1, qc2, qc3]) rfl ⟨_, rfl, ⟨⟨.agg #[.bool false, .slice none 0 0, .slice none 0 0, .slice none 0 0], rfl, ?_, sf⟩⟩⟩
  exact nf_zero' _ _
set_option maxHeartbeats 1000000 in
set_option maxRecDepth 100000 in
theorem refPut_inner (n : Nd) (a1 a2 a3 : Option Addr) (k1 c1 k2 c2 k3 c3 : Nat) (key value : ByteArray) (w : World) (r1 : Row w (.slice a1 k1 c1) (TS n.keys)) (r2 : Row w (.slice a2 k2 c2) (TS n.vals)) (r3 : Row w (.slice a3 k3 c3) (IS n.kids)) (hb : n.Bd) (hl : n.leaf = false) (hc : n.chk = 0) :
    Calls Tryd.prog 23 #[.agg #[.bool n.leaf, .slice a1 k1 c1, .slice a2 k2 c2, .slice a3 k3 c3], .string key, .string value] w fun e w' => ∃ u, e = .returned u ∧ PuQ w Nd.zero 90 u w' := by
  have HCk := hidden (fun W (k : Same w W) => refCheck_any n a1 a2 a3 k1 c1 k2 c2 k3 c3 W (r1.same k) (r2.same k) (r3.same k) hb)
  rw [hc] at HCk
  rw [hl] at HCk ⊢
  have K0 : Hid (Same w ((w.alloc (.cells #[.bool false, .slice a1 k1 c1, .slice a2 k2 c2, .slice a3 k3 c3] 25)).alloc (.cells #[.bool false, .slice none 0 0, .slice none 0 0, .slice none 0 0] 25))) := hidden (((Kept.refl _ w).alloc _).alloc _)
  clear r1 r2 r3 hb hl
  go_enter Tryd.func23, Tryd.ntmps23
  go_wp2_with (go_at_call 14; refine (HCk.out _ K0.out).mono ?_; rintro e w1 ⟨rfl, q1⟩; have g0 : w1.heap[w.heap.size]? = some (.cells #[.bool false, .slice a1 k1 c1, .slice a2 k2 c2, .slice a3 k3 c3] 25 (0, 0)) := blk_kept q1 (fun h => h) (box_blk _ _ _); have g1 : w1.heap[w.heap.size + 1]? = some (.cells #[.bool false, .slice none 0 0, .slice none 0 0, .slice none 0 0] 25 (0, 0)) := blk_kept q1 (fun h => h) (zero_blk _ _); have xc0 : w1.cell? ⟨w.heap.size, 0, none⟩ = some (.bool false) := blk_cell g0; have xf0 : w1.frozen? ⟨w.heap.size, 0, none⟩ = false := blk_free g0; have xc1 : w1.cell? ⟨w.heap.size, 1, none⟩ = some (.slice a1 k1 c1) := blk_cell g0; have xf1 : w1.frozen? ⟨w.heap.size, 1, none⟩ = false := blk_free g0; have xc2 : w1.cell? ⟨w.heap.size, 2, none⟩ = some (.slice a2 k2 c2) := blk_cell g0; have xf2 : w1.frozen? ⟨w.heap.size, 2, none⟩ = false := blk_free g0; have xc3 : w1.cell? ⟨w.heap.size, 3, none⟩ = some (.slice a3 k3 c3) := blk_cell g0; have xf3 : w1.frozen? ⟨w.heap.size, 3, none⟩ = false := blk_free g0; have zc0 : w1.cell? ⟨w.heap.size + 1, 0, none⟩ = some (.bool false) := blk_cell g1; have zf0 : w1.frozen? ⟨w.heap.size + 1, 0, none⟩ = false := blk_free g1; have zc1 : w1.cell? ⟨w.heap.size + 1, 1, none⟩ = some (.slice none 0 0) := blk_cell g1; have zf1 : w1.frozen? ⟨w.heap.size + 1, 1, none⟩ = false := blk_free g1; have zc2 : w1.cell? ⟨w.heap.size + 1, 2, none⟩ = some (.slice none 0 0) := blk_cell g1; have zf2 : w1.frozen? ⟨w.heap.size + 1, 2, none⟩ = false := blk_free g1; have zc3 : w1.cell? ⟨w.heap.size + 1, 3, none⟩ = some (.slice none 0 0) := blk_cell g1; have zf3 : w1.frozen? ⟨w.heap.size + 1, 3, none⟩ = false := blk_free g1; have G0 := hidden g0; have G1 := hidden g1; have K1 := hidden (K0.out.trans q1); clear q1 g0 g1)
  have gf := fill4 G1.out (.bool false) (.slice none 0 0) (.slice none 0 0) (.slice none 0 0)
  have kf := kept_fill4 (W := w1) (g := w.heap.size + 1) (.bool false) (.slice none 0 0) (.slice none 0 0) (.slice none 0 0)
  have sf := same_fill4 K1.out (g := w.heap.size + 1) (by omega) (.bool false) (.slice none 0 0) (.slice none 0 0) (.slice none 0 0)
  generalize ((((w1.setCell ⟨w.heap.size + 1, 0, none⟩ (.bool false)).setCell ⟨w.heap.size + 1, 1, none⟩ (.slice none 0 0)).setCell ⟨w.heap.size + 1, 2, none⟩ (.slice none 0 0)).setCell ⟨w.heap.size + 1, 3, none⟩ (.slice none 0 0)) = WF at gf kf sf ⊢
  have qc0 : WF.cell? ⟨w.heap.size + 1, 0, none⟩ = some (.bool false) := blk_cell gf
  have qc1 : WF.cell? ⟨w.heap.size + 1, 1, none⟩ = some (.slice none 0 0) := blk_cell gf
  have qc2 : WF.cell? ⟨w.heap.size + 1, 2, none⟩ = some (.slice none 0 0) := blk_cell gf
  have qc3 : WF.cell? ⟨w.heap.size + 1, 3, none⟩ = some (.slice none 0 0) := blk_cell gf
  refine bodyPost_ret (v := .tuple #[.agg #[.bool false, .slice none 0 0, .slice none 0 0, .slice none 0 0], .int .i64 90]) (by simp [results, Tryd.results23, go_sem, qc0, qc1, qc2, qc3]) rfl ⟨_, rfl, ⟨⟨.agg #[.bool false, .slice none 0 0, .slice none 0 0, .slice none 0 0], rfl, ?_, sf⟩⟩⟩
  exact nf_zero' _ _
set_option maxHeartbeats 1000000 in
set_option maxRecDepth 100000 in
theorem refPut_short (n : Nd) (a1 a2 a3 : Option Addr) (k1 c1 k2 c2 k3 c3 : Nat) (key value : ByteArray) (w : World) (r1 : Row w (.slice a1 k1 c1) (TS n.keys)) (r2 : Row w (.slice a2 k2 c2) (TS n.vals)) (r3 : Row w (.slice a3 k3 c3) (IS n.kids)) (hb : n.Bd) (hl : n.leaf = true) (hc : n.chk = 0) (hk : key.size < 1) :
    Calls Tryd.prog 23 #[.agg #[.bool n.leaf, .slice a1 k1 c1, .slice a2 k2 c2, .slice a3 k3 c3], .string key, .string value] w fun e w' => ∃ u, e = .returned u ∧ PuQ w Nd.zero 91 u w' := by
  have HCk := hidden (fun W (k : Same w W) => refCheck_any n a1 a2 a3 k1 c1 k2 c2 k3 c3 W (r1.same k) (r2.same k) (r3.same k) hb)
  rw [hc] at HCk
  have s1 : (key.size : Int) < 1 := by omega
  rw [hl] at HCk ⊢
  have K0 : Hid (Same w ((w.alloc (.cells #[.bool true, .slice a1 k1 c1, .slice a2 k2 c2, .slice a3 k3 c3] 25)).alloc (.cells #[.bool false, .slice none 0 0, .slice none 0 0, .slice none 0 0] 25))) := hidden (((Kept.refl _ w).alloc _).alloc _)
  clear r1 r2 r3 hb hl
  go_enter Tryd.func23, Tryd.ntmps23
  go_wp2_with (go_at_call 14; refine (HCk.out _ K0.out).mono ?_; rintro e w1 ⟨rfl, q1⟩; have g0 : w1.heap[w.heap.size]? = some (.cells #[.bool true, .slice a1 k1 c1, .slice a2 k2 c2, .slice a3 k3 c3] 25 (0, 0)) := blk_kept q1 (fun h => h) (box_blk _ _ _); have g1 : w1.heap[w.heap.size + 1]? = some (.cells #[.bool false, .slice none 0 0, .slice none 0 0, .slice none 0 0] 25 (0, 0)) := blk_kept q1 (fun h => h) (zero_blk _ _); have xc0 : w1.cell? ⟨w.heap.size, 0, none⟩ = some (.bool true) := blk_cell g0; have xf0 : w1.frozen? ⟨w.heap.size, 0, none⟩ = false := blk_free g0; have xc1 : w1.cell? ⟨w.heap.size, 1, none⟩ = some (.slice a1 k1 c1) := blk_cell g0; have xf1 : w1.frozen? ⟨w.heap.size, 1, none⟩ = false := blk_free g0; have xc2 : w1.cell? ⟨w.heap.size, 2, none⟩ = some (.slice a2 k2 c2) := blk_cell g0; have xf2 : w1.frozen? ⟨w.heap.size, 2, none⟩ = false := blk_free g0; have xc3 : w1.cell? ⟨w.heap.size, 3, none⟩ = some (.slice a3 k3 c3) := blk_cell g0; have xf3 : w1.frozen? ⟨w.heap.size, 3, none⟩ = false := blk_free g0; have zc0 : w1.cell? ⟨w.heap.size + 1, 0, none⟩ = some (.bool false) := blk_cell g1; have zf0 : w1.frozen? ⟨w.heap.size + 1, 0, none⟩ = false := blk_free g1; have zc1 : w1.cell? ⟨w.heap.size + 1, 1, none⟩ = some (.slice none 0 0) := blk_cell g1; have zf1 : w1.frozen? ⟨w.heap.size + 1, 1, none⟩ = false := blk_free g1; have zc2 : w1.cell? ⟨w.heap.size + 1, 2, none⟩ = some (.slice none 0 0) := blk_cell g1; have zf2 : w1.frozen? ⟨w.heap.size + 1, 2, none⟩ = false := blk_free g1; have zc3 : w1.cell? ⟨w.heap.size + 1, 3, none⟩ = some (.slice none 0 0) := blk_cell g1; have zf3 : w1.frozen? ⟨w.heap.size + 1, 3, none⟩ = false := blk_free g1; have G0 := hidden g0; have G1 := hidden g1; have K1 := hidden (K0.out.trans q1); clear q1 g0 g1)
  have gf := fill4 G1.out (.bool false) (.slice none 0 0) (.slice none 0 0) (.slice none 0 0)
  have kf := kept_fill4 (W := w1) (g := w.heap.size + 1) (.bool false) (.slice none 0 0) (.slice none 0 0) (.slice none 0 0)
  have sf := same_fill4 K1.out (g := w.heap.size + 1) (by omega) (.bool false) (.slice none 0 0) (.slice none 0 0) (.slice none 0 0)
  generalize ((((w1.setCell ⟨w.heap.size + 1, 0, none⟩ (.bool false)).setCell ⟨w.heap.size + 1, 1, none⟩ (.slice none 0 0)).setCell ⟨w.heap.size + 1, 2, none⟩ (.slice none 0 0)).setCell ⟨w.heap.size + 1, 3, none⟩ (.slice none 0 0)) = WF at gf kf sf ⊢
  have qc0 : WF.cell? ⟨w.heap.size + 1, 0, none⟩ = some (.bool false) := blk_cell gf
  have qc1 : WF.cell? ⟨w.heap.size + 1, 1, none⟩ = some (.slice none 0 0) := blk_cell gf
  have qc2 : WF.cell? ⟨w.heap.size + 1, 2, none⟩ = some (.slice none 0 0) := blk_cell gf
  have qc3 : WF.cell? ⟨w.heap.size + 1, 3, none⟩ = some (.slice none 0 0) := blk_cell gf
  refine bodyPost_ret (v := .tuple #[.agg #[.bool false, .slice none 0 0, .slice none 0 0, .slice none 0 0], .int .i64 91]) (by simp [results, Tryd.results23, go_sem, qc0, qc1, qc2, qc3]) rfl ⟨_, rfl, ⟨⟨.agg #[.bool false, .slice none 0 0, .slice none 0 0, .slice none 0 0], rfl, ?_, sf⟩⟩⟩
  exact nf_zero' _ _
set_option maxHeartbeats 1000000 in
set_option maxRecDepth 100000 in
theorem refPut_long (n : Nd) (a1 a2 a3 : Option Addr) (k1 c1 k2 c2 k3 c3 : Nat) (key value : ByteArray) (w : World) (r1 : Row w (.slice a1 k1 c1) (TS n.keys)) (r2 : Row w (.slice a2 k2 c2) (TS n.vals)) (r3 : Row w (.slice a3 k3 c3) (IS n.kids)) (hb : n.Bd) (hl : n.leaf = true) (hc : n.chk = 0) (hk : ¬ key.size < 1) (hk2 : 64 < key.size) :
    Calls Tryd.prog 23 #[.agg #[.bool n.leaf, .slice a1 k1 c1, .slice a2 k2 c2, .slice a3 k3 c3], .string key, .string value] w fun e w' => ∃ u, e = .returned u ∧ PuQ w Nd.zero 91 u w' := by
  have HCk := hidden (fun W (k : Same w W) => refCheck_any n a1 a2 a3 k1 c1 k2 c2 k3 c3 W (r1.same k) (r2.same k) (r3.same k) hb)
  rw [hc] at HCk
  have s1 : ¬ (key.size : Int) < 1 := by omega
  have s2 : (64 : Int) < (key.size : Int) := by omega
  rw [hl] at HCk ⊢
  have K0 : Hid (Same w ((w.alloc (.cells #[.bool true, .slice a1 k1 c1, .slice a2 k2 c2, .slice a3 k3 c3] 25)).alloc (.cells #[.bool false, .slice none 0 0, .slice none 0 0, .slice none 0 0] 25))) := hidden (((Kept.refl _ w).alloc _).alloc _)
  clear r1 r2 r3 hb hl
  go_enter Tryd.func23, Tryd.ntmps23
  go_wp2_with (go_at_call 14; refine (HCk.out _ K0.out).mono ?_; rintro e w1 ⟨rfl, q1⟩; have g0 : w1.heap[w.heap.size]? = some (.cells #[.bool true, .slice a1 k1 c1, .slice a2 k2 c2, .slice a3 k3 c3] 25 (0, 0)) := blk_kept q1 (fun h => h) (box_blk _ _ _); have g1 : w1.heap[w.heap.size + 1]? = some (.cells #[.bool false, .slice none 0 0, .slice none 0 0, .slice none 0 0] 25 (0, 0)) := blk_kept q1 (fun h => h) (zero_blk _ _); have xc0 : w1.cell? ⟨w.heap.size, 0, none⟩ = some (.bool true) := blk_cell g0; have xf0 : w1.frozen? ⟨w.heap.size, 0, none⟩ = false := blk_free g0; have xc1 : w1.cell? ⟨w.heap.size, 1, none⟩ = some (.slice a1 k1 c1) := blk_cell g0; have xf1 : w1.frozen? ⟨w.heap.size, 1, none⟩ = false := blk_free g0; have xc2 : w1.cell? ⟨w.heap.size, 2, none⟩ = some (.slice a2 k2 c2) := blk_cell g0; have xf2 : w1.frozen? ⟨w.heap.size, 2, none⟩ = false := blk_free g0; have xc3 : w1.cell? ⟨w.heap.size, 3, none⟩ = some (.slice a3 k3 c3) := blk_cell g0; have xf3 : w1.frozen? ⟨w.heap.size, 3, none⟩ = false := blk_free g0; have zc0 : w1.cell? ⟨w.heap.size + 1, 0, none⟩ = some (.bool false) := blk_cell g1; have zf0 : w1.frozen? ⟨w.heap.size + 1, 0, none⟩ = false := blk_free g1; have zc1 : w1.cell? ⟨w.heap.size + 1, 1, none⟩ = some (.slice none 0 0) := blk_cell g1; have zf1 : w1.frozen? ⟨w.heap.size + 1, 1, none⟩ = false := blk_free g1; have zc2 : w1.cell? ⟨w.heap.size + 1, 2, none⟩ = some (.slice none 0 0) := blk_cell g1; have zf2 : w1.frozen? ⟨w.heap.size + 1, 2, none⟩ = false := blk_free g1; have zc3 : w1.cell? ⟨w.heap.size + 1, 3, none⟩ = some (.slice none 0 0) := blk_cell g1; have zf3 : w1.frozen? ⟨w.heap.size + 1, 3, none⟩ = false := blk_free g1; have G0 := hidden g0; have G1 := hidden g1; have K1 := hidden (K0.out.trans q1); clear q1 g0 g1)
  have gf := fill4 G1.out (.bool false) (.slice none 0 0) (.slice none 0 0) (.slice none 0 0)
  have kf := kept_fill4 (W := w1) (g := w.heap.size + 1) (.bool false) (.slice none 0 0) (.slice none 0 0) (.slice none 0 0)
  have sf := same_fill4 K1.out (g := w.heap.size + 1) (by omega) (.bool false) (.slice none 0 0) (.slice none 0 0) (.slice none 0 0)
  generalize ((((w1.setCell ⟨w.heap.size + 1, 0, none⟩ (.bool false)).setCell ⟨w.heap.size + 1, 1, none⟩ (.slice none 0 0)).setCell ⟨w.heap.size + 1, 2, none⟩ (.slice none 0 0)).setCell ⟨w.heap.size + 1, 3, none⟩ (.slice none 0 0)) = WF at gf kf sf ⊢
  have qc0 : WF.cell? ⟨w.heap.size + 1, 0, none⟩ = some (.bool false) := blk_cell gf
  have qc1 : WF.cell? ⟨w.heap.size + 1, 1, none⟩ = some (.slice none 0 0) := blk_cell gf
  have qc2 : WF.cell? ⟨w.heap.size + 1, 2, none⟩ = some (.slice none 0 0) := blk_cell gf
  have qc3 : WF.cell? ⟨w.heap.size + 1, 3, none⟩ = some (.slice none 0 0) := blk_cell gf
  refine bodyPost_ret (v := .tuple #[.agg #[.bool false, .slice none 0 0, .slice none 0 0, .slice none 0 0], .int .i64 91]) (by simp [results, Tryd.results23, go_sem, qc0, qc1, qc2, qc3]) rfl ⟨_, rfl, ⟨⟨.agg #[.bool false, .slice none 0 0, .slice none 0 0, .slice none 0 0], rfl, ?_, sf⟩⟩⟩
  exact nf_zero' _ _
set_option maxHeartbeats 1000000 in
set_option maxRecDepth 100000 in
theorem refPut_val (n : Nd) (a1 a2 a3 : Option Addr) (k1 c1 k2 c2 k3 c3 : Nat) (key value : ByteArray) (w : World) (r1 : Row w (.slice a1 k1 c1) (TS n.keys)) (r2 : Row w (.slice a2 k2 c2) (TS n.vals)) (r3 : Row w (.slice a3 k3 c3) (IS n.kids)) (hb : n.Bd) (hl : n.leaf = true) (hc : n.chk = 0) (hk : ¬ key.size < 1) (hk2 : ¬ 64 < key.size) (hv : 64 < value.size) :
    Calls Tryd.prog 23 #[.agg #[.bool n.leaf, .slice a1 k1 c1, .slice a2 k2 c2, .slice a3 k3 c3], .string key, .string value] w fun e w' => ∃ u, e = .returned u ∧ PuQ w Nd.zero 91 u w' := by
  have HCk := hidden (fun W (k : Same w W) => refCheck_any n a1 a2 a3 k1 c1 k2 c2 k3 c3 W (r1.same k) (r2.same k) (r3.same k) hb)
  rw [hc] at HCk
  have s1 : ¬ (key.size : Int) < 1 := by omega
  have s2 : ¬ (64 : Int) < (key.size : Int) := by omega
  have s3 : (64 : Int) < (value.size : Int) := by omega
  rw [hl] at HCk ⊢
  have K0 : Hid (Same w ((w.alloc (.cells #[.bool true, .slice a1 k1 c1, .slice a2 k2 c2, .slice a3 k3 c3] 25)).alloc (.cells #[.bool false, .slice none 0 0, .slice none 0 0, .slice none 0 0] 25))) := hidden (((Kept.refl _ w).alloc _).alloc _)
  clear r1 r2 r3 hb hl
  go_enter Tryd.func23, Tryd.ntmps23
  go_wp2_with (go_at_call 14; refine (HCk.out _ K0.out).mono ?_; rintro e w1 ⟨rfl, q1⟩; have g0 : w1.heap[w.heap.size]? = some (.cells #[.bool true, .slice a1 k1 c1, .slice a2 k2 c2, .slice a3 k3 c3] 25 (0, 0)) := blk_kept q1 (fun h => h) (box_blk _ _ _); have g1 : w1.heap[w.heap.size + 1]? = some (.cells #[.bool false, .slice none 0 0, .slice none 0 0, .slice none 0 0] 25 (0, 0)) := blk_kept q1 (fun h => h) (zero_blk _ _); have xc0 : w1.cell? ⟨w.heap.size, 0, none⟩ = some (.bool true) := blk_cell g0; have xf0 : w1.frozen? ⟨w.heap.size, 0, none⟩ = false := blk_free g0; have xc1 : w1.cell? ⟨w.heap.size, 1, none⟩ = some (.slice a1 k1 c1) := blk_cell g0; have xf1 : w1.frozen? ⟨w.heap.size, 1, none⟩ = false := blk_free g0; have xc2 : w1.cell? ⟨w.heap.size, 2, none⟩ = some (.slice a2 k2 c2) := blk_cell g0; have xf2 : w1.frozen? ⟨w.heap.size, 2, none⟩ = false := blk_free g0; have xc3 : w1.cell? ⟨w.heap.size, 3, none⟩ = some (.slice a3 k3 c3) := blk_cell g0; have xf3 : w1.frozen? ⟨w.heap.size, 3, none⟩ = false := blk_free g0; have zc0 : w1.cell? ⟨w.heap.size + 1, 0, none⟩ = some (.bool false) := blk_cell g1; have zf0 : w1.frozen? ⟨w.heap.size + 1, 0, none⟩ = false := blk_free g1; have zc1 : w1.cell? ⟨w.heap.size + 1, 1, none⟩ = some (.slice none 0 0) := blk_cell g1; have zf1 : w1.frozen? ⟨w.heap.size + 1, 1, none⟩ = false := blk_free g1; have zc2 : w1.cell? ⟨w.heap.size + 1, 2, none⟩ = some (.slice none 0 0) := blk_cell g1; have zf2 : w1.frozen? ⟨w.heap.size + 1, 2, none⟩ = false := blk_free g1; have zc3 : w1.cell? ⟨w.heap.size + 1, 3, none⟩ = some (.slice none 0 0) := blk_cell g1; have zf3 : w1.frozen? ⟨w.heap.size + 1, 3, none⟩ = false := blk_free g1; have G0 := hidden g0; have G1 := hidden g1; have K1 := hidden (K0.out.trans q1); clear q1 g0 g1)
  have gf := fill4 G1.out (.bool false) (.slice none 0 0) (.slice none 0 0) (.slice none 0 0)
  have kf := kept_fill4 (W := w1) (g := w.heap.size + 1) (.bool false) (.slice none 0 0) (.slice none 0 0) (.slice none 0 0)
  have sf := same_fill4 K1.out (g := w.heap.size + 1) (by omega) (.bool false) (.slice none 0 0) (.slice none 0 0) (.slice none 0 0)
  generalize ((((w1.setCell ⟨w.heap.size + 1, 0, none⟩ (.bool false)).setCell ⟨w.heap.size + 1, 1, none⟩ (.slice none 0 0)).setCell ⟨w.heap.size + 1, 2, none⟩ (.slice none 0 0)).setCell ⟨w.heap.size + 1, 3, none⟩ (.slice none 0 0)) = WF at gf kf sf ⊢
  have qc0 : WF.cell? ⟨w.heap.size + 1, 0, none⟩ = some (.bool false) := blk_cell gf
  have qc1 : WF.cell? ⟨w.heap.size + 1, 1, none⟩ = some (.slice none 0 0) := blk_cell gf
  have qc2 : WF.cell? ⟨w.heap.size + 1, 2, none⟩ = some (.slice none 0 0) := blk_cell gf
  have qc3 : WF.cell? ⟨w.heap.size + 1, 3, none⟩ = some (.slice none 0 0) := blk_cell gf
  refine bodyPost_ret (v := .tuple #[.agg #[.bool false, .slice none 0 0, .slice none 0 0, .slice none 0 0], .int .i64 91]) (by simp [results, Tryd.results23, go_sem, qc0, qc1, qc2, qc3]) rfl ⟨_, rfl, ⟨⟨.agg #[.bool false, .slice none 0 0, .slice none 0 0, .slice none 0 0], rfl, ?_, sf⟩⟩⟩
  exact nf_zero' _ _
set_option maxHeartbeats 2000000 in
set_option maxRecDepth 100000 in
theorem refPut_has (n : Nd) (a1 a2 a3 : Option Addr) (k1 c1 k2 c2 k3 c3 : Nat) (key value : ByteArray) (w : World) (r1 : Row w (.slice a1 k1 c1) (TS n.keys)) (r2 : Row w (.slice a2 k2 c2) (TS n.vals)) (r3 : Row w (.slice a3 k3 c3) (IS n.kids)) (hb : n.Bd) (hbig : n.keys.length ≤ 8796093022206) (hl : n.leaf = true) (hc : n.chk = 0) (hk : ¬ key.size < 1) (hk2 : ¬ 64 < key.size) (hv : ¬ 64 < value.size) (hh : n.has key = true) :
    Calls Tryd.prog 23 #[.agg #[.bool n.leaf, .slice a1 k1 c1, .slice a2 k2 c2, .slice a3 k3 c3], .string key, .string value] w fun e w' => ∃ u, e = .returned u ∧ PuQ w ⟨true, n.keys, n.vals.set (n.cnt key) value, n.kids⟩ 0 u w' := by
  have HCk := hidden (fun W (k : Same w W) => refCheck_any n a1 a2 a3 k1 c1 k2 c2 k3 c3 W (r1.same k) (r2.same k) (r3.same k) hb)
  have HFd := hidden (fun W (k : Same w W) => refFind_any n a1 a2 a3 k1 c1 k2 c2 k3 c3 key W (r1.same k) (r2.same k) (r3.same k) hb (Nd.chk_rises hc))
  have HCp := hidden (fun W (k : Same w W) => copy_any n a1 a2 a3 k1 c1 k2 c2 k3 c3 W (r1.same k) (r2.same k) (r3.same k) (by omega) (by have := (Nd.chk_leaf hl hc).1; omega) (by rw [(Nd.chk_leaf hl hc).2]; simp))
  have E1 := hidden r1.tl
  have E2 := hidden r2.tl
  have E3 := hidden r3.il
  have HL := hidden hl
  have HV12 : Hid (k2 = k1) := by rw [Hid, ← E1.out, ← E2.out]; exact (Nd.chk_leaf hl hc).1
  rw [hc] at HCk
  rw [hh] at HFd
  have s1 : ¬ (key.size : Int) < 1 := by omega
  have s2 : ¬ (64 : Int) < (key.size : Int) := by omega
  have s3 : ¬ (64 : Int) < (value.size : Int) := by omega
  have hcl : n.cnt key < k1 := by rw [← E1.out]; exact Nd.has_lt hh
  rw [hl] at HCk HFd HCp ⊢
  have K0 : Hid (Same w ((w.alloc (.cells #[.bool true, .slice a1 k1 c1, .slice a2 k2 c2, .slice a3 k3 c3] 25)).alloc (.cells #[.bool false, .slice none 0 0, .slice none 0 0, .slice none 0 0] 25))) := hidden (((Kept.refl _ w).alloc _).alloc _)
  clear r1 r2 r3 hb hbig hc hk hk2 hv hh hl
  generalize n.cnt key = cn at *
  have hcn0 : (0 : Int) ≤ (cn : Int) := Int.natCast_nonneg _
  go_enter Tryd.func23, Tryd.ntmps23
  go_wp2_with (first
    | (go_at_call 14; refine (HCk.out _ K0.out).mono ?_; rintro e w1 ⟨rfl, q1⟩; have g0 : w1.heap[w.heap.size]? = some (.cells #[.bool true, .slice a1 k1 c1, .slice a2 k2 c2, .slice a3 k3 c3] 25 (0, 0)) := blk_kept q1 (fun h => h) (box_blk _ _ _); have g1 : w1.heap[w.heap.size + 1]? = some (.cells #[.bool false, .slice none 0 0, .slice none 0 0, .slice none 0 0] 25 (0, 0)) := blk_kept q1 (fun h => h) (zero_blk _ _); have xc0 : w1.cell? ⟨w.heap.size, 0, none⟩ = some (.bool true) := blk_cell g0; have xf0 : w1.frozen? ⟨w.heap.size, 0, none⟩ = false := blk_free g0; have xc1 : w1.cell? ⟨w.heap.size, 1, none⟩ = some (.slice a1 k1 c1) := blk_cell g0; have xf1 : w1.frozen? ⟨w.heap.size, 1, none⟩ = false := blk_free g0; have xc2 : w1.cell? ⟨w.heap.size, 2, none⟩ = some (.slice a2 k2 c2) := blk_cell g0; have xf2 : w1.frozen? ⟨w.heap.size, 2, none⟩ = false := blk_free g0; have xc3 : w1.cell? ⟨w.heap.size, 3, none⟩ = some (.slice a3 k3 c3) := blk_cell g0; have xf3 : w1.frozen? ⟨w.heap.size, 3, none⟩ = false := blk_free g0; have zc0 : w1.cell? ⟨w.heap.size + 1, 0, none⟩ = some (.bool false) := blk_cell g1; have zf0 : w1.frozen? ⟨w.heap.size + 1, 0, none⟩ = false := blk_free g1; have zc1 : w1.cell? ⟨w.heap.size + 1, 1, none⟩ = some (.slice none 0 0) := blk_cell g1; have zf1 : w1.frozen? ⟨w.heap.size + 1, 1, none⟩ = false := blk_free g1; have zc2 : w1.cell? ⟨w.heap.size + 1, 2, none⟩ = some (.slice none 0 0) := blk_cell g1; have zf2 : w1.frozen? ⟨w.heap.size + 1, 2, none⟩ = false := blk_free g1; have zc3 : w1.cell? ⟨w.heap.size + 1, 3, none⟩ = some (.slice none 0 0) := blk_cell g1; have zf3 : w1.frozen? ⟨w.heap.size + 1, 3, none⟩ = false := blk_free g1; have G0 := hidden g0; have G1 := hidden g1; have K1 := hidden (K0.out.trans q1); clear q1 g0 g1)
    | (go_at_call 21; refine (HFd.out _ K1.out).mono ?_; rintro e w2 ⟨rfl, q2⟩; have g0 := blk_kept q2 (fun h => h) G0.out; have g1 := blk_kept q2 (fun h => h) G1.out; have yc0 : w2.cell? ⟨w.heap.size, 0, none⟩ = some (.bool true) := blk_cell g0; have yc1 : w2.cell? ⟨w.heap.size, 1, none⟩ = some (.slice a1 k1 c1) := blk_cell g0; have yc2 : w2.cell? ⟨w.heap.size, 2, none⟩ = some (.slice a2 k2 c2) := blk_cell g0; have yc3 : w2.cell? ⟨w.heap.size, 3, none⟩ = some (.slice a3 k3 c3) := blk_cell g0; have H0 := hidden g0; have H1 := hidden g1; have K2 := hidden (K1.out.trans q2); clear q2 g0 g1)
    | (go_at_call 8; refine (HCp.out _ K2.out).mono ?_; rintro e w3 ⟨u, rfl, hn, q3⟩; obtain ⟨b1, b2, b3, d1, d2, d3, rfl, o1, o2, o3, oap⟩ := hn.out; clear hn; rw [E1.out] at o1; rw [E2.out] at o2; rw [E3.out] at o3; rw [E1.out, E2.out] at oap; rw [E1.out, E2.out, E3.out, HL.out]; have OAP := hidden oap; have O1 := hidden o1; have O2 := hidden o2; have O3 := hidden o3; have I0 := hidden (blk_kept q3 (fun h => h) H0.out); have I1 := hidden (blk_kept q3 (fun h => h) H1.out); have K3 := hidden (K2.out.trans q3); have hz : 0 < k2 := (by have := HV12.out; omega); obtain ⟨gb, db, hgb, hg1, hg2⟩ := o2.form hz; simp only [Value.slice.injEq] at hgb; obtain ⟨rfl, -, rfl⟩ := hgb; have hc2 : (cn : Int) < (k2 : Int) := (by have := HV12.out; omega); have o2a := o2.alloc (.cells #[.bool true, .slice b1 k1 d1, .slice (some ⟨gb, 0, none⟩) k2 d2, .slice b3 k3 d3] 25); obtain ⟨m1, m2⟩ := own_cellN o2a (i := cn) _ (TS_at n.vals (by rw [E2.out]; have := HV12.out; omega)); have hw3 := blk_lt (blk_kept q3 (fun h => h) H1.out); have ks : Kept (only gb) w3 (w3.setCell ⟨gb, cn, none⟩ (.string value)) := (Kept.refl (only gb) w3).setCell (p := ⟨gb, cn, none⟩) rfl _; have c0 : ((w3.setCell ⟨gb, cn, none⟩ (.string value)).alloc (.cells #[.bool true, .slice b1 k1 d1, .slice (some ⟨gb, 0, none⟩) k2 d2, .slice b3 k3 d3] 25)).heap[w3.heap.size]? = some (.cells #[.bool true, .slice b1 k1 d1, .slice (some ⟨gb, 0, none⟩) k2 d2, .slice b3 k3 d3] 25 (0, 0)) := (by have h9 := blk_new (w3.setCell ⟨gb, cn, none⟩ (.string value)) (.cells #[.bool true, .slice b1 k1 d1, .slice (some ⟨gb, 0, none⟩) k2 d2, .slice b3 k3 d3] 25); have h8 : (w3.setCell ⟨gb, cn, none⟩ (.string value)).heap.size = w3.heap.size := (by simp [World.setCell]); rw [h8] at h9; exact h9); have hgb1 : w.heap.size + 1 < gb := (by have h5 := blk_lt H1.out; omega); have c1 := blk_alloc (blk_kept ks (by show ¬ w.heap.size + 1 = gb; omega) (blk_kept q3 (fun h => h) H1.out)) (.cells #[.bool true, .slice b1 k1 d1, .slice (some ⟨gb, 0, none⟩) k2 d2, .slice b3 k3 d3] 25); have uc0 : ((w3.setCell ⟨gb, cn, none⟩ (.string value)).alloc (.cells #[.bool true, .slice b1 k1 d1, .slice (some ⟨gb, 0, none⟩) k2 d2, .slice b3 k3 d3] 25)).cell? ⟨w3.heap.size, 0, none⟩ = some (.bool true) := blk_cell c0; have uc1 : ((w3.setCell ⟨gb, cn, none⟩ (.string value)).alloc (.cells #[.bool true, .slice b1 k1 d1, .slice (some ⟨gb, 0, none⟩) k2 d2, .slice b3 k3 d3] 25)).cell? ⟨w3.heap.size, 1, none⟩ = some (.slice b1 k1 d1) := blk_cell c0; have uc2 : ((w3.setCell ⟨gb, cn, none⟩ (.string value)).alloc (.cells #[.bool true, .slice b1 k1 d1, .slice (some ⟨gb, 0, none⟩) k2 d2, .slice b3 k3 d3] 25)).cell? ⟨w3.heap.size, 2, none⟩ = some (.slice (some ⟨gb, 0, none⟩) k2 d2) := blk_cell c0; have uc3 : ((w3.setCell ⟨gb, cn, none⟩ (.string value)).alloc (.cells #[.bool true, .slice b1 k1 d1, .slice (some ⟨gb, 0, none⟩) k2 d2, .slice b3 k3 d3] 25)).cell? ⟨w3.heap.size, 3, none⟩ = some (.slice b3 k3 d3) := blk_cell c0; have v2 : (w3.alloc (.cells #[.bool true, .slice b1 k1 d1, .slice (some ⟨gb, 0, none⟩) k2 d2, .slice b3 k3 d3] 25)).cell? ⟨w3.heap.size, 2, none⟩ = some (.slice (some ⟨gb, 0, none⟩) k2 d2) := blk_cell (blk_new w3 _); have bb0 := blk_kept ks (by show ¬ w.heap.size + 1 = gb; omega) (blk_kept q3 (fun h => h) H1.out); have sc0 : ((w3.setCell ⟨gb, cn, none⟩ (.string value)).alloc (.cells #[.bool true, .slice b1 k1 d1, .slice (some ⟨gb, 0, none⟩) k2 d2, .slice b3 k3 d3] 25)).cell? ⟨w.heap.size + 1, 0, none⟩ = some (.bool false) := blk_cell (blk_alloc bb0 _); have sf0 : ((w3.setCell ⟨gb, cn, none⟩ (.string value)).alloc (.cells #[.bool true, .slice b1 k1 d1, .slice (some ⟨gb, 0, none⟩) k2 d2, .slice b3 k3 d3] 25)).frozen? ⟨w.heap.size + 1, 0, none⟩ = false := blk_free (blk_alloc bb0 _); have bb1 : ((w3.setCell ⟨gb, cn, none⟩ (.string value)).setCell ⟨w.heap.size + 1, 0, none⟩ (.bool true)).heap[w.heap.size + 1]? = some (.cells #[.bool true, .slice none 0 0, .slice none 0 0, .slice none 0 0] 25 (0, 0)) := blk_set bb0 _; have sc1 : (((w3.setCell ⟨gb, cn, none⟩ (.string value)).setCell ⟨w.heap.size + 1, 0, none⟩ (.bool true)).alloc (.cells #[.bool true, .slice b1 k1 d1, .slice (some ⟨gb, 0, none⟩) k2 d2, .slice b3 k3 d3] 25)).cell? ⟨w.heap.size + 1, 1, none⟩ = some (.slice none 0 0) := blk_cell (blk_alloc bb1 _); have sf1 : (((w3.setCell ⟨gb, cn, none⟩ (.string value)).setCell ⟨w.heap.size + 1, 0, none⟩ (.bool true)).alloc (.cells #[.bool true, .slice b1 k1 d1, .slice (some ⟨gb, 0, none⟩) k2 d2, .slice b3 k3 d3] 25)).frozen? ⟨w.heap.size + 1, 1, none⟩ = false := blk_free (blk_alloc bb1 _); have bb2 : (((w3.setCell ⟨gb, cn, none⟩ (.string value)).setCell ⟨w.heap.size + 1, 0, none⟩ (.bool true)).setCell ⟨w.heap.size + 1, 1, none⟩ (.slice b1 k1 d1)).heap[w.heap.size + 1]? = some (.cells #[.bool true, .slice b1 k1 d1, .slice none 0 0, .slice none 0 0] 25 (0, 0)) := blk_set bb1 _; have sc2 : ((((w3.setCell ⟨gb, cn, none⟩ (.string value)).setCell ⟨w.heap.size + 1, 0, none⟩ (.bool true)).setCell ⟨w.heap.size + 1, 1, none⟩ (.slice b1 k1 d1)).alloc (.cells #[.bool true, .slice b1 k1 d1, .slice (some ⟨gb, 0, none⟩) k2 d2, .slice b3 k3 d3] 25)).cell? ⟨w.heap.size + 1, 2, none⟩ = some (.slice none 0 0) := blk_cell (blk_alloc bb2 _); have sf2 : ((((w3.setCell ⟨gb, cn, none⟩ (.string value)).setCell ⟨w.heap.size + 1, 0, none⟩ (.bool true)).setCell ⟨w.heap.size + 1, 1, none⟩ (.slice b1 k1 d1)).alloc (.cells #[.bool true, .slice b1 k1 d1, .slice (some ⟨gb, 0, none⟩) k2 d2, .slice b3 k3 d3] 25)).frozen? ⟨w.heap.size + 1, 2, none⟩ = false := blk_free (blk_alloc bb2 _); have bb3 : ((((w3.setCell ⟨gb, cn, none⟩ (.string value)).setCell ⟨w.heap.size + 1, 0, none⟩ (.bool true)).setCell ⟨w.heap.size + 1, 1, none⟩ (.slice b1 k1 d1)).setCell ⟨w.heap.size + 1, 2, none⟩ (.slice (some ⟨gb, 0, none⟩) k2 d2)).heap[w.heap.size + 1]? = some (.cells #[.bool true, .slice b1 k1 d1, .slice (some ⟨gb, 0, none⟩) k2 d2, .slice none 0 0] 25 (0, 0)) := blk_set bb2 _; have sc3 : (((((w3.setCell ⟨gb, cn, none⟩ (.string value)).setCell ⟨w.heap.size + 1, 0, none⟩ (.bool true)).setCell ⟨w.heap.size + 1, 1, none⟩ (.slice b1 k1 d1)).setCell ⟨w.heap.size + 1, 2, none⟩ (.slice (some ⟨gb, 0, none⟩) k2 d2)).alloc (.cells #[.bool true, .slice b1 k1 d1, .slice (some ⟨gb, 0, none⟩) k2 d2, .slice b3 k3 d3] 25)).cell? ⟨w.heap.size + 1, 3, none⟩ = some (.slice none 0 0) := blk_cell (blk_alloc bb3 _); have sf3 : (((((w3.setCell ⟨gb, cn, none⟩ (.string value)).setCell ⟨w.heap.size + 1, 0, none⟩ (.bool true)).setCell ⟨w.heap.size + 1, 1, none⟩ (.slice b1 k1 d1)).setCell ⟨w.heap.size + 1, 2, none⟩ (.slice (some ⟨gb, 0, none⟩) k2 d2)).alloc (.cells #[.bool true, .slice b1 k1 d1, .slice (some ⟨gb, 0, none⟩) k2 d2, .slice b3 k3 d3] 25)).frozen? ⟨w.heap.size + 1, 3, none⟩ = false := blk_free (blk_alloc bb3 _); have J1 := hidden bb0; have KE := hidden (K3.out.setNew (p := ⟨gb, cn, none⟩) (by show w.heap.size ≤ gb; omega) (.string value)); have Q2 := hidden (own_setN (i := cn) o2 (.string value)); have Q1 := hidden (own_kept O1.out ks (fun k hk hs => OAP.out (by have := HV12.out; omega) k hk (by have e : k = gb := hs; rw [e]; rfl))); have Q3 := hidden (own_kept O3.out ks (fun k hk hs => own_typesN O3.out o2 (by decide) k hk (by have e : k = gb := hs; rw [e]; rfl))); clear o2a c0 c1 ks bb0 bb1 bb2 bb3; clear q3 o1 o2 o3 oap))
  have gf := blk_alloc (fill4 J1.out (.bool true) (.slice b1 k1 d1) (.slice (some ⟨gb, 0, none⟩) k2 d2) (.slice b3 k3 d3)) (.cells #[.bool true, .slice b1 k1 d1, .slice (some ⟨gb, 0, none⟩) k2 d2, .slice b3 k3 d3] 25)
  have kf0 := kept_fill4 (W := (w3.setCell ⟨gb, cn, none⟩ (.string value))) (g := w.heap.size + 1) (.bool true) (.slice b1 k1 d1) (.slice (some ⟨gb, 0, none⟩) k2 d2) (.slice b3 k3 d3)
  have sf := (same_fill4 KE.out (g := w.heap.size + 1) (by omega) (.bool true) (.slice b1 k1 d1) (.slice (some ⟨gb, 0, none⟩) k2 d2) (.slice b3 k3 d3)).alloc (.cells #[.bool true, .slice b1 k1 d1, .slice (some ⟨gb, 0, none⟩) k2 d2, .slice b3 k3 d3] 25)
  have kf := (kf0.alloc (.cells #[.bool true, .slice b1 k1 d1, .slice (some ⟨gb, 0, none⟩) k2 d2, .slice b3 k3 d3] 25))
  clear kf0
  generalize (((((w3.setCell ⟨gb, cn, none⟩ (.string value)).setCell ⟨w.heap.size + 1, 0, none⟩ (.bool true)).setCell ⟨w.heap.size + 1, 1, none⟩ (.slice b1 k1 d1)).setCell ⟨w.heap.size + 1, 2, none⟩ (.slice (some ⟨gb, 0, none⟩) k2 d2)).setCell ⟨w.heap.size + 1, 3, none⟩ (.slice b3 k3 d3)).alloc (.cells #[.bool true, .slice b1 k1 d1, .slice (some ⟨gb, 0, none⟩) k2 d2, .slice b3 k3 d3] 25) = WF at gf kf sf ⊢
  have qc0 : WF.cell? ⟨w.heap.size + 1, 0, none⟩ = some (.bool true) := blk_cell gf
  have qc1 : WF.cell? ⟨w.heap.size + 1, 1, none⟩ = some (.slice b1 k1 d1) := blk_cell gf
  have qc2 : WF.cell? ⟨w.heap.size + 1, 2, none⟩ = some (.slice (some ⟨gb, 0, none⟩) k2 d2) := blk_cell gf
  have qc3 : WF.cell? ⟨w.heap.size + 1, 3, none⟩ = some (.slice b3 k3 d3) := blk_cell gf
  refine bodyPost_ret (v := .tuple #[.agg #[.bool true, .slice b1 k1 d1, .slice (some ⟨gb, 0, none⟩) k2 d2, .slice b3 k3 d3], .int .i64 0]) (by simp [results, Tryd.results23, go_sem, qc0, qc1, qc2, qc3]) rfl ⟨_, rfl, ⟨⟨.agg #[.bool true, .slice b1 k1 d1, .slice (some ⟨gb, 0, none⟩) k2 d2, .slice b3 k3 d3], rfl, ?_, sf⟩⟩⟩
  have hB1 := blk_lt H1.out
  have e1 := E1.out
  have e2 := E2.out
  have e3 := E3.out
  subst e1 e2 e3
  have hK2 := K2.out.size
  refine ⟨b1, some ⟨gb, 0, none⟩, b3, d1, d2, d3, by simp, ?_, ?_, ?_, ?_⟩
  · exact own_mono (own_kept Q1.out kf (fun k hk hs => by have h1 := own_geN Q1.out k hk; have h2 : k = w.heap.size + 1 := hs; omega)) (by omega)
  · have h9 := own_mono (own_kept Q2.out kf (fun k hk hs => by have h1 := own_geN Q2.out k hk; have h2 : k = w.heap.size + 1 := hs; omega)) (show w.heap.size ≤ w2.heap.size by omega)
    have hts : TS (n.vals.set cn value) = (TS n.vals).set cn (.string value) := by simp [TS]
    rw [hts, List.length_set]
    exact h9
  · exact own_mono (own_kept Q3.out kf (fun k hk hs => by have h1 := own_geN Q3.out k hk; have h2 : k = w.heap.size + 1 := hs; omega)) (by omega)
  · rw [List.length_set]
    exact OAP.out
end Go.Proofs.YtilnogadopmboaaDoor
