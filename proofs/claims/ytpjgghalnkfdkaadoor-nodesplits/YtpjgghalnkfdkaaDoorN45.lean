/- node: Split: refused. (Made by mkn45.py.) -/
import Derived.Test.YtpjgghalnkfdkaaDoorN44
namespace Go.Proofs.YtpjgghalnkfdkaaDoor
open Go.RowKit
set_option linter.unusedVariables false
set_option linter.unusedSimpArgs false
theorem NdO.low {B C : Nat} {w : World} {u : Value} {n : Nd} (h : NdO B w u n) (hc : C ≤ B) : NdO C w u n := by
  obtain ⟨a1, a2, a3, c1, c2, c3, h0, h1, h2, h3⟩ := h.ex
  exact ⟨a1, a2, a3, c1, c2, c3, h0, own_low h1 hc, own_low h2 hc, own_low h3 hc⟩
theorem NdO.four {B : Nat} {w : World} {u : Value} {n : Nd} (h : NdO B w u n) : ∃ (xb : Bool) (p1 p2 p3 : Option Addr) (l1 l2 l3 d1 d2 d3 : Nat), u = .agg #[.bool xb, .slice p1 l1 d1, .slice p2 l2 d2, .slice p3 l3 d3] := by
  obtain ⟨a1, a2, a3, c1, c2, c3, h0, h1, h2, h3⟩ := h.ex
  exact ⟨_, _, _, _, _, _, _, _, _, _, h0⟩
theorem NdO.zero (B : Nat) (w : World) : NdO B w (.agg #[.bool false, .slice none 0 0, .slice none 0 0, .slice none 0 0]) Nd.zero :=
  ⟨none, none, none, 0, 0, 0, rfl, World.ownsRow_nil _ _ _ _, World.ownsRow_nil _ _ _ _, World.ownsRow_nil _ _ _ _⟩
/-- What Split gives. -/
structure SpR (m1 : Nd) (x : ByteArray) (m2 : Nd) (z : Int) (w : World) (u : Value) (W : World) : Prop where
  ex : ∃ u1 u2, u = .tuple #[u1, .string x, u2, .int .i64 z] ∧ NdO w.heap.size W u1 m1 ∧ NdO w.heap.size W u2 m2 ∧ Same w W
theorem half_int (n : Nd) (a1 a2 a3 : Option Addr) (k1 c1 k2 c2 k3 c3 : Nat) (most i : Nat) (w : World) (r1 : Row w (.slice a1 k1 c1) (TS n.keys)) (r2 : Row w (.slice a2 k2 c2) (TS n.vals)) (r3 : Row w (.slice a3 k3 c3) (IS n.kids)) (hF : n.Fine) (hm : most ≤ n.keys.length) (hbd : n.keys.length ≤ 8796093022208) (hA : n.At most i) (x : Int) (hx : x = most) :
    Calls Tryd.prog 53 #[.agg #[.bool n.leaf, .slice a1 k1 c1, .slice a2 k2 c2, .slice a3 k3 c3], .int .i64 x] w fun e w' => e = .returned (.int .i64 i) ∧ Same w w' := by
  subst hx
  exact half_any n a1 a2 a3 k1 c1 k2 c2 k3 c3 most i w r1 r2 r3 hF hm hbd hA
theorem kept_fill8 {W : World} {g h : Nat} (v0 v1 v2 v3 u0 u1 u2 u3 : Value) : Kept (fun k => k = g ∨ k = h) W ((((((((W.setCell ⟨g, 0, none⟩ v0).setCell ⟨g, 1, none⟩ v1).setCell ⟨g, 2, none⟩ v2).setCell ⟨g, 3, none⟩ v3).setCell ⟨h, 0, none⟩ u0).setCell ⟨h, 1, none⟩ u1).setCell ⟨h, 2, none⟩ u2).setCell ⟨h, 3, none⟩ u3) :=
  ((((((((Kept.refl _ W).setCell (p := ⟨g, 0, none⟩) (.inl rfl) v0).setCell (p := ⟨g, 1, none⟩) (.inl rfl) v1).setCell (p := ⟨g, 2, none⟩) (.inl rfl) v2).setCell (p := ⟨g, 3, none⟩) (.inl rfl) v3).setCell (p := ⟨h, 0, none⟩) (.inr rfl) u0).setCell (p := ⟨h, 1, none⟩) (.inr rfl) u1).setCell (p := ⟨h, 2, none⟩) (.inr rfl) u2).setCell (p := ⟨h, 3, none⟩) (.inr rfl) u3
theorem fill8 {W : World} {g h : Nat} {t t' : TypeId} {z0 z1 z2 z3 y0 y1 y2 y3 : Value} (hg : W.heap[g]? = some (.cells #[z0, z1, z2, z3] t (0, 0))) (hh : W.heap[h]? = some (.cells #[y0, y1, y2, y3] t' (0, 0))) (hne : g ≠ h) (v0 v1 v2 v3 u0 u1 u2 u3 : Value) :
    ((((((((W.setCell ⟨g, 0, none⟩ v0).setCell ⟨g, 1, none⟩ v1).setCell ⟨g, 2, none⟩ v2).setCell ⟨g, 3, none⟩ v3).setCell ⟨h, 0, none⟩ u0).setCell ⟨h, 1, none⟩ u1).setCell ⟨h, 2, none⟩ u2).setCell ⟨h, 3, none⟩ u3).heap[g]? = some (.cells #[v0, v1, v2, v3] t (0, 0)) ∧
    ((((((((W.setCell ⟨g, 0, none⟩ v0).setCell ⟨g, 1, none⟩ v1).setCell ⟨g, 2, none⟩ v2).setCell ⟨g, 3, none⟩ v3).setCell ⟨h, 0, none⟩ u0).setCell ⟨h, 1, none⟩ u1).setCell ⟨h, 2, none⟩ u2).setCell ⟨h, 3, none⟩ u3).heap[h]? = some (.cells #[u0, u1, u2, u3] t' (0, 0)) :=
  ⟨blk_kept (kept_fill4 u0 u1 u2 u3) (fun e => hne e) (fill4 hg v0 v1 v2 v3), fill4 (blk_kept (kept_fill4 v0 v1 v2 v3) (fun e => hne e.symm) hh) u0 u1 u2 u3⟩
theorem Kept.put4 {S : Nat → Prop} {a W : World} (h : Kept S a W) {g : Nat} (hg : S g) (v0 v1 v2 v3 : Value) : Kept S a ((((W.setCell ⟨g, 0, none⟩ v0).setCell ⟨g, 1, none⟩ v1).setCell ⟨g, 2, none⟩ v2).setCell ⟨g, 3, none⟩ v3) :=
  (((h.setCell (p := ⟨g, 0, none⟩) hg v0).setCell (p := ⟨g, 1, none⟩) hg v1).setCell (p := ⟨g, 2, none⟩) hg v2).setCell (p := ⟨g, 3, none⟩) hg v3
set_option maxHeartbeats 2000000 in
set_option maxRecDepth 100000 in
theorem split_bad (n : Nd) (a1 a2 a3 : Option Addr) (k1 c1 k2 c2 k3 c3 : Nat) (w : World) (r1 : Row w (.slice a1 k1 c1) (TS n.keys)) (r2 : Row w (.slice a2 k2 c2) (TS n.vals)) (r3 : Row w (.slice a3 k3 c3) (IS n.kids)) (hb : n.Bd) (hc : n.chk ≠ 0) :
    Calls Tryd.prog 27 #[.agg #[.bool n.leaf, .slice a1 k1 c1, .slice a2 k2 c2, .slice a3 k3 c3]] w fun e w' => ∃ u, e = .returned u ∧ SpR Nd.zero ⟨#[]⟩ Nd.zero n.chk w u w' := by
  have HCk := hidden (fun W (k : Same w W) => check_any n a1 a2 a3 k1 c1 k2 c2 k3 c3 W (r1.same k) (r2.same k) (r3.same k) hb)
  generalize n.chk = z at *
  have hz : (z == 0) = false := beq_eq_false_iff_ne.2 hc
  have hz2 : (z != 0) = true := by rw [bne_iff_ne]; exact hc
  clear r1 r2 r3 hb
  have bx := blk_alloc (blk_alloc (blk_new w (.cells #[.bool n.leaf, .slice a1 k1 c1, .slice a2 k2 c2, .slice a3 k3 c3] 25)) (.cells #[.bool false, .slice none 0 0, .slice none 0 0, .slice none 0 0] 25)) (.cells #[.bool false, .slice none 0 0, .slice none 0 0, .slice none 0 0] 25)
  have by' := blk_alloc (blk_new (w.alloc (.cells #[.bool n.leaf, .slice a1 k1 c1, .slice a2 k2 c2, .slice a3 k3 c3] 25)) (.cells #[.bool false, .slice none 0 0, .slice none 0 0, .slice none 0 0] 25)) (.cells #[.bool false, .slice none 0 0, .slice none 0 0, .slice none 0 0] 25)
  have bz' := blk_new ((w.alloc (.cells #[.bool n.leaf, .slice a1 k1 c1, .slice a2 k2 c2, .slice a3 k3 c3] 25)).alloc (.cells #[.bool false, .slice none 0 0, .slice none 0 0, .slice none 0 0] 25)) (.cells #[.bool false, .slice none 0 0, .slice none 0 0, .slice none 0 0] 25)
  rw [show (w.alloc (.cells #[.bool n.leaf, .slice a1 k1 c1, .slice a2 k2 c2, .slice a3 k3 c3] 25)).heap.size = w.heap.size + 1 by simp] at by'
  rw [show ((w.alloc (.cells #[.bool n.leaf, .slice a1 k1 c1, .slice a2 k2 c2, .slice a3 k3 c3] 25)).alloc (.cells #[.bool false, .slice none 0 0, .slice none 0 0, .slice none 0 0] 25)).heap.size = w.heap.size + 2 by simp] at bz'
  have K0 := hidden (((same_alloc w (.cells #[.bool n.leaf, .slice a1 k1 c1, .slice a2 k2 c2, .slice a3 k3 c3] 25)).alloc (.cells #[.bool false, .slice none 0 0, .slice none 0 0, .slice none 0 0] 25)).alloc (.cells #[.bool false, .slice none 0 0, .slice none 0 0, .slice none 0 0] 25))
  have zA : (((w.alloc (.cells #[.bool n.leaf, .slice a1 k1 c1, .slice a2 k2 c2, .slice a3 k3 c3] 25)).alloc (.cells #[.bool false, .slice none 0 0, .slice none 0 0, .slice none 0 0] 25)).alloc (.cells #[.bool false, .slice none 0 0, .slice none 0 0, .slice none 0 0] 25)).heap.size = w.heap.size + 3 := by simp
  have BX := hidden bx
  have BY := hidden by'
  have BZ := hidden bz'
  clear bx by' bz'
  go_enter Tryd.func27, Tryd.ntmps27
  go_wp2_with (first
    | (go_at_call 13; refine (HCk.out _ K0.out).mono ?_; rintro e w1 ⟨rfl, q1⟩; have BX1 := hidden (blk_kept q1 (fun h => h) BX.out); have BY1 := hidden (blk_kept q1 (fun h => h) BY.out); have BZ1 := hidden (blk_kept q1 (fun h => h) BZ.out); have K1 := hidden q1; have zK1 := q1.size; have x0 := blk_cell (j := 0) BX1.out; have x1 := blk_cell (j := 1) BX1.out; have x2 := blk_cell (j := 2) BX1.out; have x3 := blk_cell (j := 3) BX1.out; simp at x0 x1 x2 x3; have y0 := blk_cell (j := 0) BY1.out; have y1 := blk_cell (j := 1) BY1.out; have y2 := blk_cell (j := 2) BY1.out; have y3 := blk_cell (j := 3) BY1.out; simp at y0 y1 y2 y3; have z0 := blk_cell (j := 0) BZ1.out; have z1 := blk_cell (j := 1) BZ1.out; have z2 := blk_cell (j := 2) BZ1.out; have z3 := blk_cell (j := 3) BZ1.out; simp at z0 z1 z2 z3; have yf := (fun j => blk_free (j := j) BY1.out); have zf := (fun j => blk_free (j := j) BZ1.out); clear q1))
  have kf := kept_fill8 (W := w1) (g := w.heap.size + 1) (h := w.heap.size + 2) (.bool false) (.slice none 0 0) (.slice none 0 0) (.slice none 0 0) (.bool false) (.slice none 0 0) (.slice none 0 0) (.slice none 0 0)
  have hf := fill8 BY1.out BZ1.out (by omega) (.bool false) (.slice none 0 0) (.slice none 0 0) (.slice none 0 0) (.bool false) (.slice none 0 0) (.slice none 0 0) (.slice none 0 0)
  have kfin : Same w _ := (K0.out.trans K1.out).trans' kf (fun i hi hs => by omega)
  clear kf
  generalize ((((((((w1.setCell ⟨w.heap.size + 1, 0, none⟩ (.bool false)).setCell ⟨w.heap.size + 1, 1, none⟩ (.slice none 0 0)).setCell ⟨w.heap.size + 1, 2, none⟩ (.slice none 0 0)).setCell ⟨w.heap.size + 1, 3, none⟩ (.slice none 0 0)).setCell ⟨w.heap.size + 2, 0, none⟩ (.bool false)).setCell ⟨w.heap.size + 2, 1, none⟩ (.slice none 0 0)).setCell ⟨w.heap.size + 2, 2, none⟩ (.slice none 0 0)).setCell ⟨w.heap.size + 2, 3, none⟩ (.slice none 0 0)) = WF at *
  have s0 := blk_cell (j := 0) hf.1; have s1 := blk_cell (j := 1) hf.1; have s2 := blk_cell (j := 2) hf.1; have s3 := blk_cell (j := 3) hf.1; simp at s0 s1 s2 s3
  have t0 := blk_cell (j := 0) hf.2; have t1 := blk_cell (j := 1) hf.2; have t2 := blk_cell (j := 2) hf.2; have t3 := blk_cell (j := 3) hf.2; simp at t0 t1 t2 t3
  refine bodyPost_ret (v := .tuple #[.agg #[.bool false, .slice none 0 0, .slice none 0 0, .slice none 0 0], .string ⟨#[]⟩, .agg #[.bool false, .slice none 0 0, .slice none 0 0, .slice none 0 0], .int .i64 z]) (by simp [results, Tryd.results27, go_sem, s0, s1, s2, s3, t0, t1, t2, t3]) rfl ⟨_, rfl, ⟨_, _, rfl, NdO.zero _ _, NdO.zero _ _, kfin⟩⟩
set_option maxHeartbeats 2000000 in
set_option maxRecDepth 100000 in
theorem split_fewL (n : Nd) (a1 a2 a3 : Option Addr) (k1 c1 k2 c2 k3 c3 : Nat) (w : World) (r1 : Row w (.slice a1 k1 c1) (TS n.keys)) (r2 : Row w (.slice a2 k2 c2) (TS n.vals)) (r3 : Row w (.slice a3 k3 c3) (IS n.kids)) (hb : n.Bd) (hl : n.leaf = true) (hc : n.chk = 0) (hk : n.keys.length ≤ 1) :
    Calls Tryd.prog 27 #[.agg #[.bool n.leaf, .slice a1 k1 c1, .slice a2 k2 c2, .slice a3 k3 c3]] w fun e w' => ∃ u, e = .returned u ∧ SpR Nd.zero ⟨#[]⟩ Nd.zero 4 w u w' := by
  have HCk := hidden (fun W (k : Same w W) => check_any n a1 a2 a3 k1 c1 k2 c2 k3 c3 W (r1.same k) (r2.same k) (r3.same k) hb)
  have e1 := r1.tl
  rw [hc] at HCk
  rw [hl] at HCk ⊢
  rw [e1] at hk
  clear e1 hc hl
  clear r1 r2 r3 hb
  have bx := blk_alloc (blk_alloc (blk_new w (.cells #[.bool true, .slice a1 k1 c1, .slice a2 k2 c2, .slice a3 k3 c3] 25)) (.cells #[.bool false, .slice none 0 0, .slice none 0 0, .slice none 0 0] 25)) (.cells #[.bool false, .slice none 0 0, .slice none 0 0, .slice none 0 0] 25)
  have by' := blk_alloc (blk_new (w.alloc (.cells #[.bool true, .slice a1 k1 c1, .slice a2 k2 c2, .slice a3 k3 c3] 25)) (.cells #[.bool false, .slice none 0 0, .slice none 0 0, .slice none 0 0] 25)) (.cells #[.bool false, .slice none 0 0, .slice none 0 0, .slice none 0 0] 25)
  have bz' := blk_new ((w.alloc (.cells #[.bool true, .slice a1 k1 c1, .slice a2 k2 c2, .slice a3 k3 c3] 25)).alloc (.cells #[.bool false, .slice none 0 0, .slice none 0 0, .slice none 0 0] 25)) (.cells #[.bool false, .slice none 0 0, .slice none 0 0, .slice none 0 0] 25)
  rw [show (w.alloc (.cells #[.bool true, .slice a1 k1 c1, .slice a2 k2 c2, .slice a3 k3 c3] 25)).heap.size = w.heap.size + 1 by simp] at by'
  rw [show ((w.alloc (.cells #[.bool true, .slice a1 k1 c1, .slice a2 k2 c2, .slice a3 k3 c3] 25)).alloc (.cells #[.bool false, .slice none 0 0, .slice none 0 0, .slice none 0 0] 25)).heap.size = w.heap.size + 2 by simp] at bz'
  have K0 := hidden (((same_alloc w (.cells #[.bool true, .slice a1 k1 c1, .slice a2 k2 c2, .slice a3 k3 c3] 25)).alloc (.cells #[.bool false, .slice none 0 0, .slice none 0 0, .slice none 0 0] 25)).alloc (.cells #[.bool false, .slice none 0 0, .slice none 0 0, .slice none 0 0] 25))
  have zA : (((w.alloc (.cells #[.bool true, .slice a1 k1 c1, .slice a2 k2 c2, .slice a3 k3 c3] 25)).alloc (.cells #[.bool false, .slice none 0 0, .slice none 0 0, .slice none 0 0] 25)).alloc (.cells #[.bool false, .slice none 0 0, .slice none 0 0, .slice none 0 0] 25)).heap.size = w.heap.size + 3 := by simp
  have BX := hidden bx
  have BY := hidden by'
  have BZ := hidden bz'
  clear bx by' bz'
  have hk2 : (k1 : Int) - 1 < 1 := by omega
  have hk3 : (k1 : Int) ≤ 1 := by omega
  go_enter Tryd.func27, Tryd.ntmps27
  go_wp2_with (first
    | (go_at_call 13; refine (HCk.out _ K0.out).mono ?_; rintro e w1 ⟨rfl, q1⟩; have BX1 := hidden (blk_kept q1 (fun h => h) BX.out); have BY1 := hidden (blk_kept q1 (fun h => h) BY.out); have BZ1 := hidden (blk_kept q1 (fun h => h) BZ.out); have K1 := hidden q1; have zK1 := q1.size; have x0 := blk_cell (j := 0) BX1.out; have x1 := blk_cell (j := 1) BX1.out; have x2 := blk_cell (j := 2) BX1.out; have x3 := blk_cell (j := 3) BX1.out; simp at x0 x1 x2 x3; have y0 := blk_cell (j := 0) BY1.out; have y1 := blk_cell (j := 1) BY1.out; have y2 := blk_cell (j := 2) BY1.out; have y3 := blk_cell (j := 3) BY1.out; simp at y0 y1 y2 y3; have z0 := blk_cell (j := 0) BZ1.out; have z1 := blk_cell (j := 1) BZ1.out; have z2 := blk_cell (j := 2) BZ1.out; have z3 := blk_cell (j := 3) BZ1.out; simp at z0 z1 z2 z3; have yf := (fun j => blk_free (j := j) BY1.out); have zf := (fun j => blk_free (j := j) BZ1.out); clear q1))
  have kf := kept_fill8 (W := w1) (g := w.heap.size + 1) (h := w.heap.size + 2) (.bool false) (.slice none 0 0) (.slice none 0 0) (.slice none 0 0) (.bool false) (.slice none 0 0) (.slice none 0 0) (.slice none 0 0)
  have hf := fill8 BY1.out BZ1.out (by omega) (.bool false) (.slice none 0 0) (.slice none 0 0) (.slice none 0 0) (.bool false) (.slice none 0 0) (.slice none 0 0) (.slice none 0 0)
  have kfin : Same w _ := (K0.out.trans K1.out).trans' kf (fun i hi hs => by omega)
  clear kf
  generalize ((((((((w1.setCell ⟨w.heap.size + 1, 0, none⟩ (.bool false)).setCell ⟨w.heap.size + 1, 1, none⟩ (.slice none 0 0)).setCell ⟨w.heap.size + 1, 2, none⟩ (.slice none 0 0)).setCell ⟨w.heap.size + 1, 3, none⟩ (.slice none 0 0)).setCell ⟨w.heap.size + 2, 0, none⟩ (.bool false)).setCell ⟨w.heap.size + 2, 1, none⟩ (.slice none 0 0)).setCell ⟨w.heap.size + 2, 2, none⟩ (.slice none 0 0)).setCell ⟨w.heap.size + 2, 3, none⟩ (.slice none 0 0)) = WF at *
  have s0 := blk_cell (j := 0) hf.1; have s1 := blk_cell (j := 1) hf.1; have s2 := blk_cell (j := 2) hf.1; have s3 := blk_cell (j := 3) hf.1; simp at s0 s1 s2 s3
  have t0 := blk_cell (j := 0) hf.2; have t1 := blk_cell (j := 1) hf.2; have t2 := blk_cell (j := 2) hf.2; have t3 := blk_cell (j := 3) hf.2; simp at t0 t1 t2 t3
  refine bodyPost_ret (v := .tuple #[.agg #[.bool false, .slice none 0 0, .slice none 0 0, .slice none 0 0], .string ⟨#[]⟩, .agg #[.bool false, .slice none 0 0, .slice none 0 0, .slice none 0 0], .int .i64 4]) (by simp [results, Tryd.results27, go_sem, s0, s1, s2, s3, t0, t1, t2, t3]) rfl ⟨_, rfl, ⟨_, _, rfl, NdO.zero _ _, NdO.zero _ _, kfin⟩⟩
set_option maxHeartbeats 2000000 in
set_option maxRecDepth 100000 in
theorem split_fewI (n : Nd) (a1 a2 a3 : Option Addr) (k1 c1 k2 c2 k3 c3 : Nat) (w : World) (r1 : Row w (.slice a1 k1 c1) (TS n.keys)) (r2 : Row w (.slice a2 k2 c2) (TS n.vals)) (r3 : Row w (.slice a3 k3 c3) (IS n.kids)) (hb : n.Bd) (hl : n.leaf = false) (hc : n.chk = 0) (hk : n.keys.length ≤ 2) :
    Calls Tryd.prog 27 #[.agg #[.bool n.leaf, .slice a1 k1 c1, .slice a2 k2 c2, .slice a3 k3 c3]] w fun e w' => ∃ u, e = .returned u ∧ SpR Nd.zero ⟨#[]⟩ Nd.zero 4 w u w' := by
  have HCk := hidden (fun W (k : Same w W) => check_any n a1 a2 a3 k1 c1 k2 c2 k3 c3 W (r1.same k) (r2.same k) (r3.same k) hb)
  have e1 := r1.tl
  rw [hc] at HCk
  rw [hl] at HCk ⊢
  rw [e1] at hk
  clear e1 hc hl
  clear r1 r2 r3 hb
  have bx := blk_alloc (blk_alloc (blk_new w (.cells #[.bool false, .slice a1 k1 c1, .slice a2 k2 c2, .slice a3 k3 c3] 25)) (.cells #[.bool false, .slice none 0 0, .slice none 0 0, .slice none 0 0] 25)) (.cells #[.bool false, .slice none 0 0, .slice none 0 0, .slice none 0 0] 25)
  have by' := blk_alloc (blk_new (w.alloc (.cells #[.bool false, .slice a1 k1 c1, .slice a2 k2 c2, .slice a3 k3 c3] 25)) (.cells #[.bool false, .slice none 0 0, .slice none 0 0, .slice none 0 0] 25)) (.cells #[.bool false, .slice none 0 0, .slice none 0 0, .slice none 0 0] 25)
  have bz' := blk_new ((w.alloc (.cells #[.bool false, .slice a1 k1 c1, .slice a2 k2 c2, .slice a3 k3 c3] 25)).alloc (.cells #[.bool false, .slice none 0 0, .slice none 0 0, .slice none 0 0] 25)) (.cells #[.bool false, .slice none 0 0, .slice none 0 0, .slice none 0 0] 25)
  rw [show (w.alloc (.cells #[.bool false, .slice a1 k1 c1, .slice a2 k2 c2, .slice a3 k3 c3] 25)).heap.size = w.heap.size + 1 by simp] at by'
  rw [show ((w.alloc (.cells #[.bool false, .slice a1 k1 c1, .slice a2 k2 c2, .slice a3 k3 c3] 25)).alloc (.cells #[.bool false, .slice none 0 0, .slice none 0 0, .slice none 0 0] 25)).heap.size = w.heap.size + 2 by simp] at bz'
  have K0 := hidden (((same_alloc w (.cells #[.bool false, .slice a1 k1 c1, .slice a2 k2 c2, .slice a3 k3 c3] 25)).alloc (.cells #[.bool false, .slice none 0 0, .slice none 0 0, .slice none 0 0] 25)).alloc (.cells #[.bool false, .slice none 0 0, .slice none 0 0, .slice none 0 0] 25))
  have zA : (((w.alloc (.cells #[.bool false, .slice a1 k1 c1, .slice a2 k2 c2, .slice a3 k3 c3] 25)).alloc (.cells #[.bool false, .slice none 0 0, .slice none 0 0, .slice none 0 0] 25)).alloc (.cells #[.bool false, .slice none 0 0, .slice none 0 0, .slice none 0 0] 25)).heap.size = w.heap.size + 3 := by simp
  have BX := hidden bx
  have BY := hidden by'
  have BZ := hidden bz'
  clear bx by' bz'
  have hk2 : (k1 : Int) - 1 - 1 < 1 := by omega
  have hk3 : (k1 : Int) ≤ 2 := by omega
  go_enter Tryd.func27, Tryd.ntmps27
  go_wp2_with (first
    | (go_at_call 13; refine (HCk.out _ K0.out).mono ?_; rintro e w1 ⟨rfl, q1⟩; have BX1 := hidden (blk_kept q1 (fun h => h) BX.out); have BY1 := hidden (blk_kept q1 (fun h => h) BY.out); have BZ1 := hidden (blk_kept q1 (fun h => h) BZ.out); have K1 := hidden q1; have zK1 := q1.size; have x0 := blk_cell (j := 0) BX1.out; have x1 := blk_cell (j := 1) BX1.out; have x2 := blk_cell (j := 2) BX1.out; have x3 := blk_cell (j := 3) BX1.out; simp at x0 x1 x2 x3; have y0 := blk_cell (j := 0) BY1.out; have y1 := blk_cell (j := 1) BY1.out; have y2 := blk_cell (j := 2) BY1.out; have y3 := blk_cell (j := 3) BY1.out; simp at y0 y1 y2 y3; have z0 := blk_cell (j := 0) BZ1.out; have z1 := blk_cell (j := 1) BZ1.out; have z2 := blk_cell (j := 2) BZ1.out; have z3 := blk_cell (j := 3) BZ1.out; simp at z0 z1 z2 z3; have yf := (fun j => blk_free (j := j) BY1.out); have zf := (fun j => blk_free (j := j) BZ1.out); clear q1))
  have kf := kept_fill8 (W := w1) (g := w.heap.size + 1) (h := w.heap.size + 2) (.bool false) (.slice none 0 0) (.slice none 0 0) (.slice none 0 0) (.bool false) (.slice none 0 0) (.slice none 0 0) (.slice none 0 0)
  have hf := fill8 BY1.out BZ1.out (by omega) (.bool false) (.slice none 0 0) (.slice none 0 0) (.slice none 0 0) (.bool false) (.slice none 0 0) (.slice none 0 0) (.slice none 0 0)
  have kfin : Same w _ := (K0.out.trans K1.out).trans' kf (fun i hi hs => by omega)
  clear kf
  generalize ((((((((w1.setCell ⟨w.heap.size + 1, 0, none⟩ (.bool false)).setCell ⟨w.heap.size + 1, 1, none⟩ (.slice none 0 0)).setCell ⟨w.heap.size + 1, 2, none⟩ (.slice none 0 0)).setCell ⟨w.heap.size + 1, 3, none⟩ (.slice none 0 0)).setCell ⟨w.heap.size + 2, 0, none⟩ (.bool false)).setCell ⟨w.heap.size + 2, 1, none⟩ (.slice none 0 0)).setCell ⟨w.heap.size + 2, 2, none⟩ (.slice none 0 0)).setCell ⟨w.heap.size + 2, 3, none⟩ (.slice none 0 0)) = WF at *
  have s0 := blk_cell (j := 0) hf.1; have s1 := blk_cell (j := 1) hf.1; have s2 := blk_cell (j := 2) hf.1; have s3 := blk_cell (j := 3) hf.1; simp at s0 s1 s2 s3
  have t0 := blk_cell (j := 0) hf.2; have t1 := blk_cell (j := 1) hf.2; have t2 := blk_cell (j := 2) hf.2; have t3 := blk_cell (j := 3) hf.2; simp at t0 t1 t2 t3
  refine bodyPost_ret (v := .tuple #[.agg #[.bool false, .slice none 0 0, .slice none 0 0, .slice none 0 0], .string ⟨#[]⟩, .agg #[.bool false, .slice none 0 0, .slice none 0 0, .slice none 0 0], .int .i64 4]) (by simp [results, Tryd.results27, go_sem, s0, s1, s2, s3, t0, t1, t2, t3]) rfl ⟨_, rfl, ⟨_, _, rfl, NdO.zero _ _, NdO.zero _ _, kfin⟩⟩
end Go.Proofs.YtpjgghalnkfdkaaDoor
