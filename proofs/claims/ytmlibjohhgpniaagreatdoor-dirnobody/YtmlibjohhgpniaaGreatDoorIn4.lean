/- inode: New, Remove. (Made by mkin4.py.) -/
import Derived.Test.YtmlibjohhgpniaaGreatDoorIn3
namespace Go.Proofs.YtmlibjohhgpniaaGreatDoor
open Go.RowKit
set_option linter.unusedVariables false
set_option linter.unusedSimpArgs false
structure NewP (w : World) (d : Bool) (i pa : Nat) (m : Nd) (u : Value) (W : World) : Prop where
  out : ∃ g q z1 z2 z3 d1 d2 d3, u = .tuple #[.pointer (some ⟨g, 0, none⟩), .agg #[.int .i64 i, .bool d, .int .i64 0, .int .i64 0, .int .i64 pa], .int .i64 0] ∧ LT W g q m z1 z2 z3 m.keys.length d1 m.vals.length d2 m.kids.length d3 ∧ Same w W
theorem Row.but {w W : World} {R : Nat} {cs : Array Value} {t : TypeId} {v : Value} {l : List ByteArray} (h : Row w v (TS l)) (k : Kept (only R) w W) (hb : w.heap[R]? = some (.cells cs t (0, 0))) (hns : ∀ (j : Nat) (x : ByteArray), cs[j]? ≠ some (.string x)) : Row W v (TS l) := by
  obtain ⟨a, cap, h1, h2, h3, h4⟩ := h
  refine ⟨a, cap, h1, h2, h3, fun hp => ?_⟩
  obtain ⟨b, off, e, hc⟩ := h4 hp
  refine ⟨b, off, e, fun j x hj => k.cell (p := ⟨b, off + j, none⟩) (fun (hs : b = R) => ?_) (hc j x hj)⟩
  have hx := hc j x hj
  rw [hs, blk_cell hb] at hx
  obtain ⟨y, hy⟩ : ∃ y, x = .string y := by
    have hm : x ∈ TS l := List.mem_of_getElem? hj
    obtain ⟨y, _, rfl⟩ := List.mem_map.1 hm
    exact ⟨y, rfl⟩
  rw [hy] at hx
  exact hns _ _ hx
theorem Row.none' {w W : World} {v : Value} (h : Row w v []) : Row W v [] := by
  obtain ⟨a, cap, h1, h2, h3, h4⟩ := h
  exact ⟨a, cap, h1, h2, h3, fun hp => absurd hp (by simp)⟩
theorem LT.but {w W : World} {g p R : Nat} {n : Nd} {a1 a2 a3 : Option Addr} {k1 c1 k2 c2 k3 c3 : Nat} {cs : Array Value} {t : TypeId} (h : LT w g p n a1 a2 a3 k1 c1 k2 c2 k3 c3) (k : Kept (only R) w W) (hb : w.heap[R]? = some (.cells cs t (0, 0))) (ht1 : t ≠ 120) (ht2 : t ≠ 103) (hns : ∀ (j : Nat) (x : ByteArray), cs[j]? ≠ some (.string x)) (hk : n.kids = []) : LT W g p n a1 a2 a3 k1 c1 k2 c2 k3 c3 := by
  refine ⟨blk_kept k (fun (e : g = R) => ?_) h.tr, ⟨blk_kept k (fun (e : p = R) => ?_) h.pg.box, h.pg.r1.but k hb hns, h.pg.r2.but k hb hns, ?_⟩⟩
  · have := h.tr
    rw [e, hb] at this
    simp at this
    exact ht1 this.2
  · have := h.pg.box
    rw [e, hb] at this
    simp at this
    exact ht2 this.2
  · have := h.pg.r3
    rw [hk] at this ⊢
    exact Row.none' this
theorem fill5 {W : World} {g : Nat} {t : TypeId} {z0 z1 z2 z3 z4 : Value} (h : W.heap[g]? = some (.cells #[z0, z1, z2, z3, z4] t (0, 0))) (v0 v1 v2 v3 v4 : Value) : (((((W.setCell ⟨g, 0, none⟩ v0).setCell ⟨g, 1, none⟩ v1).setCell ⟨g, 2, none⟩ v2).setCell ⟨g, 3, none⟩ v3).setCell ⟨g, 4, none⟩ v4).heap[g]? = some (.cells #[v0, v1, v2, v3, v4] t (0, 0)) := by
  have h1 : (W.setCell ⟨g, 0, none⟩ v0).heap[g]? = some (.cells #[v0, z1, z2, z3, z4] t (0, 0)) := blk_set h v0
  have h2 : ((W.setCell ⟨g, 0, none⟩ v0).setCell ⟨g, 1, none⟩ v1).heap[g]? = some (.cells #[v0, v1, z2, z3, z4] t (0, 0)) := blk_set h1 v1
  have h3 : (((W.setCell ⟨g, 0, none⟩ v0).setCell ⟨g, 1, none⟩ v1).setCell ⟨g, 2, none⟩ v2).heap[g]? = some (.cells #[v0, v1, v2, z3, z4] t (0, 0)) := blk_set h2 v2
  have h4 : ((((W.setCell ⟨g, 0, none⟩ v0).setCell ⟨g, 1, none⟩ v1).setCell ⟨g, 2, none⟩ v2).setCell ⟨g, 3, none⟩ v3).heap[g]? = some (.cells #[v0, v1, v2, v3, z4] t (0, 0)) := blk_set h3 v3
  exact blk_set h4 v4
theorem same_fill5 {w W : World} (k : Same w W) {g : Nat} (hg : w.heap.size ≤ g) (v0 v1 v2 v3 v4 : Value) : Same w (((((W.setCell ⟨g, 0, none⟩ v0).setCell ⟨g, 1, none⟩ v1).setCell ⟨g, 2, none⟩ v2).setCell ⟨g, 3, none⟩ v3).setCell ⟨g, 4, none⟩ v4) :=
  ((((k.setNew (p := ⟨g, 0, none⟩) hg v0).setNew (p := ⟨g, 1, none⟩) hg v1).setNew (p := ⟨g, 2, none⟩) hg v2).setNew (p := ⟨g, 3, none⟩) hg v3).setNew (p := ⟨g, 4, none⟩) hg v4
theorem kept_fill5 {W : World} {g : Nat} (v0 v1 v2 v3 v4 : Value) : Kept (only g) W (((((W.setCell ⟨g, 0, none⟩ v0).setCell ⟨g, 1, none⟩ v1).setCell ⟨g, 2, none⟩ v2).setCell ⟨g, 3, none⟩ v3).setCell ⟨g, 4, none⟩ v4) :=
  (((((Kept.refl (only g) W).setCell (p := ⟨g, 0, none⟩) rfl v0).setCell (p := ⟨g, 1, none⟩) rfl v1).setCell (p := ⟨g, 2, none⟩) rfl v2).setCell (p := ⟨g, 3, none⟩) rfl v3).setCell (p := ⟨g, 4, none⟩) rfl v4
set_option maxHeartbeats 2000000 in
set_option maxRecDepth 100000 in
theorem inew_true (n : Nd) (a1 a2 a3 : Option Addr) (k1 c1 k2 c2 k3 c3 : Nat) (i pa : Nat) (hi1 : 1 ≤ i) (hi2 : i ≤ 2147483646) (hp : parOk true pa) (hpa : pa < 4294967296) (hl : n.leaf = true) (hb : n.Bd) (hc : CtOk n i) {m1 m2 : Nd} (h1 : PutOk n kS (cV (i + 1)) m1) (h2 : PutOk m1 (kN 105 i) (iV 2 pa) m2) (hk0 : m2.kids = []) (w : World) (g p : Nat) (ht : LT w g p n a1 a2 a3 k1 c1 k2 c2 k3 c3) :
    Calls Tryz.prog 29 #[.pointer (some ⟨g, 0, none⟩), .bool true, .int .i64 pa] w fun e w' => ∃ u, e = .returned u ∧ NewP w true i pa m2 u w' := by
  obtain ⟨j, hj⟩ : ∃ j, j = i + 1 := ⟨_, rfl⟩
  rw [← hj] at h1
  have hwj : IntKind.i64.wrap ((i : Int) + 1) = (j : Int) := by rw [hj, show ((i + 1 : Nat) : Int) = (i : Int) + 1 by omega]; exact wrapN (by omega) (by omega)
  have hgt : ¬ (2147483647 : Int) < (i : Int) := by omega
  have HP := hidden (fun W => mayParent_yes true pa hp W)
  have HCo := hidden (fun W (k : Same w W) => countersOf_any n a1 a2 a3 k1 c1 k2 c2 k3 c3 i hl hb hc W g p (ht.same k))
  have HCp := hidden (fun W (k : Same w W) => cput n a1 a2 a3 k1 c1 k2 c2 k3 c3 j (by omega) h1 W g p (ht.same k))
  have HIp := hidden (fun W g' q' z1 z2 z3 d1 d2 d3 ht' => iput_true m1 z1 z2 z3 m1.keys.length d1 m1.vals.length d2 m1.kids.length d3 i pa hi1 (by omega) hp hpa h2 W g' q' ht')
  have K0 := hidden (same_alloc w (.cells #[.int .i64 0, .bool false, .int .i64 0, .int .i64 0, .int .i64 0] 62))
  have B0 := hidden (blk_new w (.cells #[.int .i64 0, .bool false, .int .i64 0, .int .i64 0, .int .i64 0] 62))
  have HJ := hidden hj
  clear ht hp h1 h2 hc hj hi1 hi2 hpa
  go_enter Tryz.func29, Tryz.ntmps29
  go_wp2_with (first
    | (go_at_call 85; refine (HP.out _).mono ?_; rintro e w1 ⟨rfl, rfl⟩)
    | (go_at_call 86; refine (HCo.out _ K0.out).mono ?_; rintro e w2 ⟨rfl, q2⟩; have k2 := (q2.alloc (.cells #[.int .i64 j, .int .i64 1, .int .i64 1] 160)).alloc (.cells #[.int .i64 i, .bool true, .int .i64 0, .int .i64 0, .int .i64 pa] 62); have K2 := hidden (K0.out.trans k2); have B2 := hidden (blk_kept k2 (fun h => h) B0.out); have X2 : Hid (((w2.alloc (.cells #[.int .i64 j, .int .i64 1, .int .i64 1] 160)).alloc (.cells #[.int .i64 i, .bool true, .int .i64 0, .int .i64 0, .int .i64 pa] 62)).heap[w2.heap.size + 1]? = some (.cells #[.int .i64 i, .bool true, .int .i64 0, .int .i64 0, .int .i64 pa] 62 (0, 0))) := hidden (by have := blk_new (w2.alloc (.cells #[.int .i64 j, .int .i64 1, .int .i64 1] 160)) (.cells #[.int .i64 i, .bool true, .int .i64 0, .int .i64 0, .int .i64 pa] 62); simpa using this); clear q2 k2)
    | (go_at_call 87; refine (HCp.out _ K2.out).mono ?_; rintro e w3 ⟨u, rfl, ⟨g', q', z1, z2, z3, d1, d2, d3, rfl, hlt, q3⟩⟩; have K3 := hidden (K2.out.trans q3); have B3 := hidden (blk_kept q3 (fun h => h) B2.out); have X3 := hidden (blk_kept q3 (fun h => h) X2.out); have L3 := hidden hlt; have x0 := blk_cell (j := 0) X3.out; have x1 := blk_cell (j := 1) X3.out; have x2 := blk_cell (j := 2) X3.out; have x3 := blk_cell (j := 3) X3.out; have x4 := blk_cell (j := 4) X3.out; clear q3 hlt)
    | (go_at_call 28; refine (HIp.out _ _ _ _ _ _ _ _ _ L3.out).mono ?_; rintro e w4 ⟨u, rfl, ⟨g4, q4', y1, y2, y3, e1, e2, e3, rfl, hlt, q4⟩⟩; have K4 := hidden (K3.out.trans q4); have B4 := hidden (blk_kept q4 (fun h => h) B3.out); have X4 := hidden (blk_kept q4 (fun h => h) X3.out); have L4 := hidden hlt; clear q4 hlt))
  have x0' : w4.cell? ⟨w2.heap.size + 1, 0, none⟩ = some (.int .i64 i) := blk_cell X4.out
  have x1' : w4.cell? ⟨w2.heap.size + 1, 1, none⟩ = some (.bool true) := blk_cell X4.out
  have x2' : w4.cell? ⟨w2.heap.size + 1, 2, none⟩ = some (.int .i64 0) := blk_cell X4.out
  have x3' : w4.cell? ⟨w2.heap.size + 1, 3, none⟩ = some (.int .i64 0) := blk_cell X4.out
  have x4' : w4.cell? ⟨w2.heap.size + 1, 4, none⟩ = some (.int .i64 pa) := blk_cell X4.out
  have y0' : w4.cell? ⟨w.heap.size, 0, none⟩ = some (.int .i64 0) := blk_cell B4.out
  have f0' : w4.frozen? ⟨w.heap.size, 0, none⟩ = false := blk_free B4.out
  have y1' : w4.cell? ⟨w.heap.size, 1, none⟩ = some (.bool false) := blk_cell B4.out
  have f1' : w4.frozen? ⟨w.heap.size, 1, none⟩ = false := blk_free B4.out
  have y2' : w4.cell? ⟨w.heap.size, 2, none⟩ = some (.int .i64 0) := blk_cell B4.out
  have f2' : w4.frozen? ⟨w.heap.size, 2, none⟩ = false := blk_free B4.out
  have y3' : w4.cell? ⟨w.heap.size, 3, none⟩ = some (.int .i64 0) := blk_cell B4.out
  have f3' : w4.frozen? ⟨w.heap.size, 3, none⟩ = false := blk_free B4.out
  have y4' : w4.cell? ⟨w.heap.size, 4, none⟩ = some (.int .i64 0) := blk_cell B4.out
  have f4' : w4.frozen? ⟨w.heap.size, 4, none⟩ = false := blk_free B4.out
  go_region_law (fail)
  all_goals
    go_wp2
    have gf := fill5 B4.out (.int .i64 i) (.bool true) (.int .i64 0) (.int .i64 0) (.int .i64 pa)
    have kf := kept_fill5 (W := w4) (g := w.heap.size) (.int .i64 i) (.bool true) (.int .i64 0) (.int .i64 0) (.int .i64 pa)
    have sf := same_fill5 K4.out (g := w.heap.size) (Nat.le_refl _) (.int .i64 i) (.bool true) (.int .i64 0) (.int .i64 0) (.int .i64 pa)
    have lf := (L4.out.but kf B4.out (by decide) (by decide) (fun j x => by rcases j with _ | _ | _ | _ | _ | j <;> simp) hk0).same ((Kept.refl _ _).drew)
    have sd := sf.drew
    have gd := blk_kept ((Kept.refl (fun _ => False) _).drew) (fun h => h) gf
    generalize (((((w4.setCell ⟨w.heap.size, 0, none⟩ (.int .i64 i)).setCell ⟨w.heap.size, 1, none⟩ (.bool true)).setCell ⟨w.heap.size, 2, none⟩ (.int .i64 0)).setCell ⟨w.heap.size, 3, none⟩ (.int .i64 0)).setCell ⟨w.heap.size, 4, none⟩ (.int .i64 pa)).drew = WF at lf sd gd ⊢
    have q0 := blk_cell (j := 0) gd
    have q1 := blk_cell (j := 1) gd
    have q2 := blk_cell (j := 2) gd
    have q3 := blk_cell (j := 3) gd
    have q4 := blk_cell (j := 4) gd
    refine bodyPost_ret (v := .tuple #[.pointer (some ⟨g4, 0, none⟩), .agg #[.int .i64 i, .bool true, .int .i64 0, .int .i64 0, .int .i64 pa], .int .i64 0]) (by simp [results, Tryz.results29, go_sem, q0, q1, q2, q3, q4]) rfl ⟨_, rfl, ⟨⟨g4, q4', y1, y2, y3, e1, e2, e3, rfl, lf, sd⟩⟩⟩
set_option maxHeartbeats 2000000 in
set_option maxRecDepth 100000 in
theorem inew_false (n : Nd) (a1 a2 a3 : Option Addr) (k1 c1 k2 c2 k3 c3 : Nat) (i pa : Nat) (hi1 : 1 ≤ i) (hi2 : i ≤ 2147483646) (hp : parOk false pa) (hpa : pa < 4294967296) (hl : n.leaf = true) (hb : n.Bd) (hc : CtOk n i) {m1 m2 : Nd} (h1 : PutOk n kS (cV (i + 1)) m1) (h2 : PutOk m1 (kN 105 i) (iV 1 pa) m2) (hk0 : m2.kids = []) (w : World) (g p : Nat) (ht : LT w g p n a1 a2 a3 k1 c1 k2 c2 k3 c3) :
    Calls Tryz.prog 29 #[.pointer (some ⟨g, 0, none⟩), .bool false, .int .i64 pa] w fun e w' => ∃ u, e = .returned u ∧ NewP w false i pa m2 u w' := by
  obtain ⟨j, hj⟩ : ∃ j, j = i + 1 := ⟨_, rfl⟩
  rw [← hj] at h1
  have hwj : IntKind.i64.wrap ((i : Int) + 1) = (j : Int) := by rw [hj, show ((i + 1 : Nat) : Int) = (i : Int) + 1 by omega]; exact wrapN (by omega) (by omega)
  have hgt : ¬ (2147483647 : Int) < (i : Int) := by omega
  have HP := hidden (fun W => mayParent_yes false pa hp W)
  have HCo := hidden (fun W (k : Same w W) => countersOf_any n a1 a2 a3 k1 c1 k2 c2 k3 c3 i hl hb hc W g p (ht.same k))
  have HCp := hidden (fun W (k : Same w W) => cput n a1 a2 a3 k1 c1 k2 c2 k3 c3 j (by omega) h1 W g p (ht.same k))
  have HIp := hidden (fun W g' q' z1 z2 z3 d1 d2 d3 ht' => iput_false m1 z1 z2 z3 m1.keys.length d1 m1.vals.length d2 m1.kids.length d3 i pa hi1 (by omega) hp hpa h2 W g' q' ht')
  have K0 := hidden (same_alloc w (.cells #[.int .i64 0, .bool false, .int .i64 0, .int .i64 0, .int .i64 0] 62))
  have B0 := hidden (blk_new w (.cells #[.int .i64 0, .bool false, .int .i64 0, .int .i64 0, .int .i64 0] 62))
  have HJ := hidden hj
  clear ht hp h1 h2 hc hj hi1 hi2 hpa
  go_enter Tryz.func29, Tryz.ntmps29
  go_wp2_with (first
    | (go_at_call 85; refine (HP.out _).mono ?_; rintro e w1 ⟨rfl, rfl⟩)
    | (go_at_call 86; refine (HCo.out _ K0.out).mono ?_; rintro e w2 ⟨rfl, q2⟩; have k2 := (q2.alloc (.cells #[.int .i64 j, .int .i64 1, .int .i64 1] 160)).alloc (.cells #[.int .i64 i, .bool false, .int .i64 0, .int .i64 0, .int .i64 pa] 62); have K2 := hidden (K0.out.trans k2); have B2 := hidden (blk_kept k2 (fun h => h) B0.out); have X2 : Hid (((w2.alloc (.cells #[.int .i64 j, .int .i64 1, .int .i64 1] 160)).alloc (.cells #[.int .i64 i, .bool false, .int .i64 0, .int .i64 0, .int .i64 pa] 62)).heap[w2.heap.size + 1]? = some (.cells #[.int .i64 i, .bool false, .int .i64 0, .int .i64 0, .int .i64 pa] 62 (0, 0))) := hidden (by have := blk_new (w2.alloc (.cells #[.int .i64 j, .int .i64 1, .int .i64 1] 160)) (.cells #[.int .i64 i, .bool false, .int .i64 0, .int .i64 0, .int .i64 pa] 62); simpa using this); clear q2 k2)
    | (go_at_call 87; refine (HCp.out _ K2.out).mono ?_; rintro e w3 ⟨u, rfl, ⟨g', q', z1, z2, z3, d1, d2, d3, rfl, hlt, q3⟩⟩; have K3 := hidden (K2.out.trans q3); have B3 := hidden (blk_kept q3 (fun h => h) B2.out); have X3 := hidden (blk_kept q3 (fun h => h) X2.out); have L3 := hidden hlt; have x0 := blk_cell (j := 0) X3.out; have x1 := blk_cell (j := 1) X3.out; have x2 := blk_cell (j := 2) X3.out; have x3 := blk_cell (j := 3) X3.out; have x4 := blk_cell (j := 4) X3.out; clear q3 hlt)
    | (go_at_call 28; refine (HIp.out _ _ _ _ _ _ _ _ _ L3.out).mono ?_; rintro e w4 ⟨u, rfl, ⟨g4, q4', y1, y2, y3, e1, e2, e3, rfl, hlt, q4⟩⟩; have K4 := hidden (K3.out.trans q4); have B4 := hidden (blk_kept q4 (fun h => h) B3.out); have X4 := hidden (blk_kept q4 (fun h => h) X3.out); have L4 := hidden hlt; clear q4 hlt))
  have x0' : w4.cell? ⟨w2.heap.size + 1, 0, none⟩ = some (.int .i64 i) := blk_cell X4.out
  have x1' : w4.cell? ⟨w2.heap.size + 1, 1, none⟩ = some (.bool false) := blk_cell X4.out
  have x2' : w4.cell? ⟨w2.heap.size + 1, 2, none⟩ = some (.int .i64 0) := blk_cell X4.out
  have x3' : w4.cell? ⟨w2.heap.size + 1, 3, none⟩ = some (.int .i64 0) := blk_cell X4.out
  have x4' : w4.cell? ⟨w2.heap.size + 1, 4, none⟩ = some (.int .i64 pa) := blk_cell X4.out
  have y0' : w4.cell? ⟨w.heap.size, 0, none⟩ = some (.int .i64 0) := blk_cell B4.out
  have f0' : w4.frozen? ⟨w.heap.size, 0, none⟩ = false := blk_free B4.out
  have y1' : w4.cell? ⟨w.heap.size, 1, none⟩ = some (.bool false) := blk_cell B4.out
  have f1' : w4.frozen? ⟨w.heap.size, 1, none⟩ = false := blk_free B4.out
  have y2' : w4.cell? ⟨w.heap.size, 2, none⟩ = some (.int .i64 0) := blk_cell B4.out
  have f2' : w4.frozen? ⟨w.heap.size, 2, none⟩ = false := blk_free B4.out
  have y3' : w4.cell? ⟨w.heap.size, 3, none⟩ = some (.int .i64 0) := blk_cell B4.out
  have f3' : w4.frozen? ⟨w.heap.size, 3, none⟩ = false := blk_free B4.out
  have y4' : w4.cell? ⟨w.heap.size, 4, none⟩ = some (.int .i64 0) := blk_cell B4.out
  have f4' : w4.frozen? ⟨w.heap.size, 4, none⟩ = false := blk_free B4.out
  go_region_law (fail)
  all_goals
    go_wp2
    have gf := fill5 B4.out (.int .i64 i) (.bool false) (.int .i64 0) (.int .i64 0) (.int .i64 pa)
    have kf := kept_fill5 (W := w4) (g := w.heap.size) (.int .i64 i) (.bool false) (.int .i64 0) (.int .i64 0) (.int .i64 pa)
    have sf := same_fill5 K4.out (g := w.heap.size) (Nat.le_refl _) (.int .i64 i) (.bool false) (.int .i64 0) (.int .i64 0) (.int .i64 pa)
    have lf := (L4.out.but kf B4.out (by decide) (by decide) (fun j x => by rcases j with _ | _ | _ | _ | _ | j <;> simp) hk0).same ((Kept.refl _ _).drew)
    have sd := sf.drew
    have gd := blk_kept ((Kept.refl (fun _ => False) _).drew) (fun h => h) gf
    generalize (((((w4.setCell ⟨w.heap.size, 0, none⟩ (.int .i64 i)).setCell ⟨w.heap.size, 1, none⟩ (.bool false)).setCell ⟨w.heap.size, 2, none⟩ (.int .i64 0)).setCell ⟨w.heap.size, 3, none⟩ (.int .i64 0)).setCell ⟨w.heap.size, 4, none⟩ (.int .i64 pa)).drew = WF at lf sd gd ⊢
    have q0 := blk_cell (j := 0) gd
    have q1 := blk_cell (j := 1) gd
    have q2 := blk_cell (j := 2) gd
    have q3 := blk_cell (j := 3) gd
    have q4 := blk_cell (j := 4) gd
    refine bodyPost_ret (v := .tuple #[.pointer (some ⟨g4, 0, none⟩), .agg #[.int .i64 i, .bool false, .int .i64 0, .int .i64 0, .int .i64 pa], .int .i64 0]) (by simp [results, Tryz.results29, go_sem, q0, q1, q2, q3, q4]) rfl ⟨_, rfl, ⟨⟨g4, q4', y1, y2, y3, e1, e2, e3, rfl, lf, sd⟩⟩⟩
set_option maxHeartbeats 1000000 in
set_option maxRecDepth 100000 in
theorem valueOf_has (n : Nd) (a1 a2 a3 : Option Addr) (k1 c1 k2 c2 k3 c3 : Nat) (pf k : Nat) (hpf : pf < 256) (h1 : 1 ≤ k) (h2 : k ≤ 2147483647) (hl : n.leaf = true) (hb : n.Bd) (hh : n.has (kN pf k) = true) (hv : n.vals.length = n.keys.length) (x : ByteArray) (hx : n.vals[n.cnt (kN pf k)]? = some x) (w : World) (g p : Nat) (ht : LT w g p n a1 a2 a3 k1 c1 k2 c2 k3 c3) :
    Calls Tryz.prog 80 #[.pointer (some ⟨g, 0, none⟩), .int .u8 pf, .int .i64 k] w fun e w' => e = .returned (.tuple #[.string x, .int .i64 0]) ∧ Same w w' := by
  have HN := hidden (fun W => mayNumber_yes k (by omega) (by omega) W)
  have HK := hidden (fun W => numberKey_any pf k hpf (by omega) W)
  have HG := hidden (fun W (q : Same w W) => tget_has n a1 a2 a3 k1 c1 k2 c2 k3 c3 W g p (ht.same q) hl hb (kN pf k) hh hv x hx)
  generalize kN pf k = kk at *
  clear ht hh hx hv h1 h2 hpf
  go_enter Tryz.func80, Tryz.ntmps80
  go_wp2_with (first
    | (go_at_call 138; refine (HN.out _).mono ?_; rintro e w1 ⟨rfl, rfl⟩)
    | (go_at_call 83; refine (HK.out _).mono ?_; rintro e w2 ⟨rfl, q2⟩; have K2 := hidden q2; clear q2)
    | (go_at_call 8; refine (HG.out _ K2.out).mono ?_; rintro e w3 ⟨rfl, q3⟩; have K3 := hidden (K2.out.trans q3); clear q3))
  go_returns
  exact ⟨rfl, K3.out⟩
/-- What a Delete out of a leaf asks, and what the leaf is then. -/
structure DelOk (n : Nd) (key : ByteArray) (m : Nd) : Prop where
  hl : n.leaf = true
  hb : n.Bd
  big : n.keys.length ≤ 8796093022206
  hls : n.lists = true
  hr : rises n.keys = true
  hh : n.has key = true
  hm : m = ⟨true, n.keys.eraseIdx (n.cnt key), n.vals.eraseIdx (n.cnt key), []⟩
  hv : n.vals.length = n.keys.length
  mb : m.Bd
  ms : 16 + (m.keys.map fun k => 2 + k.size).sum + (m.vals.map fun v => v.size).sum ≤ 512
set_option maxHeartbeats 1000000 in
set_option maxRecDepth 100000 in
theorem iremove (n : Nd) (a1 a2 a3 : Option Addr) (k1 c1 k2 c2 k3 c3 : Nat) (k : Nat) (h1 : 1 ≤ k) (h2 : k ≤ 2147483647) {m : Nd} (h : DelOk n (kN 105 k) m) (x : ByteArray) (hx : n.vals[n.cnt (kN 105 k)]? = some x) (w : World) (g p : Nat) (ht : LT w g p n a1 a2 a3 k1 c1 k2 c2 k3 c3) :
    Calls Tryz.prog 30 #[.pointer (some ⟨g, 0, none⟩), .int .i64 k] w fun e w' => ∃ u, e = .returned u ∧ ChP w m u w' := by
  have HW : Hid (Calls Tryz.prog 88 #[.pointer (some ⟨g, 0, none⟩), .int .u8 105, .int .i64 k] w fun e w' => ∃ u, e = .returned u ∧ ChP w m u w') := by
    have HV := hidden (valueOf_has n a1 a2 a3 k1 c1 k2 c2 k3 c3 105 k (by decide) h1 h2 h.hl h.hb h.hh h.hv x hx w g p ht)
    have HK := hidden (fun W => numberKey_any 105 k (by decide) (by omega) W)
    have HD := hidden (fun W (q : Same w W) => tdel n a1 a2 a3 k1 c1 k2 c2 k3 c3 W g p (kN 105 k) (ht.same q) h.hl h.hb h.big h.hls h.hr h.hh m h.hm (by rw [h.hm]) h.mb h.ms)
    generalize kN 105 k = kk at *
    clear ht hx h h1 h2
    refine hidden ?_
    go_enter Tryz.func88, Tryz.ntmps88
    go_wp2_with (first
      | (go_at_call 80; refine HV.out.mono ?_; rintro e w1 ⟨rfl, q1⟩; have K1 := hidden q1; clear q1)
      | (go_at_call 83; refine (HK.out _).mono ?_; rintro e w2 ⟨rfl, q2⟩; have K2 := hidden (K1.out.trans q2); clear q2)
      | (go_at_call 10; refine (HD.out _ K2.out).mono ?_; rintro e w3 ⟨u, rfl, ⟨g', q', z1, z2, z3, d1, d2, d3, rfl, hlt, q3⟩⟩; have L3 := hidden hlt; have K3 := hidden (K2.out.trans q3); clear q3 hlt))
    go_returns
    exact ⟨_, rfl, ⟨⟨g', q', z1, z2, z3, d1, d2, d3, rfl, L3.out, K3.out⟩⟩⟩
  clear ht hx h h1 h2
  go_enter Tryz.func30, Tryz.ntmps30
  go_wp2_with (go_at_call 88; refine HW.out.mono ?_; rintro e w3 ⟨u, rfl, ⟨g', q', z1, z2, z3, d1, d2, d3, rfl, hlt, q3⟩⟩; have L3 := hidden hlt; have K3 := hidden q3; clear q3 hlt)
  go_returns
  exact ⟨_, rfl, ⟨⟨g', q', z1, z2, z3, d1, d2, d3, rfl, L3.out, K3.out⟩⟩⟩
end Go.Proofs.YtmlibjohhgpniaaGreatDoor
