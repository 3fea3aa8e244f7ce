/- inode: what may be, Check, Put, countersOf. (Made by mkin2.py.) -/
import Derived.Test.YtmlibjohhgpniaaGreatDoorIn1
namespace Go.Proofs.YtmlibjohhgpniaaGreatDoor
open Go.RowKit
set_option linter.unusedVariables false
set_option linter.unusedSimpArgs false
set_option maxHeartbeats 400000 in
theorem mayNumber_yes (z : Int) (h0 : 1 ≤ z) (h1 : z ≤ 2147483647) (w : World) : Calls Tryz.prog 138 #[.int .i64 z] w fun e w' => e = .returned (.bool true) ∧ w = w' := by
  go_enter Tryz.func138, Tryz.ntmps138
  go_wp2
  go_returns
  exact ⟨by simp [h0, h1], rfl⟩
set_option maxHeartbeats 400000 in
theorem mayLinks_yes (z : Int) (h0 : 0 ≤ z) (h1 : z ≤ 1024) (w : World) : Calls Tryz.prog 143 #[.int .i64 z] w fun e w' => e = .returned (.bool true) ∧ w = w' := by
  go_enter Tryz.func143, Tryz.ntmps143
  go_wp2
  go_returns
  exact ⟨by simp [h0, h1], rfl⟩
set_option maxHeartbeats 400000 in
theorem mayNext_yes (z : Int) (h0 : 1 ≤ z) (h1 : z ≤ 2147483648) (w : World) : Calls Tryz.prog 147 #[.int .i64 z] w fun e w' => e = .returned (.bool true) ∧ w = w' := by
  go_enter Tryz.func147, Tryz.ntmps147
  go_wp2
  go_returns
  exact ⟨by simp [h0, h1], rfl⟩
/-- A parent that may be. -/
def parOk (d : Bool) (pa : Nat) : Prop := if d then 1 ≤ pa ∧ pa ≤ 2147483647 else pa = 0
set_option maxHeartbeats 400000 in
theorem mayParent_yes (d : Bool) (pa : Nat) (h : parOk d pa) (w : World) : Calls Tryz.prog 85 #[.bool d, .int .i64 pa] w fun e w' => e = .returned (.bool true) ∧ w = w' := by
  cases d
  · have h0 : pa = 0 := h
    subst h0
    go_enter Tryz.func85, Tryz.ntmps85
    go_wp2
    go_returns
    exact ⟨by simp, rfl⟩
  · have h0 : 1 ≤ pa ∧ pa ≤ 2147483647 := h
    have HM := hidden (fun W => mayNumber_yes pa (by omega) (by omega) W)
    clear h h0
    go_enter Tryz.func85, Tryz.ntmps85
    go_wp2_with (go_at_call 138; refine (HM.out _).mono ?_; rintro e w1 ⟨rfl, rfl⟩)
    go_returns
    exact ⟨rfl, rfl⟩
set_option maxHeartbeats 1000000 in
set_option maxRecDepth 100000 in
theorem check_true (nu : Nat) (pa : Nat) (h1 : 1 ≤ nu) (h2 : nu ≤ 2147483647) (hp : parOk true pa) (w : World) : Calls Tryz.prog 82 #[.agg #[.int .i64 nu, .bool true, .int .i64 0, .int .i64 0, .int .i64 pa]] w fun e w' => e = .returned (.int .i64 0) ∧ Same w w' := by
  have HN := hidden (fun W => mayNumber_yes nu (by omega) (by omega) W)
  have HL := hidden (fun W => mayLinks_yes 0 (by omega) (by omega) W)
  have HP := hidden (fun W => mayParent_yes true pa hp W)
  clear hp h1 h2
  go_enter Tryz.func82, Tryz.ntmps82
  go_wp2_with (first
    | (go_at_call 138; refine (HN.out _).mono ?_; rintro e w1 ⟨rfl, rfl⟩)
    | (go_at_call 143; refine (HL.out _).mono ?_; rintro e w1 ⟨rfl, rfl⟩)
    | (go_at_call 85; refine (HP.out _).mono ?_; rintro e w1 ⟨rfl, rfl⟩))
  go_returns
  exact ⟨rfl, same_alloc _ _⟩
set_option maxHeartbeats 2000000 in
set_option maxRecDepth 100000 in
theorem iput_true (n : Nd) (a1 a2 a3 : Option Addr) (k1 c1 k2 c2 k3 c3 : Nat) (nu pa : Nat) (h1 : 1 ≤ nu) (h2 : nu ≤ 2147483647) (hp : parOk true pa) (hpa : pa < 4294967296) {m : Nd} (h : PutOk n (kN 105 nu) (iV 2 pa) m) (w : World) (g p : Nat) (ht : LT w g p n a1 a2 a3 k1 c1 k2 c2 k3 c3) :
    Calls Tryz.prog 28 #[.pointer (some ⟨g, 0, none⟩), .agg #[.int .i64 nu, .bool true, .int .i64 0, .int .i64 0, .int .i64 pa]] w fun e w' => ∃ u, e = .returned u ∧ ChP w m u w' := by
  have HC := hidden (fun W => check_true nu pa h1 h2 hp W)
  have HK := hidden (fun W => numberKey_any 105 nu (by decide) (by omega) W)
  have HT := hidden (fun W => inodeText_true nu pa hpa W)
  have HPu := hidden (fun W (k : Same w W) => tput n a1 a2 a3 k1 c1 k2 c2 k3 c3 h W g p (ht.same k))
  have K0 : Hid (Same w (w.alloc (.cells #[.int .i64 nu, .bool true, .int .i64 0, .int .i64 0, .int .i64 pa] 62))) := hidden (same_alloc _ _)
  have B0 := hidden (blk_new w (.cells #[.int .i64 nu, .bool true, .int .i64 0, .int .i64 0, .int .i64 pa] 62))
  clear h ht hp h1 h2 hpa
  generalize kN 105 nu = kk at *
  generalize iV 2 pa = vv at *
  go_enter Tryz.func28, Tryz.ntmps28
  go_wp2_with (first
    | (go_at_call 82; refine (HC.out _).mono ?_; rintro e w1 ⟨rfl, q1⟩; have K1 := hidden (K0.out.trans q1); have B1 := hidden (blk_kept q1 (fun h => h) B0.out); clear q1))
  have x0 : w1.cell? ⟨w.heap.size, 0, none⟩ = some (.int .i64 nu) := blk_cell B1.out
  have x1 : w1.cell? ⟨w.heap.size, 1, none⟩ = some (.bool true) := blk_cell B1.out
  have x2 : w1.cell? ⟨w.heap.size, 2, none⟩ = some (.int .i64 0) := blk_cell B1.out
  have x3 : w1.cell? ⟨w.heap.size, 3, none⟩ = some (.int .i64 0) := blk_cell B1.out
  have x4 : w1.cell? ⟨w.heap.size, 4, none⟩ = some (.int .i64 pa) := blk_cell B1.out
  go_region_law (first
    | (refine step_call rfl 83 #[.int .u8 105, .int .i64 nu] (fun u W => u = .string kk ∧ Same w1 W) (by go_simp; try rfl) ((HK.out _).mono (fun e w' ⟨h1, h2⟩ => ⟨_, h1, rfl, ((Kept.refl _ _).drew).trans h2⟩)) ?_; rintro u w2 ⟨rfl, q2⟩; have K2 := hidden (K1.out.trans q2); have B2 := hidden (blk_kept q2 (fun h => h) B1.out); have y0 : w2.cell? ⟨w.heap.size, 0, none⟩ = some (.int .i64 nu) := blk_cell B2.out; have y1 : w2.cell? ⟨w.heap.size, 1, none⟩ = some (.bool true) := blk_cell B2.out; have y2 : w2.cell? ⟨w.heap.size, 2, none⟩ = some (.int .i64 0) := blk_cell B2.out; have y3 : w2.cell? ⟨w.heap.size, 3, none⟩ = some (.int .i64 0) := blk_cell B2.out; have y4 : w2.cell? ⟨w.heap.size, 4, none⟩ = some (.int .i64 pa) := blk_cell B2.out; clear q2)
    | (refine step_call rfl 84 #[.agg #[.int .i64 nu, .bool true, .int .i64 0, .int .i64 0, .int .i64 pa]] (fun u W => u = .string vv ∧ Same w2 W) (by go_simp; try rfl) ((HT.out _).mono (fun e w' ⟨h1, h2⟩ => ⟨_, h1, rfl, h2⟩)) ?_; rintro u w3 ⟨rfl, q3⟩; have K3 := hidden (K2.out.trans q3); clear q3)
    | (refine step_call rfl 9 #[.pointer (some ⟨g, 0, none⟩), .string kk, .string vv] (fun u W => ChP w3 m u W) (by go_simp; try rfl) (HPu.out _ K3.out) ?_; rintro u w4 ⟨g', q', y1', y2', y3', e1, e2, e3, rfl, hlt, q4⟩; have HLT := hidden hlt; have K4 := hidden (K3.out.trans q4); clear q4 hlt))
  all_goals
    go_wp2
    go_returns
    exact ⟨_, rfl, ⟨⟨g', q', y1', y2', y3', e1, e2, e3, rfl, HLT.out, K4.out⟩⟩⟩
set_option maxHeartbeats 1000000 in
set_option maxRecDepth 100000 in
theorem check_false (nu : Nat) (pa : Nat) (h1 : 1 ≤ nu) (h2 : nu ≤ 2147483647) (hp : parOk false pa) (w : World) : Calls Tryz.prog 82 #[.agg #[.int .i64 nu, .bool false, .int .i64 0, .int .i64 0, .int .i64 pa]] w fun e w' => e = .returned (.int .i64 0) ∧ Same w w' := by
  have HN := hidden (fun W => mayNumber_yes nu (by omega) (by omega) W)
  have HL := hidden (fun W => mayLinks_yes 0 (by omega) (by omega) W)
  have HP := hidden (fun W => mayParent_yes false pa hp W)
  clear hp h1 h2
  go_enter Tryz.func82, Tryz.ntmps82
  go_wp2_with (first
    | (go_at_call 138; refine (HN.out _).mono ?_; rintro e w1 ⟨rfl, rfl⟩)
    | (go_at_call 143; refine (HL.out _).mono ?_; rintro e w1 ⟨rfl, rfl⟩)
    | (go_at_call 85; refine (HP.out _).mono ?_; rintro e w1 ⟨rfl, rfl⟩))
  go_returns
  exact ⟨rfl, same_alloc _ _⟩
set_option maxHeartbeats 2000000 in
set_option maxRecDepth 100000 in
theorem iput_false (n : Nd) (a1 a2 a3 : Option Addr) (k1 c1 k2 c2 k3 c3 : Nat) (nu pa : Nat) (h1 : 1 ≤ nu) (h2 : nu ≤ 2147483647) (hp : parOk false pa) (hpa : pa < 4294967296) {m : Nd} (h : PutOk n (kN 105 nu) (iV 1 pa) m) (w : World) (g p : Nat) (ht : LT w g p n a1 a2 a3 k1 c1 k2 c2 k3 c3) :
    Calls Tryz.prog 28 #[.pointer (some ⟨g, 0, none⟩), .agg #[.int .i64 nu, .bool false, .int .i64 0, .int .i64 0, .int .i64 pa]] w fun e w' => ∃ u, e = .returned u ∧ ChP w m u w' := by
  have HC := hidden (fun W => check_false nu pa h1 h2 hp W)
  have HK := hidden (fun W => numberKey_any 105 nu (by decide) (by omega) W)
  have HT := hidden (fun W => inodeText_false nu pa hpa W)
  have HPu := hidden (fun W (k : Same w W) => tput n a1 a2 a3 k1 c1 k2 c2 k3 c3 h W g p (ht.same k))
  have K0 : Hid (Same w (w.alloc (.cells #[.int .i64 nu, .bool false, .int .i64 0, .int .i64 0, .int .i64 pa] 62))) := hidden (same_alloc _ _)
  have B0 := hidden (blk_new w (.cells #[.int .i64 nu, .bool false, .int .i64 0, .int .i64 0, .int .i64 pa] 62))
  clear h ht hp h1 h2 hpa
  generalize kN 105 nu = kk at *
  generalize iV 1 pa = vv at *
  go_enter Tryz.func28, Tryz.ntmps28
  go_wp2_with (first
    | (go_at_call 82; refine (HC.out _).mono ?_; rintro e w1 ⟨rfl, q1⟩; have K1 := hidden (K0.out.trans q1); have B1 := hidden (blk_kept q1 (fun h => h) B0.out); clear q1))
  have x0 : w1.cell? ⟨w.heap.size, 0, none⟩ = some (.int .i64 nu) := blk_cell B1.out
  have x1 : w1.cell? ⟨w.heap.size, 1, none⟩ = some (.bool false) := blk_cell B1.out
  have x2 : w1.cell? ⟨w.heap.size, 2, none⟩ = some (.int .i64 0) := blk_cell B1.out
  have x3 : w1.cell? ⟨w.heap.size, 3, none⟩ = some (.int .i64 0) := blk_cell B1.out
  have x4 : w1.cell? ⟨w.heap.size, 4, none⟩ = some (.int .i64 pa) := blk_cell B1.out
  go_region_law (first
    | (refine step_call rfl 83 #[.int .u8 105, .int .i64 nu] (fun u W => u = .string kk ∧ Same w1 W) (by go_simp; try rfl) ((HK.out _).mono (fun e w' ⟨h1, h2⟩ => ⟨_, h1, rfl, ((Kept.refl _ _).drew).trans h2⟩)) ?_; rintro u w2 ⟨rfl, q2⟩; have K2 := hidden (K1.out.trans q2); have B2 := hidden (blk_kept q2 (fun h => h) B1.out); have y0 : w2.cell? ⟨w.heap.size, 0, none⟩ = some (.int .i64 nu) := blk_cell B2.out; have y1 : w2.cell? ⟨w.heap.size, 1, none⟩ = some (.bool false) := blk_cell B2.out; have y2 : w2.cell? ⟨w.heap.size, 2, none⟩ = some (.int .i64 0) := blk_cell B2.out; have y3 : w2.cell? ⟨w.heap.size, 3, none⟩ = some (.int .i64 0) := blk_cell B2.out; have y4 : w2.cell? ⟨w.heap.size, 4, none⟩ = some (.int .i64 pa) := blk_cell B2.out; clear q2)
    | (refine step_call rfl 84 #[.agg #[.int .i64 nu, .bool false, .int .i64 0, .int .i64 0, .int .i64 pa]] (fun u W => u = .string vv ∧ Same w2 W) (by go_simp; try rfl) ((HT.out _).mono (fun e w' ⟨h1, h2⟩ => ⟨_, h1, rfl, h2⟩)) ?_; rintro u w3 ⟨rfl, q3⟩; have K3 := hidden (K2.out.trans q3); clear q3)
    | (refine step_call rfl 9 #[.pointer (some ⟨g, 0, none⟩), .string kk, .string vv] (fun u W => ChP w3 m u W) (by go_simp; try rfl) (HPu.out _ K3.out) ?_; rintro u w4 ⟨g', q', y1', y2', y3', e1, e2, e3, rfl, hlt, q4⟩; have HLT := hidden hlt; have K4 := hidden (K3.out.trans q4); clear q4 hlt))
  all_goals
    go_wp2
    go_returns
    exact ⟨_, rfl, ⟨⟨g', q', y1', y2', y3', e1, e2, e3, rfl, HLT.out, K4.out⟩⟩⟩
end Go.Proofs.YtmlibjohhgpniaaGreatDoor
