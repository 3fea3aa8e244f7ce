/- tree: a nil tree's methods; Root, Dirty, Scan of a tree of one leaf; lives. -/
import Derived.Test.YtmlibjohhgpniaaGreatDoorTr4
namespace Go.Proofs.YtmlibjohhgpniaaGreatDoor
open Go.RowKit
set_option linter.unusedVariables false
set_option maxHeartbeats 400000 in
theorem nil_Get (key : ByteArray) (w : World) : Calls Tryz.prog 8 #[.pointer none, .string key] w fun e w' => e = .returned (.tuple #[.string ⟨#[]⟩, .bool false, .int .i64 6]) ∧ Same w w' := by
  have HM := hidden tmade_nil
  go_enter Tryz.func8, Tryz.ntmps8
  go_wp2_with (go_at_call 49; refine (HM.out _).mono ?_; rintro e w1 ⟨rfl, rfl⟩)
  go_returns
  exact ⟨rfl, by repeat (first | exact Kept.refl _ _ | refine Kept.alloc ?_ _)⟩
set_option maxHeartbeats 400000 in
theorem nil_Put (key value : ByteArray) (w : World) : Calls Tryz.prog 9 #[.pointer none, .string key, .string value] w fun e w' => e = .returned (.tuple #[.pointer none, .int .i64 6]) ∧ Same w w' := by
  have HM := hidden tmade_nil
  go_enter Tryz.func9, Tryz.ntmps9
  go_wp2_with (go_at_call 49; refine (HM.out _).mono ?_; rintro e w1 ⟨rfl, rfl⟩)
  go_returns
  exact ⟨rfl, by repeat (first | exact Kept.refl _ _ | refine Kept.alloc ?_ _)⟩
set_option maxHeartbeats 400000 in
theorem nil_Delete (key : ByteArray) (w : World) : Calls Tryz.prog 10 #[.pointer none, .string key] w fun e w' => e = .returned (.tuple #[.pointer none, .int .i64 6]) ∧ Same w w' := by
  have HM := hidden tmade_nil
  go_enter Tryz.func10, Tryz.ntmps10
  go_wp2_with (go_at_call 49; refine (HM.out _).mono ?_; rintro e w1 ⟨rfl, rfl⟩)
  go_returns
  exact ⟨rfl, by repeat (first | exact Kept.refl _ _ | refine Kept.alloc ?_ _)⟩
set_option maxHeartbeats 400000 in
theorem nil_Count (w : World) : Calls Tryz.prog 11 #[.pointer none] w fun e w' => e = .returned (.tuple #[.int .i64 0, .int .i64 6]) ∧ Same w w' := by
  have HM := hidden tmade_nil
  go_enter Tryz.func11, Tryz.ntmps11
  go_wp2_with (go_at_call 49; refine (HM.out _).mono ?_; rintro e w1 ⟨rfl, rfl⟩)
  go_returns
  exact ⟨rfl, by repeat (first | exact Kept.refl _ _ | refine Kept.alloc ?_ _)⟩
set_option maxHeartbeats 400000 in
theorem nil_Place (w : World) : Calls Tryz.prog 12 #[.pointer none, .slice none 0 0] w fun e w' => e = .returned (.tuple #[.pointer none, .slice none 0 0, .int .i64 6]) ∧ Same w w' := by
  have HM := hidden tmade_nil
  go_enter Tryz.func12, Tryz.ntmps12
  go_wp2_with (go_at_call 49; refine (HM.out _).mono ?_; rintro e w1 ⟨rfl, rfl⟩)
  go_returns
  exact ⟨rfl, by repeat (first | exact Kept.refl _ _ | refine Kept.alloc ?_ _)⟩
set_option maxHeartbeats 400000 in
theorem nil_Sectors (w : World) : Calls Tryz.prog 13 #[.pointer none] w fun e w' => e = .returned (.tuple #[.slice none 0 0, .int .i64 6]) ∧ Same w w' := by
  have HM := hidden tmade_nil
  go_enter Tryz.func13, Tryz.ntmps13
  go_wp2_with (go_at_call 49; refine (HM.out _).mono ?_; rintro e w1 ⟨rfl, rfl⟩)
  go_returns
  exact ⟨rfl, by repeat (first | exact Kept.refl _ _ | refine Kept.alloc ?_ _)⟩
set_option maxHeartbeats 400000 in
theorem nil_Check (w : World) : Calls Tryz.prog 15 #[.pointer none] w fun e w' => e = .returned (.int .i64 6) ∧ Same w w' := by
  have HM := hidden tmade_nil
  go_enter Tryz.func15, Tryz.ntmps15
  go_wp2_with (go_at_call 49; refine (HM.out _).mono ?_; rintro e w1 ⟨rfl, rfl⟩)
  go_returns
  exact ⟨rfl, by repeat (first | exact Kept.refl _ _ | refine Kept.alloc ?_ _)⟩
set_option maxHeartbeats 400000 in
theorem nil_Root (w : World) : Calls Tryz.prog 16 #[.pointer none] w fun e w' => e = .returned (.int .i64 (-1)) ∧ Same w w' := by
  have HM := hidden tmade_nil
  go_enter Tryz.func16, Tryz.ntmps16
  go_wp2_with (go_at_call 49; refine (HM.out _).mono ?_; rintro e w1 ⟨rfl, rfl⟩)
  go_returns
  exact ⟨rfl, by repeat (first | exact Kept.refl _ _ | refine Kept.alloc ?_ _)⟩
set_option maxHeartbeats 400000 in
theorem nil_Dirty (w : World) : Calls Tryz.prog 17 #[.pointer none] w fun e w' => e = .returned (.int .i64 0) ∧ Same w w' := by
  have HM := hidden tmade_nil
  go_enter Tryz.func17, Tryz.ntmps17
  go_wp2_with (go_at_call 49; refine (HM.out _).mono ?_; rintro e w1 ⟨rfl, rfl⟩)
  go_returns
  exact ⟨rfl, by repeat (first | exact Kept.refl _ _ | refine Kept.alloc ?_ _)⟩
set_option maxHeartbeats 400000 in
theorem nil_Height (w : World) : Calls Tryz.prog 18 #[.pointer none] w fun e w' => e = .returned (.int .i64 0) ∧ Same w w' := by
  have HM := hidden tmade_nil
  go_enter Tryz.func18, Tryz.ntmps18
  go_wp2_with (go_at_call 49; refine (HM.out _).mono ?_; rintro e w1 ⟨rfl, rfl⟩)
  go_returns
  exact ⟨rfl, by repeat (first | exact Kept.refl _ _ | refine Kept.alloc ?_ _)⟩
set_option maxHeartbeats 400000 in
theorem tRoot (n : Nd) (a1 a2 a3 : Option Addr) (k1 c1 k2 c2 k3 c3 : Nat) (w : World) (g p : Nat) (h : LT w g p n a1 a2 a3 k1 c1 k2 c2 k3 c3) : Calls Tryz.prog 16 #[.pointer (some ⟨g, 0, none⟩)] w fun e w' => e = .returned (.int .i64 (-1)) ∧ Same w w' := by
  have HM := hidden (tmade n a1 a2 a3 k1 c1 k2 c2 k3 c3 w g p h)
  have HL := hidden h
  clear h
  go_enter Tryz.func16, Tryz.ntmps16
  go_wp2_with (go_at_call 49; refine HM.out.mono ?_; rintro e w1 ⟨rfl, q1⟩; have x2 : w1.cell? ⟨g, 2, none⟩ = some (.pointer (some ⟨p, 0, none⟩)) := blk_cell (HL.out.same q1).tr; have x3 : w1.cell? ⟨p, 0, none⟩ = some (.int .i64 (-1)) := blk_cell (HL.out.same q1).pg.box; have K1 := hidden q1; clear q1)
  go_returns
  exact ⟨rfl, K1.out⟩
set_option maxHeartbeats 400000 in
theorem tDirty (n : Nd) (a1 a2 a3 : Option Addr) (k1 c1 k2 c2 k3 c3 : Nat) (w : World) (g p : Nat) (h : LT w g p n a1 a2 a3 k1 c1 k2 c2 k3 c3) : Calls Tryz.prog 17 #[.pointer (some ⟨g, 0, none⟩)] w fun e w' => e = .returned (.int .i64 1) ∧ Same w w' := by
  have HM := hidden (tmade n a1 a2 a3 k1 c1 k2 c2 k3 c3 w g p h)
  have HL := hidden h
  clear h
  go_enter Tryz.func17, Tryz.ntmps17
  go_wp2_with (go_at_call 49; refine HM.out.mono ?_; rintro e w1 ⟨rfl, q1⟩; have x2 : w1.cell? ⟨g, 2, none⟩ = some (.pointer (some ⟨p, 0, none⟩)) := blk_cell (HL.out.same q1).tr; have x3 : w1.cell? ⟨p, 7, none⟩ = some (.int .i64 1) := blk_cell (HL.out.same q1).pg.box; have K1 := hidden q1; clear q1)
  go_returns
  exact ⟨rfl, K1.out⟩
structure ScP (w : World) (o : Option Addr) (x y : ByteArray) (u : Value) (W : World) : Prop where
  out : ∃ B, u = .func (.func 64) #[] #[.pointer (some ⟨B, 0, none⟩), .pointer (some ⟨B + 1, 0, none⟩), .pointer (some ⟨B + 2, 0, none⟩)] ∧ w.heap.size ≤ B ∧ W.heap[B]? = some (.cells #[.pointer o] 22 (0, 0)) ∧ W.heap[B + 1]? = some (.cells #[.string x] 9 (0, 0)) ∧ W.heap[B + 2]? = some (.cells #[.string y] 9 (0, 0)) ∧ Same w W
set_option maxHeartbeats 400000 in
theorem scan_fn (o : Option Addr) (x y : ByteArray) (w : World) : Calls Tryz.prog 14 #[.pointer o, .string x, .string y] w fun e w' => ∃ u, e = .returned u ∧ ScP w o x y u w' := by
  go_enter Tryz.func14, Tryz.ntmps14
  go_wp2
  go_returns
  refine ⟨_, rfl, ⟨⟨w.heap.size, by simp, by simp, blk_alloc (blk_alloc (blk_new _ _) _) _, blk_alloc ?_ _, ?_, (((Kept.refl _ w).alloc _).alloc _).alloc _⟩⟩⟩
  · have := blk_new (w.alloc (.cells #[.pointer o] 22)) (.cells #[.string x] 9); simpa using this
  · have := blk_new ((w.alloc (.cells #[.pointer o] 22)).alloc (.cells #[.string x] 9)) (.cells #[.string y] 9); simpa using this
set_option maxRecDepth 100000 in
theorem func_nil : ∀ (W : World) (n : FuncId) (b : Array Value), (binOp .eql 39 (.func (.func n) #[] b) Value.nilFunc).run Tryz.prog W = .ok (.bool false) W := fun W n b => by
  first | kernel_rfl | (simp [binOp, Op.equal, Op.maxDepth, go_sem]; rw [show (10000 : Nat) = 9999 + 1 from rfl]; simp [Op.equalIn, go_sem])
def ndk : Nd := ⟨true, [⟨#[107]⟩], [⟨#[118]⟩], []⟩
theorem ndk_has : ndk.has ⟨#[107]⟩ = true := by
  have e : ltS (ByteArray.mk #[107]) ⟨#[107]⟩ = false := by simp only [ltS, Lib.toList_data]; decide
  have ec : ndk.cnt ⟨#[107]⟩ = 0 := by simp [Nd.cnt, ndk, ahead, e]
  simp [Nd.has, ec]
  simp [ndk]
theorem ndk_cnt : ndk.cnt ⟨#[107]⟩ = 0 := by
  have e : ltS (ByteArray.mk #[107]) ⟨#[107]⟩ = false := by simp only [ltS, Lib.toList_data]; decide
  simp [Nd.cnt, ndk, ahead, e]
theorem ndk_bd : ndk.Bd := ⟨by decide, by decide, by decide⟩
set_option maxHeartbeats 1000000 in
set_option maxRecDepth 100000 in
theorem tlives (w : World) : Calls Tryz.prog 7 #[] w fun e w' => e = .returned (.bool true) ∧ Same w w' := by
  have hfn := func_nil
  have HN := hidden new_any
  have HD := hidden (fun W g p h => tDirty nd0 none none none 0 0 0 0 0 0 W g p h)
  have HR := hidden (fun W g p h => tRoot nd0 none none none 0 0 0 0 0 0 W g p h)
  have HS := hidden (fun o W => scan_fn o ⟨#[]⟩ ⟨#[]⟩ W)
  have HP := hidden (fun W g p h => tput_ins nd0 none none none 0 0 0 0 0 0 W g p ⟨#[107]⟩ ⟨#[118]⟩ h (by decide) (by decide) rfl nd0_bd (by decide) (.inl rfl) ndk (nd0_put (by decide) (by decide)) rfl ndk_bd (by decide))
  have HG := hidden (fun W g p z1 z2 z3 d1 d2 d3 h => tget_has ndk z1 z2 z3 1 d1 1 d2 0 d3 W g p h rfl ndk_bd ⟨#[107]⟩ ndk_has rfl ⟨#[118]⟩ (by rw [ndk_cnt]; rfl))
  have HG0 := hidden (fun W g p h => tget_no nd0 none none none 0 0 0 0 0 0 W g p h rfl nd0_bd ⟨#[107]⟩ rfl)
  go_enter Tryz.func7, Tryz.ntmps7
  go_wp2_with (first
    | (go_at_call 48; refine (HN.out _).mono ?_; rintro e w1 ⟨u, rfl, ⟨g, p, rfl, hl, q1⟩⟩; have L1 := hidden hl; have K1 := hidden q1; clear hl q1)
    | (go_at_call 17; refine (HD.out _ _ _ L1.out).mono ?_; rintro e w2 ⟨rfl, q2⟩; have L2 := hidden (L1.out.same q2); have K2 := hidden (K1.out.trans q2); clear q2)
    | (go_at_call 16; refine (HR.out _ _ _ L2.out).mono ?_; rintro e w3 ⟨rfl, q3⟩; have L3 := hidden (L2.out.same q3); have K3 := hidden (K2.out.trans q3); clear q3)
    | (go_at_call 14; refine (HS.out _ _).mono ?_; rintro e w4 ⟨u, rfl, ⟨B, rfl, _, _, _, _, q4⟩⟩; have L4 := hidden (L3.out.same q4); have K4 := hidden (K3.out.trans q4); clear q4)
    | (go_at_call 9; refine (HP.out _ _ _ L4.out).mono ?_; rintro e w5 ⟨u, rfl, ⟨g', p', z1, z2, z3, d1, d2, d3, rfl, hl, q5⟩⟩; have L5 := hidden (L4.out.same q5); have M5 := hidden hl; have K5 := hidden (K4.out.trans q5); have tk : True := trivial; clear q5 hl)
    | (go_at_call 8; have _t := tk; refine (HG.out _ _ _ _ _ _ _ _ _ M5.out).mono ?_; rintro e w6 ⟨rfl, q6⟩; have L6 := hidden (L5.out.same q6); have K6 := hidden (K5.out.trans q6); clear q6 tk _t)
    | (go_at_call 8; refine (HG0.out _ _ _ L6.out).mono ?_; rintro e w7 ⟨rfl, q7⟩; have K7 := hidden (K6.out.trans q7); clear q7))
  go_returns
  exact ⟨rfl, K7.out⟩
end Go.Proofs.YtmlibjohhgpniaaGreatDoor
