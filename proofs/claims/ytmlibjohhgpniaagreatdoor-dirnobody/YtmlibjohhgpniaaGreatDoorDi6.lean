/- dir: what its calls tell of no tree; lives. -/
import Derived.Test.YtmlibjohhgpniaaGreatDoorDi5
namespace Go.Proofs.YtmlibjohhgpniaaGreatDoor
open Go.RowKit
set_option linter.unusedVariables false
set_option linter.unusedSimpArgs false
theorem asked_same (d : Int) (w : World) : Calls Tryz.prog 102 #[.pointer none, .int .i64 d] w fun e w' => e = .returned (.int .i64 6) ∧ Same w w' := (dasked_nil d w).mono (fun _ _ ⟨h1, h2⟩ => ⟨h1, by rw [← h2]; exact Kept.refl _ _⟩)
theorem askedName_same (d : Int) (s : ByteArray) (w : World) : Calls Tryz.prog 98 #[.pointer none, .int .i64 d, .string s] w fun e w' => e = .returned (.int .i64 6) ∧ Same w w' := (daskedName_nil d s w).mono (fun _ _ ⟨h1, h2⟩ => ⟨h1, by rw [← h2]; exact Kept.refl _ _⟩)
set_option maxHeartbeats 400000 in
theorem dn_readable (w : World) : Calls Tryz.prog 103 #[.pointer none] w fun e w' => e = .returned (.int .i64 6) ∧ Same w w' := by
  have HV := hidden (fun W => nil_Count W)
  go_enter Tryz.func103, Tryz.ntmps103
  go_wp2_with (go_at_call 11; refine (HV.out _).mono ?_; rintro e w1 ⟨rfl, q1⟩; have K1 := hidden q1; clear q1)
  go_returns
  exact ⟨rfl, K1.out⟩
set_option maxHeartbeats 400000 in
theorem dn_valueOf (d : Int) (s : ByteArray) (w : World) : Calls Tryz.prog 96 #[.pointer none, .int .i64 d, .string s] w fun e w' => e = .returned (.tuple #[.string ⟨#[]⟩, .int .i64 6]) ∧ Same w w' := by
  have HV := hidden (fun W => askedName_same d s W)
  go_enter Tryz.func96, Tryz.ntmps96
  go_wp2_with (go_at_call 98; refine (HV.out _).mono ?_; rintro e w1 ⟨rfl, q1⟩; have K1 := hidden q1; clear q1)
  go_returns
  exact ⟨rfl, K1.out⟩
set_option maxHeartbeats 400000 in
theorem dn_Get (d : Int) (s : ByteArray) (w : World) : Calls Tryz.prog 41 #[.pointer none, .int .i64 d, .string s] w fun e w' => e = .returned (.tuple #[.int .i64 0, .bool false, .int .i64 6]) ∧ Same w w' := by
  have HV := hidden (fun W => dn_valueOf d s W)
  go_enter Tryz.func41, Tryz.ntmps41
  go_wp2_with (go_at_call 96; refine (HV.out _).mono ?_; rintro e w1 ⟨rfl, q1⟩; have K1 := hidden q1; clear q1)
  go_returns
  exact ⟨rfl, K1.out⟩
set_option maxHeartbeats 400000 in
theorem dn_Remove (d : Int) (s : ByteArray) (w : World) : Calls Tryz.prog 43 #[.pointer none, .int .i64 d, .string s] w fun e w' => e = .returned (.tuple #[.pointer none, .int .i64 6]) ∧ Same w w' := by
  have HV := hidden (fun W => dn_valueOf d s W)
  go_enter Tryz.func43, Tryz.ntmps43
  go_wp2_with (go_at_call 96; refine (HV.out _).mono ?_; rintro e w1 ⟨rfl, q1⟩; have K1 := hidden q1; clear q1)
  go_returns
  exact ⟨rfl, K1.out⟩
set_option maxHeartbeats 400000 in
theorem dn_Put (d : Int) (s : ByteArray) (k : Int) (w : World) : Calls Tryz.prog 42 #[.pointer none, .int .i64 d, .string s, .int .i64 k, .bool false] w fun e w' => e = .returned (.tuple #[.pointer none, .int .i64 6]) ∧ Same w w' := by
  have HV := hidden (fun W => askedName_same d s W)
  go_enter Tryz.func42, Tryz.ntmps42
  go_wp2_with (go_at_call 98; refine (HV.out _).mono ?_; rintro e w1 ⟨rfl, q1⟩; have K1 := hidden q1; clear q1)
  go_returns
  exact ⟨rfl, K1.out⟩
set_option maxHeartbeats 1000000 in
set_option maxRecDepth 100000 in
theorem dn_Names (d : Int) (w : World) : Calls Tryz.prog 44 #[.pointer none, .int .i64 d] w fun e w' => e = .returned (.tuple #[.slice none 0 0, .int .i64 6]) ∧ Same w w' := by
  have HV := hidden (fun W => asked_same d W)
  have K0 : Hid (Same w ((w.alloc (.cells #[.slice none 0 0] 84)).alloc (.cells #[.int .i64 0] 24))) := hidden (((Kept.refl _ w).alloc _).alloc _)
  have A0 : Hid (((w.alloc (.cells #[.slice none 0 0] 84)).alloc (.cells #[.int .i64 0] 24)).heap[w.heap.size]? = some (.cells #[.slice none 0 0] 84 (0, 0))) := hidden (blk_alloc (blk_new _ _) _)
  have B0 : Hid (((w.alloc (.cells #[.slice none 0 0] 84)).alloc (.cells #[.int .i64 0] 24)).heap[w.heap.size + 1]? = some (.cells #[.int .i64 0] 24 (0, 0))) := hidden (by have := blk_new (w.alloc (.cells #[.slice none 0 0] 84)) (.cells #[.int .i64 0] 24); simpa using this)
  go_enter Tryz.func44, Tryz.ntmps44
  go_wp2_with (go_at_call 102; refine (HV.out _).mono ?_; rintro e w1 ⟨rfl, q1⟩; have K1 := hidden (K0.out.trans q1); have A1 := hidden (blk_kept q1 (fun h => h) A0.out); have B1 := hidden (blk_kept q1 (fun h => h) B0.out); have a0 := blk_cell (j := 0) A1.out; have a1 := blk_free (j := 0) A1.out; have b0 := blk_cell (j := 0) B1.out; have b1 := blk_free (j := 0) B1.out; clear q1)
  have s1 := blk_set (j := 0) A1.out (.slice none 0 0)
  have s2 : ((w1.setCell ⟨w.heap.size, 0, none⟩ (.slice none 0 0)).setCell ⟨w.heap.size + 1, 0, none⟩ (.int .i64 6)).heap[w.heap.size]? = some (.cells #[.slice none 0 0] 84 (0, 0)) := blk_kept ((Kept.refl (only (w.heap.size + 1)) _).setCell (p := ⟨w.heap.size + 1, 0, none⟩) rfl _) (fun (e : w.heap.size = w.heap.size + 1) => by omega) s1
  have s3 : ((w1.setCell ⟨w.heap.size, 0, none⟩ (.slice none 0 0)).setCell ⟨w.heap.size + 1, 0, none⟩ (.int .i64 6)).heap[w.heap.size + 1]? = some (.cells #[.int .i64 6] 24 (0, 0)) := blk_set (blk_kept ((Kept.refl (only w.heap.size) _).setCell (p := ⟨w.heap.size, 0, none⟩) rfl _) (fun (e : w.heap.size + 1 = w.heap.size) => by omega) B1.out) _
  have sf : Same w ((w1.setCell ⟨w.heap.size, 0, none⟩ (.slice none 0 0)).setCell ⟨w.heap.size + 1, 0, none⟩ (.int .i64 6)) := (K1.out.setNew (p := ⟨w.heap.size, 0, none⟩) (Nat.le_refl _) _).setNew (p := ⟨w.heap.size + 1, 0, none⟩) (Nat.le_succ _) _
  generalize ((w1.setCell ⟨w.heap.size, 0, none⟩ (.slice none 0 0)).setCell ⟨w.heap.size + 1, 0, none⟩ (.int .i64 6)) = WF at s2 s3 sf ⊢
  have q0 := blk_cell (j := 0) s2
  have q1 := blk_cell (j := 0) s3
  refine bodyPost_ret (v := .tuple #[.slice none 0 0, .int .i64 6]) (by simp [results, Tryz.results44, go_sem, q0, q1]) rfl ⟨rfl, sf⟩
set_option maxHeartbeats 400000 in
theorem dn_Empty (d : Int) (w : World) : Calls Tryz.prog 45 #[.pointer none, .int .i64 d] w fun e w' => e = .returned (.tuple #[.bool false, .int .i64 6]) ∧ Same w w' := by
  have HV := hidden (fun W => dn_Names d W)
  go_enter Tryz.func45, Tryz.ntmps45
  go_wp2_with (go_at_call 44; refine (HV.out _).mono ?_; rintro e w1 ⟨rfl, q1⟩; have K1 := hidden q1; clear q1)
  go_returns
  exact ⟨rfl, K1.out⟩
set_option maxHeartbeats 1000000 in
set_option maxRecDepth 100000 in
theorem dn_Refs (w : World) : Calls Tryz.prog 46 #[.pointer none] w fun e w' => e = .returned (.tuple #[.slice none 0 0, .int .i64 6]) ∧ Same w w' := by
  have HV := hidden (fun W => dn_readable W)
  have K0 : Hid (Same w ((w.alloc (.cells #[.slice none 0 0] 53)).alloc (.cells #[.int .i64 0] 24))) := hidden (((Kept.refl _ w).alloc _).alloc _)
  have A0 : Hid (((w.alloc (.cells #[.slice none 0 0] 53)).alloc (.cells #[.int .i64 0] 24)).heap[w.heap.size]? = some (.cells #[.slice none 0 0] 53 (0, 0))) := hidden (blk_alloc (blk_new _ _) _)
  have B0 : Hid (((w.alloc (.cells #[.slice none 0 0] 53)).alloc (.cells #[.int .i64 0] 24)).heap[w.heap.size + 1]? = some (.cells #[.int .i64 0] 24 (0, 0))) := hidden (by have := blk_new (w.alloc (.cells #[.slice none 0 0] 53)) (.cells #[.int .i64 0] 24); simpa using this)
  go_enter Tryz.func46, Tryz.ntmps46
  go_wp2_with (go_at_call 103; refine (HV.out _).mono ?_; rintro e w1 ⟨rfl, q1⟩; have K1 := hidden (K0.out.trans q1); have A1 := hidden (blk_kept q1 (fun h => h) A0.out); have B1 := hidden (blk_kept q1 (fun h => h) B0.out); have a0 := blk_cell (j := 0) A1.out; have a1 := blk_free (j := 0) A1.out; have b0 := blk_cell (j := 0) B1.out; have b1 := blk_free (j := 0) B1.out; clear q1)
  have s1 := blk_set (j := 0) A1.out (.slice none 0 0)
  have s2 : ((w1.setCell ⟨w.heap.size, 0, none⟩ (.slice none 0 0)).setCell ⟨w.heap.size + 1, 0, none⟩ (.int .i64 6)).heap[w.heap.size]? = some (.cells #[.slice none 0 0] 53 (0, 0)) := blk_kept ((Kept.refl (only (w.heap.size + 1)) _).setCell (p := ⟨w.heap.size + 1, 0, none⟩) rfl _) (fun (e : w.heap.size = w.heap.size + 1) => by omega) s1
  have s3 : ((w1.setCell ⟨w.heap.size, 0, none⟩ (.slice none 0 0)).setCell ⟨w.heap.size + 1, 0, none⟩ (.int .i64 6)).heap[w.heap.size + 1]? = some (.cells #[.int .i64 6] 24 (0, 0)) := blk_set (blk_kept ((Kept.refl (only w.heap.size) _).setCell (p := ⟨w.heap.size, 0, none⟩) rfl _) (fun (e : w.heap.size + 1 = w.heap.size) => by omega) B1.out) _
  have sf : Same w ((w1.setCell ⟨w.heap.size, 0, none⟩ (.slice none 0 0)).setCell ⟨w.heap.size + 1, 0, none⟩ (.int .i64 6)) := (K1.out.setNew (p := ⟨w.heap.size, 0, none⟩) (Nat.le_refl _) _).setNew (p := ⟨w.heap.size + 1, 0, none⟩) (Nat.le_succ _) _
  generalize ((w1.setCell ⟨w.heap.size, 0, none⟩ (.slice none 0 0)).setCell ⟨w.heap.size + 1, 0, none⟩ (.int .i64 6)) = WF at s2 s3 sf ⊢
  have q0 := blk_cell (j := 0) s2
  have q1 := blk_cell (j := 0) s3
  refine bodyPost_ret (v := .tuple #[.slice none 0 0, .int .i64 6]) (by simp [results, Tryz.results46, go_sem, q0, q1]) rfl ⟨rfl, sf⟩
structure LnP (w : World) (u : Value) (W : World) : Prop where
  out : ∃ B, u = .func (.func 106) #[] #[.pointer (some ⟨B, 0, none⟩)] ∧ W.heap[B]? = some (.cells #[.slice none 0 0] 190 (0, 0)) ∧ Same w W
set_option maxHeartbeats 400000 in
theorem dn_List (d : Int) (w : World) : Calls Tryz.prog 47 #[.pointer none, .int .i64 d] w fun e w' => ∃ u, e = .returned u ∧ LnP w u w' := by
  have HV := hidden (fun W => dasked_nil d W)
  go_enter Tryz.func47, Tryz.ntmps47
  go_wp2_with (go_at_call 102; refine (HV.out _).mono ?_; rintro e w1 ⟨rfl, rfl⟩)
  go_returns
  exact ⟨_, rfl, ⟨⟨w.heap.size, rfl, blk_new _ _, same_alloc _ _⟩⟩⟩
set_option maxRecDepth 100000 in
theorem neq_nil1 : ∀ (W : World) (n : FuncId) (b : Array Value), (binOp .neq 90 (.func (.func n) #[] b) Value.nilFunc).run Tryz.prog W = .ok (.bool true) W := fun W n b => by
  first | kernel_rfl | (simp [binOp, Op.equal, Op.maxDepth, go_sem]; rw [show (10000 : Nat) = 9999 + 1 from rfl]; simp [Op.equalIn, go_sem])
set_option maxRecDepth 100000 in
theorem neq_nil2 : ∀ (W : World) (n : FuncId) (b : Array Value), (binOp .neq 39 (.func (.func n) #[] b) Value.nilFunc).run Tryz.prog W = .ok (.bool true) W := fun W n b => by
  first | kernel_rfl | (simp [binOp, Op.equal, Op.maxDepth, go_sem]; rw [show (10000 : Nat) = 9999 + 1 from rfl]; simp [Op.equalIn, go_sem])
set_option maxHeartbeats 1000000 in
set_option maxRecDepth 100000 in
theorem dlives (w : World) : Calls Tryz.prog 40 #[] w fun e w' => e = .returned (.bool true) ∧ Same w w' := by
  have hf1 := neq_nil1
  have hf2 := neq_nil2
  have HT := hidden new_any
  have HP := hidden (fun W g p h => dput W g p h)
  have HG := hidden (fun W g p z1 z2 z3 d1 d2 d3 h => dget_b W g p z1 z2 z3 d1 d2 d3 h)
  have HD := hidden (fun W g => dget_dd W g)
  have HL := hidden (fun W g p z1 z2 z3 d1 d2 d3 h => dlist W g p z1 z2 z3 d1 d2 d3 h)
  have HS := hidden (fun o W => scan_fn o ⟨#[]⟩ ⟨#[]⟩ W)
  have tk : True := trivial
  go_enter Tryz.func40, Tryz.ntmps40
  go_wp2_with (first
    | (go_at_call 48; refine (HT.out _).mono ?_; rintro e w1 ⟨u, rfl, ⟨g, p, rfl, hl, q1⟩⟩; have L1 := hidden hl; have K1 := hidden q1; clear hl q1)
    | (go_at_call 42; refine (HP.out _ _ _ L1.out).mono ?_; rintro e w2 ⟨u, rfl, ⟨g2, p2, z1, z2, z3, d1, d2, d3, rfl, hl, q2⟩⟩; have L2 := hidden hl; have K2 := hidden (K1.out.trans q2); clear hl q2)
    | (go_at_call 41; have _t := tk; refine (HG.out _ _ _ _ _ _ _ _ _ L2.out).mono ?_; rintro e w3 ⟨rfl, q3⟩; have L3 := hidden (L2.out.same q3); have K3 := hidden (K2.out.trans q3); clear q3 tk _t)
    | (go_at_call 41; refine (HD.out _ _).mono ?_; rintro e w4 ⟨rfl, rfl⟩)
    | (go_at_call 47; refine (HL.out _ _ _ _ _ _ _ _ _ L3.out).mono ?_; rintro e w5 ⟨u, rfl, ⟨B5, rfl, q5⟩⟩; have K5 := hidden (K3.out.trans q5); clear q5)
    | (go_at_call 14; refine (HS.out _ _).mono ?_; rintro e w6 ⟨u, rfl, ⟨B6, rfl, _, _, _, _, q6⟩⟩; have K6 := hidden (K5.out.trans q6); clear q6))
  go_returns
  exact ⟨rfl, K6.out⟩
end Go.Proofs.YtmlibjohhgpniaaGreatDoor
