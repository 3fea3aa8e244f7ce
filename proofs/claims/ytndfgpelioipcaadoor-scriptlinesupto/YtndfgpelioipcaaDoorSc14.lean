/- script: the law's awake, walked. -/
import Derived.Test.YtndfgpelioipcaaDoorSc13
namespace Go.Proofs.YtndfgpelioipcaaDoor
open Go.RowKit Go.Maps Go.WideMaps
set_option linter.unusedVariables false
set_option linter.unusedSimpArgs false
theorem itoa_one (n : Nat) (h : n < 10) : Lib.itoa (n : Int) = [UInt8.ofNat (48 + n)] := by
  unfold Lib.itoa
  rw [if_neg (by omega), Int.toNat_natCast, Lib.decDigits_one h]
theorem num_0 : num [48] = some 0 := by
  have h := itoa_one 0 (by decide)
  have e : Lib.atoiAll [48] = .ok 0 := by decide
  unfold num
  rw [e]
  exact if_pos ⟨by decide, h⟩
theorem num_5 : num [53] = some 5 := by
  have h := itoa_one 5 (by decide)
  have e : Lib.atoiAll [53] = .ok 5 := by decide
  unfold num
  rw [e]
  exact if_pos ⟨by decide, h⟩
theorem num_01 : num [48, 49] = none := by
  have h := itoa_one 1 (by decide)
  have e : Lib.atoiAll [48, 49] = .ok 1 := by decide
  unfold num
  rw [e]
  exact if_neg (fun ⟨_, h2⟩ => by rw [show (1 : Int) = ((1 : Nat) : Int) from rfl, h] at h2; revert h2; decide)
def oW : OpR := ⟨4, [], [], 0, 5, 0, 0, [97, 98]⟩
def oR : OpR := ⟨3, [], [], 0, -1, 9, 0, []⟩
theorem awake_w : prw (wordsL [119, 114, 105, 116, 101, 32, 48, 32, 53, 32, 34, 97, 98, 34]) = some oW := by
  have e : wordsL [119, 114, 105, 116, 101, 32, 48, 32, 53, 32, 34, 97, 98, 34] = [[119, 114, 105, 116, 101], [48], [53], [34, 97, 98, 34]] := by decide +kernel
  have k : kdOf [119, 114, 105, 116, 101] = 4 := by decide +kernel
  have f : flL 4 = [72, 79, 68] := by decide +kernel
  have u : unq [34, 97, 98, 34] = some [97, 98] := by decide +kernel
  rw [e]
  simp only [prw]
  rw [k, f, if_neg (by simp)]
  simp only [ps, OpR.tak, isT, nw, num_0, num_5, u]
  rfl
theorem awake_c : prw (wordsL [99, 108, 111, 115, 101, 32, 48, 49]) = none := by
  have e : wordsL [99, 108, 111, 115, 101, 32, 48, 49] = [[99, 108, 111, 115, 101], [48, 49]] := by decide +kernel
  have k : kdOf [99, 108, 111, 115, 101] = 2 := by decide +kernel
  have f : flL 2 = [72] := by decide +kernel
  rw [e]
  simp only [prw]
  rw [k, f, if_neg (by simp)]
  simp only [ps, OpR.tak, isT, nw, num_01]
  rfl
theorem awake_r : prt oR = some [114, 101, 97, 100, 32, 48, 32, 45, 49, 32, 57] := by
  have n0 : Lib.itoa 0 = [48] := itoa_one 0 (by decide)
  have n9 : Lib.itoa 9 = [57] := itoa_one 9 (by decide)
  have n1 : Lib.itoa (-1) = [45, 49] := by
    unfold Lib.itoa
    rw [if_pos (by decide)]
    have := Lib.decDigits_one (i := 1) (by decide)
    exact congrArg (List.cons 45) this
  have f : flL oR.kd.toNat = [72, 79, 78] := by decide +kernel
  have m : nmL oR.kd.toNat = [114, 101, 97, 100] := by decide +kernel
  unfold prt
  rw [if_pos (by decide), f, m]
  have hp : pr oR [72, 79, 78] = some (OpR.only 3, [[48], [45, 49], [57]]) := by
    have m0 : mayN 0 = true := by decide
    have m1 : mayN (-1) = true := by decide
    have m9 : mayN 9 = true := by decide
    simp [pr, OpR.may, OpR.wd, OpR.clr, OpR.setN, OpR.num, isT, oR, n0, n1, n9, m0, m1, m9, OpR.only]
  rw [hp]
  simp only
  rw [if_pos (by decide)]
  simp [jn_cons, jn_one]
set_option maxHeartbeats 1000000 in
set_option maxRecDepth 100000 in
theorem awake_any (w : World) (T : Tb w) : Calls Tryd.prog 11 #[] w fun e w' => e = .returned (.bool true) ∧ Same w w' := by
  have HW := hidden (parseOp_any ⟨#[119, 114, 105, 116, 101, 32, 48, 32, 53, 32, 34, 97, 98, 34]⟩ (by decide))
  have HC := hidden (parseOp_any ⟨#[99, 108, 111, 115, 101, 32, 48, 49]⟩ (by decide))
  have HP := hidden (printOp_any oR ⟨by unfold I64 oR; decide, by unfold I64 oR; decide, by unfold I64 oR; decide, by unfold I64 oR; decide, by unfold I64 oR; decide, by decide⟩)
  rw [awake_w] at HW
  rw [awake_c] at HC
  rw [awake_r] at HP
  have HT := hidden T
  have hrt : (BA [114, 101, 97, 100, 32, 48, 32, 45, 49, 32, 57]).toList = [114, 101, 97, 100, 32, 48, 32, 45, 49, 32, 57] := toList_BA _
  clear T
  go_enter Tryd.func11, Tryd.ntmps11
  go_wp2_with (first
    | (go_at_call 16; refine (HW.out _ HT.out).mono ?_; rintro e w1 ⟨rfl, k1⟩; have K1 := hidden k1; clear k1 HW; unfold piV OpR.cs oW)
    | (go_at_call 16; refine (HC.out _ (HT.out.same (K1.out.alloc _))).mono ?_; rintro e w2 ⟨rfl, k2⟩; have K2 := hidden ((K1.out.alloc _).trans k2); have B2 := hidden (opb_kept (o := oW) (blk_new w1 _) k2 (fun h => h)); clear k2; unfold piV OpR.cs OpR.zero)
    | (go_at_call 14; refine (HP.out _ (HT.out.same (K2.out.alloc _))).mono ?_; rintro e w3 ⟨rfl, k3⟩; have K3 := hidden ((K2.out.alloc _).trans k3); have B3 := hidden (opb_kept (o := oW) (blk_alloc B2.out _) k3 (fun h => h)); clear k3; have c0 : w3.cell? ⟨w1.heap.size, 0, none⟩ = some (.int .i64 4) := (blk_cell B3.out); have c1 : w3.cell? ⟨w1.heap.size, 1, none⟩ = some (.string ⟨#[]⟩) := (blk_cell B3.out); have c2 : w3.cell? ⟨w1.heap.size, 2, none⟩ = some (.string ⟨#[]⟩) := (blk_cell B3.out); have c3 : w3.cell? ⟨w1.heap.size, 3, none⟩ = some (.int .i64 0) := (blk_cell B3.out); have c4 : w3.cell? ⟨w1.heap.size, 4, none⟩ = some (.int .i64 5) := (blk_cell B3.out); have c5 : w3.cell? ⟨w1.heap.size, 5, none⟩ = some (.int .i64 0) := (blk_cell B3.out); have c6 : w3.cell? ⟨w1.heap.size, 6, none⟩ = some (.int .i64 0) := (blk_cell B3.out); have c7 : w3.cell? ⟨w1.heap.size, 7, none⟩ = some (.string ⟨#[97, 98]⟩) := (blk_cell B3.out); unfold poV))
  go_returns
  exact ⟨rfl, K3.out⟩
end Go.Proofs.YtndfgpelioipcaaDoor
