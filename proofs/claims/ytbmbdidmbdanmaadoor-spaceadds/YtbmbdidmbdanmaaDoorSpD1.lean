/- The law's does at the kinds whose regions draw no order: Take, Settle, looks, Bits, none. -/
import Derived.Test.YtbmbdidmbdanmaaDoorSpD0
namespace Go.Proofs.YtbmbdidmbdanmaaDoor
open Go.RowKit Go.Shelf
set_option linter.unusedVariables false
set_option linter.unusedSimpArgs false
variable {zp : Spare}
/-- Both stand the same behind a step. -/
structure DOut (zp : Spare) (g q r first count : Nat) (w w' : World) : Prop where
  ex : ∃ u v res, Pr zp g q r first count u v res w' ∧ Kept (Tri g q r) w w'
set_option maxHeartbeats 4000000 in
set_option maxRecDepth 100000 in
theorem does_take {g q r first count : Nat} {u v : Nat → Bool} {res : Nat} (n af ac : Int) (w : World) (h : Pr zp g q r first count u v res w) :
    Calls Tryd.prog 11 #[.pointer (some ⟨g, 0, none⟩), .pointer (some ⟨q, 0, none⟩), .agg #[.int .i64 0, .int .i64 n, .int .i64 af, .int .i64 ac]] w fun e w' => e = .returned (.bool true) ∧ DOut zp g q r first count w w' := by
  have HP := hidden h
  have lg : g < w.heap.size := by obtain ⟨cs, hb, _⟩ := h.sp.box; exact blk_lt hb
  have n1 := h.gq
  have n2 := h.gr
  rcases both_take h n with ⟨er, hA, hB⟩ | ⟨p, m, rfl, hm1, hpm, hno, hA, hB⟩
  · have HA := hidden hA
    have HB := hidden hB
    clear h hA hB
    go_enter Tryd.func11, Tryd.ntmps11
    go_wp2_with (first
      | (go_at_call 15; refine (HA.out _ (same_alloc _ _)).mono ?_; rintro e w1 ⟨rfl, k1⟩; have K1 := hidden ((same_alloc _ _).trans k1); have d1 : w1.cell? ⟨w.heap.size, 1, none⟩ = some (.int .i64 n) := blk_cell (blk_kept k1 (fun h => h) (blk_new w (.cells #[.int .i64 0, .int .i64 n, .int .i64 af, .int .i64 ac] 32))); clear k1)
      | (go_at_call 32; refine (HB.out _ (HP.out.keep K1.out).rf).mono ?_; rintro e w2 ⟨rfl, k2⟩; have K2 := hidden k2; clear k2))
    go_returns
    have kk := K1.out.trans K2.out
    exact ⟨rfl, ⟨u, v, res, HP.out.keep kk, kk.mono (fun _ _ h => h.elim)⟩⟩
  · have HA := hidden hA
    have HB := hidden hB
    have HN := hidden hno
    obtain ⟨lo, hlo⟩ : ∃ lo, lo = first + p := ⟨_, rfl⟩
    rw [← hlo] at HA HB
    clear h hA hB hno hlo
    go_enter Tryd.func11, Tryd.ntmps11
    go_wp2_with (first
      | (go_at_call 15; refine (HA.out _ (same_alloc _ _)).mono ?_; rintro e w1 ⟨rfl, s1, k1⟩; have S1 := hidden s1; have K1 := hidden (((same_alloc w (.cells #[.int .i64 0, .int .i64 (m : Int), .int .i64 af, .int .i64 ac] 32)).mono (fun _ _ h => h.elim)).trans k1); have d1 : w1.cell? ⟨w.heap.size, 1, none⟩ = some (.int .i64 (m : Int)) := blk_cell (blk_kept k1 (by omega) (blk_new w (.cells #[.int .i64 0, .int .i64 (m : Int), .int .i64 af, .int .i64 ac] 32))); clear k1 s1)
      | (go_at_call 32; refine (HB.out _ (HP.out.rf.kept K1.out (by omega) (by omega))).mono ?_; rintro e w2 ⟨rfl, s2, k2⟩; have S2 := hidden s2; have K2 := hidden k2; clear k2 s2))
    go_returns
    have z := HP.out.step S1.out K1.out S2.out (K2.out.mono (fun _ _ h => Or.inr h)) (HP.out.pl.take hpm HN.out)
    exact ⟨rfl, ⟨_, _, _, z.1, z.2⟩⟩
set_option maxHeartbeats 4000000 in
set_option maxRecDepth 100000 in
theorem does_settle {g q r first count : Nat} {u v : Nat → Bool} {res : Nat} (n af ac : Int) (w : World) (h : Pr zp g q r first count u v res w) :
    Calls Tryd.prog 11 #[.pointer (some ⟨g, 0, none⟩), .pointer (some ⟨q, 0, none⟩), .agg #[.int .i64 4, .int .i64 n, .int .i64 af, .int .i64 ac]] w fun e w' => e = .returned (.bool true) ∧ DOut zp g q r first count w w' := by
  have HP := hidden h
  have n1 := h.gq
  have n2 := h.gr
  have HA := hidden (fun W (k : Same w W) => sp_settle g first count u v res W (h.sp.kept k (fun h => h)))
  have HB := hidden (fun W (hW : RfAt zp q r first count u v res W) => rf_settle q r first count u v res W hW h.pl)
  generalize cnt v 4096 = y at *
  clear h
  go_enter Tryd.func11, Tryd.ntmps11
  go_wp2_with (first
    | (go_at_call 18; refine (HA.out _ (same_alloc _ _)).mono ?_; rintro e w1 ⟨rfl, s1, k1⟩; have S1 := hidden s1; have K1 := hidden (((same_alloc w (.cells #[.int .i64 4, .int .i64 n, .int .i64 af, .int .i64 ac] 32)).mono (fun _ _ h => h.elim)).trans k1); clear k1 s1)
    | (go_at_call 36; refine (HB.out _ (HP.out.rf.kept K1.out (by omega) (by omega))).mono ?_; rintro e w2 ⟨rfl, s2, k2⟩; have S2 := hidden s2; have K2 := hidden k2; clear k2 s2))
  go_returns
  have z := HP.out.step S1.out K1.out S2.out (K2.out.mono (fun _ _ h => Or.inr h)) HP.out.pl.settle
  exact ⟨by simp, ⟨_, _, _, z.1, z.2⟩⟩
set_option maxHeartbeats 4000000 in
set_option maxRecDepth 100000 in
theorem does_look {g q r first count : Nat} {u v : Nat → Bool} {res : Nat} (n af ac : Int) (w : World) (h : Pr zp g q r first count u v res w) :
    Calls Tryd.prog 11 #[.pointer (some ⟨g, 0, none⟩), .pointer (some ⟨q, 0, none⟩), .agg #[.int .i64 7, .int .i64 n, .int .i64 af, .int .i64 ac]] w fun e w' => e = .returned (.bool true) ∧ Same w w' := by
  have A1 := hidden (fun W (k : Same w W) => sp_left g first count u v res W (h.sp.kept k (fun h => h)))
  have A2 := hidden (fun W (k : Same w W) => rf_left q r first count u v res W (h.rf.kept k (fun h => h) (fun h => h)) h.pl)
  have A3 := hidden (fun W (k : Same w W) => sp_used g first count u v res W (h.sp.kept k (fun h => h)))
  have A4 := hidden (fun W (k : Same w W) => rf_used q r first count u v res W (h.rf.kept k (fun h => h) (fun h => h)) h.pl)
  have A5 := hidden (fun W (k : Same w W) => sp_waiting g first count u v res W (h.sp.kept k (fun h => h)))
  have A6 := hidden (fun W (k : Same w W) => rf_waiting q r first count u v res W (h.rf.kept k (fun h => h) (fun h => h)) h.pl)
  have e : (count : Int) - (cnt u 4096 : Nat) - (cnt v 4096 : Nat) - res = leftZ count u v res := rfl
  rw [e] at A1
  generalize leftZ count u v res = L at *
  generalize cnt u 4096 = x at *
  generalize cnt v 4096 = y at *
  clear h e
  go_enter Tryd.func11, Tryd.ntmps11
  go_wp2_with (first
    | (go_at_call 25; refine (A1.out _ (same_alloc _ _)).mono ?_; rintro e w1 ⟨rfl, k1⟩; have K1 := hidden ((same_alloc _ _).trans k1); clear k1)
    | (go_at_call 26; refine (A2.out _ K1.out).mono ?_; rintro e w2 ⟨rfl, nn, rfl⟩; have K2 := hidden (K1.out.trans ((Kept.refl _ _).drewN nn)))
    | (go_at_call 23; refine (A3.out _ K2.out).mono ?_; rintro e w3 ⟨rfl, k3⟩; first | (subst k3; have K3 := K2) | have K3 := hidden (K2.out.trans k3))
    | (go_at_call 39; refine (A4.out _ K3.out).mono ?_; rintro e w4 ⟨rfl, rfl⟩)
    | (go_at_call 24; refine (A5.out _ K3.out).mono ?_; rintro e w5 ⟨rfl, k5⟩; first | (subst k5; have K5 := K3) | have K5 := hidden (K3.out.trans k5))
    | (go_at_call 40; refine (A6.out _ K5.out).mono ?_; rintro e w6 ⟨rfl, rfl⟩))
  go_returns
  exact ⟨by simp, K5.out⟩
set_option maxHeartbeats 4000000 in
set_option maxRecDepth 100000 in
theorem does_bits {g q r first count : Nat} {u v : Nat → Bool} {res : Nat} (n af ac : Int) (w : World) (h : Pr zp g q r first count u v res w) :
    Calls Tryd.prog 11 #[.pointer (some ⟨g, 0, none⟩), .pointer (some ⟨q, 0, none⟩), .agg #[.int .i64 10, .int .i64 n, .int .i64 af, .int .i64 ac]] w fun e w' => e = .returned (.bool true) ∧ Same w w' := by
  have A1 := hidden (fun W (k : Same w W) => sp_bits g first count u v res W (h.sp.kept k (fun h => h)))
  have A2 := hidden (fun W (k : Same w W) => rf_bits q r first count u v res W (h.rf.kept k (fun h => h) (fun h => h)) h.pl.fits.2.1)
  generalize bitsV ((count + 7) / 8) (bk (fun i => u i || v i) count) = s at *
  clear h
  go_enter Tryd.func11, Tryd.ntmps11
  go_wp2_with (first
    | (go_at_call 29; refine (A1.out _ (same_alloc _ _)).mono ?_; rintro e w1 ⟨rfl, k1⟩; have K1 := hidden ((same_alloc _ _).trans k1); clear k1)
    | (go_at_call 43; refine (A2.out _ K1.out).mono ?_; rintro e w2 ⟨rfl, k2⟩; have K2 := hidden (K1.out.trans k2); clear k2))
  go_returns
  exact ⟨by simp, K2.out⟩
set_option maxHeartbeats 4000000 in
set_option maxRecDepth 100000 in
theorem does_else (sv rv : Option Addr) (kd n af ac : Int) (w : World) (h : ¬ (0 ≤ kd ∧ kd ≤ 10)) :
    Calls Tryd.prog 11 #[.pointer sv, .pointer rv, .agg #[.int .i64 kd, .int .i64 n, .int .i64 af, .int .i64 ac]] w fun e w' => e = .returned (.bool true) ∧ Same w w' := by
  have e0 : ¬ kd = 0 := by omega
  have e1 : ¬ kd = 1 := by omega
  have e2 : ¬ kd = 2 := by omega
  have e3 : ¬ kd = 3 := by omega
  have e4 : ¬ kd = 4 := by omega
  have e5 : ¬ kd = 5 := by omega
  have e6 : ¬ kd = 6 := by omega
  have e7 : ¬ kd = 7 := by omega
  have e8 : ¬ kd = 8 := by omega
  have e9 : ¬ kd = 9 := by omega
  have e10 : ¬ kd = 10 := by omega
  clear h
  go_enter Tryd.func11, Tryd.ntmps11
  go_wp2
  go_returns
  exact ⟨rfl, same_alloc _ _⟩
end Go.Proofs.YtbmbdidmbdanmaaDoor
