/- dir: an entry read; Put and Get of one name in directory 1. -/
import Derived.Test.YtmlibjohhgpniaaGreatDoorDi2
namespace Go.Proofs.YtmlibjohhgpniaaGreatDoor
open Go.RowKit
set_option linter.unusedVariables false
set_option linter.unusedSimpArgs false
set_option maxHeartbeats 1000000 in
set_option maxRecDepth 100000 in
theorem asEntry_b (w : World) : Calls Tryz.prog 182 #[.string (kD 1 ⟨#[98]⟩), .string (tV 5)] w fun e w' => e = .returned (.tuple #[.agg #[.string ⟨#[98]⟩, .int .i64 5, .bool false], .bool true]) ∧ Same w w' := by
  have HSp : Hid (∀ W, Calls Tryz.prog 180 #[.string (kD 1 ⟨#[98]⟩), .int .i64 1] W fun e w' => ∃ b off cap, e = .returned (.tuple #[.int .u8 100, .slice (some ⟨b, off, none⟩) 1 cap, .string ⟨#[98]⟩, .int .i64 0]) ∧ w'.cell? ⟨b, off, none⟩ = some (.int .u64 1) ∧ Same W w') := hidden (fun W => by
    have := split_in (kD 1 ⟨#[98]⟩) 1 W (by decide +kernel) (by decide)
    rw [spl_b] at this
    refine this.mono ?_
    rintro e w' ⟨v, rfl, hn, q⟩
    obtain ⟨a, cap, rfl, hc⟩ := hn.cells
    obtain ⟨b, off, rfl, hc'⟩ := hc (by simp)
    have hc0 := hc' 0 (by simp)
    rw [Nat.add_zero] at hc0
    exact ⟨b, off, cap, rfl, hc0, q⟩)
  have HT : Hid (∀ W, Calls Tryz.prog 97 #[.string (tV 5)] W fun e w' => e = .returned (.tuple #[.agg #[.int .i64 5, .bool false], .bool true]) ∧ Same W w') := hidden (fun W => asTarget_ok (tV 5) 5 tgrd5 W)
  have HN := hidden (fun W => dmayNumber_yes 1 (by omega) (by omega) W)
  have HB := hidden (fun W => dmayName_b W)
  generalize kD 1 ⟨#[98]⟩ = kk at *
  generalize tV 5 = vv at *
  have K0 := hidden (same_alloc w (.cells #[.string ⟨#[]⟩, .int .i64 0, .bool false] 188))
  have B0 := hidden (blk_new w (.cells #[.string ⟨#[]⟩, .int .i64 0, .bool false] 188))
  have hw : IntKind.i64.wrap 1 = 1 := by decide
  go_enter Tryz.func182, Tryz.ntmps182
  go_wp2_with (first
    | (go_at_call 180; refine (HSp.out _).mono ?_; rintro e w1 ⟨b, off, cap, rfl, hc0, q1⟩; have HC := hidden hc0; have K1 := hidden (K0.out.trans q1); have B1 := hidden (blk_kept q1 (fun h => h) B0.out); clear q1 hc0)
    | (go_at_call 97; refine (HT.out _).mono ?_; rintro e w2 ⟨rfl, q2⟩; have q2' := q2.alloc (.cells #[.int .i64 5, .bool false] 177); have K2 := hidden (K1.out.trans q2'); have B2 := blk_kept q2' (fun h => h) B1.out; have T2 := blk_new w2 (.cells #[.int .i64 5, .bool false] 177); have n0 : (w2.alloc (.cells #[.int .i64 5, .bool false] 177)).cell? ⟨b, off, none⟩ = some (.int .u64 1) := q2'.cell (fun h => h) HC.out; have t0 := blk_cell (j := 0) T2; have t1 := blk_cell (j := 1) T2; have y0 := blk_cell (j := 0) B2; have y1 := blk_cell (j := 1) B2; have y2 := blk_cell (j := 2) B2; have f0 := blk_free (j := 0) B2; have f1 := blk_free (j := 1) B2; have f2 := blk_free (j := 2) B2; have BB := hidden B2; clear q2 q2' B2 T2)
    | (go_at_call 99; refine (HN.out _).mono ?_; rintro e w8 ⟨rfl, rfl⟩)
    | (go_at_call 150; refine (HB.out _).mono ?_; rintro e w9 ⟨rfl, rfl⟩))
  have gf := fill3 BB.out (.string ⟨#[98]⟩) (.int .i64 5) (.bool false)
  have sf := same_fill3 K2.out (g := w.heap.size) (Nat.le_refl _) (.string ⟨#[98]⟩) (.int .i64 5) (.bool false)
  generalize ((((w2.alloc (.cells #[.int .i64 5, .bool false] 177)).setCell ⟨w.heap.size, 0, none⟩ (.string ⟨#[98]⟩)).setCell ⟨w.heap.size, 1, none⟩ (.int .i64 5)).setCell ⟨w.heap.size, 2, none⟩ (.bool false)) = WF at gf sf ⊢
  have q0 := blk_cell (j := 0) gf
  have q1 := blk_cell (j := 1) gf
  have q2 := blk_cell (j := 2) gf
  refine bodyPost_ret (v := .tuple #[.agg #[.string ⟨#[98]⟩, .int .i64 5, .bool false], .bool true]) (by simp [results, Tryz.results182, go_sem, q0, q1, q2]) rfl ⟨rfl, sf⟩
theorem dasked (g : Nat) (w : World) : Calls Tryz.prog 102 #[.pointer (some ⟨g, 0, none⟩), .int .i64 1] w fun e w' => e = .returned (.int .i64 0) ∧ w = w' := by
  have HN := hidden (fun W => dmayNumber_yes 1 (by omega) (by omega) W)
  go_enter Tryz.func102, Tryz.ntmps102
  go_wp2_with (go_at_call 99; refine (HN.out _).mono ?_; rintro e w8 ⟨rfl, rfl⟩)
  go_returns
  exact ⟨rfl, rfl⟩
theorem dasked_nil (d : Int) (w : World) : Calls Tryz.prog 102 #[.pointer none, .int .i64 d] w fun e w' => e = .returned (.int .i64 6) ∧ w = w' := by
  go_enter Tryz.func102, Tryz.ntmps102
  go_wp2
  go_returns
  exact ⟨rfl, rfl⟩
theorem daskedName_b (g : Nat) (w : World) : Calls Tryz.prog 98 #[.pointer (some ⟨g, 0, none⟩), .int .i64 1, .string ⟨#[98]⟩] w fun e w' => e = .returned (.int .i64 0) ∧ w = w' := by
  have HA := hidden (fun W => dasked g W)
  have HB := hidden (fun W => dmayName_b W)
  go_enter Tryz.func98, Tryz.ntmps98
  go_wp2_with (first
    | (go_at_call 102; refine (HA.out _).mono ?_; rintro e w8 ⟨rfl, rfl⟩)
    | (go_at_call 150; refine (HB.out _).mono ?_; rintro e w9 ⟨rfl, rfl⟩))
  go_returns
  exact ⟨rfl, rfl⟩
theorem daskedName_dd (g : Nat) (w : World) : Calls Tryz.prog 98 #[.pointer (some ⟨g, 0, none⟩), .int .i64 1, .string ⟨#[46, 46]⟩] w fun e w' => e = .returned (.int .i64 1) ∧ w = w' := by
  have HA := hidden (fun W => dasked g W)
  have HB := hidden (fun W => dmayName_dd W)
  go_enter Tryz.func98, Tryz.ntmps98
  go_wp2_with (first
    | (go_at_call 102; refine (HA.out _).mono ?_; rintro e w8 ⟨rfl, rfl⟩)
    | (go_at_call 150; refine (HB.out _).mono ?_; rintro e w9 ⟨rfl, rfl⟩))
  go_returns
  exact ⟨rfl, rfl⟩
theorem daskedName_nil (d : Int) (s : ByteArray) (w : World) : Calls Tryz.prog 98 #[.pointer none, .int .i64 d, .string s] w fun e w' => e = .returned (.int .i64 6) ∧ w = w' := by
  have HA := hidden (fun W => dasked_nil d W)
  go_enter Tryz.func98, Tryz.ntmps98
  go_wp2_with (go_at_call 102; refine (HA.out _).mono ?_; rintro e w8 ⟨rfl, rfl⟩)
  go_returns
  exact ⟨rfl, rfl⟩
/-- The leaf of one entry. -/
def ndD : Nd := ⟨true, [kD 1 ⟨#[98]⟩], [tV 5], []⟩
theorem ndD_put : PutOk nd0 (kD 1 ⟨#[98]⟩) (tV 5) ndD := putOk_new (c := 0) (by decide +kernel) (by decide +kernel) (by decide +kernel) (by decide +kernel) (by decide +kernel) (by decide +kernel) rfl (by decide +kernel)
theorem ndD_has : ndD.has (kD 1 ⟨#[98]⟩) = true := by rw [has_D]; decide +kernel
set_option maxHeartbeats 1000000 in
set_option maxRecDepth 100000 in
theorem dput (w : World) (g p : Nat) (ht : LT w g p nd0 none none none 0 0 0 0 0 0) : Calls Tryz.prog 42 #[.pointer (some ⟨g, 0, none⟩), .int .i64 1, .string ⟨#[98]⟩, .int .i64 5, .bool false] w fun e w' => ∃ u, e = .returned u ∧ ChP w ndD u w' := by
  have HA := hidden (fun W => daskedName_b g W)
  have HN := hidden (fun W => dmayNumber_yes 5 (by omega) (by omega) W)
  have HK : Hid (∀ W, Calls Tryz.prog 100 #[.int .i64 1, .string ⟨#[98]⟩] W fun e w' => e = .returned (.string (kD 1 ⟨#[98]⟩)) ∧ Same W w') := hidden (fun W => entryKey_any 1 ⟨#[98]⟩ (by decide) (by decide) W)
  have HT : Hid (∀ W, Calls Tryz.prog 101 #[.agg #[.int .i64 5, .bool false]] W fun e w' => e = .returned (.string (tV 5)) ∧ Same W w') := hidden (fun W => ttext 5 (by decide) W)
  have HP := hidden (fun W (k : Same w W) => tput nd0 none none none 0 0 0 0 0 0 ndD_put W g p (ht.same k))
  generalize kD 1 ⟨#[98]⟩ = kk at *
  generalize tV 5 = vv at *
  clear ht
  go_enter Tryz.func42, Tryz.ntmps42
  go_wp2_with (first
    | (go_at_call 98; refine (HA.out _).mono ?_; rintro e w8 ⟨rfl, rfl⟩)
    | (go_at_call 99; refine (HN.out _).mono ?_; rintro e w9 ⟨rfl, rfl⟩)
    | (go_at_call 100; refine (HK.out _).mono ?_; rintro e w1 ⟨rfl, q1⟩; have K1 := hidden q1; clear q1)
    | (go_at_call 101; refine (HT.out _).mono ?_; rintro e w2 ⟨rfl, q2⟩; have K2 := hidden (K1.out.trans q2); clear q2)
    | (go_at_call 9; refine (HP.out _ K2.out).mono ?_; rintro e w3 ⟨u, rfl, ⟨g', q', z1, z2, z3, d1, d2, d3, rfl, hlt, q3⟩⟩; have L3 := hidden hlt; have K3 := hidden (K2.out.trans q3); clear q3 hlt))
  go_returns
  exact ⟨_, rfl, ⟨⟨g', q', z1, z2, z3, d1, d2, d3, rfl, L3.out, K3.out⟩⟩⟩
set_option maxHeartbeats 1000000 in
set_option maxRecDepth 100000 in
theorem dget_b (w : World) (g p : Nat) (z1 z2 z3 : Option Addr) (d1 d2 d3 : Nat) (ht : LT w g p ndD z1 z2 z3 1 d1 1 d2 0 d3) : Calls Tryz.prog 41 #[.pointer (some ⟨g, 0, none⟩), .int .i64 1, .string ⟨#[98]⟩] w fun e w' => e = .returned (.tuple #[.int .i64 5, .bool false, .int .i64 0]) ∧ Same w w' := by
  have HV : Hid (∀ W, Same w W → Calls Tryz.prog 96 #[.pointer (some ⟨g, 0, none⟩), .int .i64 1, .string ⟨#[98]⟩] W fun e w' => e = .returned (.tuple #[.string (tV 5), .int .i64 0]) ∧ Same W w') := hidden (fun W kW => by
    have HA := hidden (fun W => daskedName_b g W)
    have HK : Hid (∀ W, Calls Tryz.prog 100 #[.int .i64 1, .string ⟨#[98]⟩] W fun e w' => e = .returned (.string (kD 1 ⟨#[98]⟩)) ∧ Same W w') := hidden (fun W => entryKey_any 1 ⟨#[98]⟩ (by decide) (by decide) W)
    have HG := hidden (fun V (k : Same W V) => tget_has ndD z1 z2 z3 1 d1 1 d2 0 d3 V g p ((ht.same kW).same k) rfl (fit_D (by decide +kernel)).1 (kD 1 ⟨#[98]⟩) ndD_has rfl (tV 5) (by rw [cnt_D]; rfl))
    generalize kD 1 ⟨#[98]⟩ = kk at *
    generalize tV 5 = vv at *
    clear ht kW
    go_enter Tryz.func96, Tryz.ntmps96
    go_wp2_with (first
      | (go_at_call 98; refine (HA.out _).mono ?_; rintro e w8 ⟨rfl, rfl⟩)
      | (go_at_call 100; refine (HK.out _).mono ?_; rintro e w1 ⟨rfl, q1⟩; have K1 := hidden q1; clear q1)
      | (go_at_call 8; refine (HG.out _ K1.out).mono ?_; rintro e w2 ⟨rfl, q2⟩; have K2 := hidden (K1.out.trans q2); clear q2))
    go_returns
    exact ⟨rfl, K2.out⟩)
  have HT : Hid (∀ W, Calls Tryz.prog 97 #[.string (tV 5)] W fun e w' => e = .returned (.tuple #[.agg #[.int .i64 5, .bool false], .bool true]) ∧ Same W w') := hidden (fun W => asTarget_ok (tV 5) 5 tgrd5 W)
  generalize tV 5 = vv at *
  clear ht
  go_enter Tryz.func41, Tryz.ntmps41
  go_wp2_with (first
    | (go_at_call 96; refine (HV.out _ (Kept.refl _ _)).mono ?_; rintro e w1 ⟨rfl, q1⟩; have K1 := hidden q1; clear q1)
    | (go_at_call 97; refine (HT.out _).mono ?_; rintro e w2 ⟨rfl, q2⟩; have T2 := blk_new w2 (.cells #[.int .i64 5, .bool false] 177); have t0 := blk_cell (j := 0) T2; have t1 := blk_cell (j := 1) T2; have K2 := hidden ((K1.out.trans q2).alloc (.cells #[.int .i64 5, .bool false] 177)); clear q2 T2))
  generalize w2.alloc (.cells #[.int .i64 5, .bool false] 177) = WF at t0 t1 K2 ⊢
  go_quiet (fail)
  go_wp2
  go_returns
  exact ⟨rfl, K2.out.drewN _⟩
set_option maxHeartbeats 1000000 in
theorem dget_dd (w : World) (g : Nat) : Calls Tryz.prog 41 #[.pointer (some ⟨g, 0, none⟩), .int .i64 1, .string ⟨#[46, 46]⟩] w fun e w' => e = .returned (.tuple #[.int .i64 0, .bool false, .int .i64 1]) ∧ w = w' := by
  have HV : Hid (∀ W, Calls Tryz.prog 96 #[.pointer (some ⟨g, 0, none⟩), .int .i64 1, .string ⟨#[46, 46]⟩] W fun e w' => e = .returned (.tuple #[.string ⟨#[]⟩, .int .i64 1]) ∧ W = w') := hidden (fun W => by
    have HA := hidden (fun W => daskedName_dd g W)
    go_enter Tryz.func96, Tryz.ntmps96
    go_wp2_with (go_at_call 98; refine (HA.out _).mono ?_; rintro e w8 ⟨rfl, rfl⟩)
    go_returns
    exact ⟨rfl, rfl⟩)
  go_enter Tryz.func41, Tryz.ntmps41
  go_wp2_with (go_at_call 96; refine (HV.out _).mono ?_; rintro e w1 ⟨rfl, rfl⟩)
  go_returns
  exact ⟨rfl, rfl⟩
end Go.Proofs.YtmlibjohhgpniaaGreatDoor
