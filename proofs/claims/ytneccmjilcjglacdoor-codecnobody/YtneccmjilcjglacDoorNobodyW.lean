/- CodecNobody's walk: true, for every step and every world that holds the table; nothing that was there turns. -/
import Derived.Test.YtneccmjilcjglacDoorAwake
namespace Go.Proofs.YtneccmjilcjglacDoor
open Go.RowKit
set_option linter.unusedVariables false

set_option maxHeartbeats 2000000 in
theorem write_nil (kind : Int) (n : Nat) (s : ByteArray) (w : World) (hn : n < 18446744073709551616) (hs : s.size ≤ 140737488355328) :
    Calls Tryd.prog 21 #[.pointer none, .agg #[.int .i64 kind, .int .u64 n, .string s]] w fun e w' => e = .returned (.tuple #[]) ∧ Same w w' := by
  have hk : Same w (w.alloc (.cells #[.int .i64 kind, .int .u64 n, .string s] 47)) := (Kept.refl _ _).alloc _
  have HK := hidden hk
  clear hk
  rcases (show kind = 0 ∨ kind = 1 ∨ kind = 2 ∨ kind = 3 ∨ kind = 4 ∨ kind = 5 ∨ kind = 6 ∨ (kind ≠ 0 ∧ kind ≠ 1 ∧ kind ≠ 2 ∧ kind ≠ 3 ∧ kind ≠ 4 ∧ kind ≠ 5 ∧ kind ≠ 6) by omega) with rfl | rfl | rfl | rfl | rfl | rfl | rfl | ⟨h0, h1, h2, h3, h4, h5, h6⟩
  all_goals
    go_enter Tryd.func21, Tryd.ntmps21
    go_wp2_with (first
      | (go_at_call 39; refine (wU8_nil _ _).mono ?_; rintro e w1 ⟨rfl, rfl⟩)
      | (go_at_call 45; refine (wU16_nil _ _).mono ?_; rintro e w1 ⟨rfl, rfl⟩)
      | (go_at_call 42; refine (wU32_nil _ _).mono ?_; rintro e w1 ⟨rfl, rfl⟩)
      | (go_at_call 40; refine (wU64_nil _ _).mono ?_; rintro e w1 ⟨rfl, rfl⟩)
      | (go_at_call 37; refine (var_nil n hn _).mono ?_; rintro e w1 ⟨rfl, rfl⟩)
      | (go_at_call 38; refine (text_nil s _ hs).mono ?_; rintro e w1 ⟨rfl, rfl⟩)
      | (go_at_call 41; refine (raw_nil s _ hs).mono ?_; rintro e w1 ⟨rfl, rfl⟩))
    go_returns
    exact ⟨rfl, HK.out⟩
set_option maxHeartbeats 4000000 in
set_option maxRecDepth 100000 in
theorem nobody_walk (kind : Int) (n : Nat) (s : ByteArray) (w : World) (hn : n < 18446744073709551616) (hs : s.size ≤ 140737488355328) (hT : Tab w) :
    Calls Tryd.prog 8 #[.agg #[.int .i64 kind, .int .u64 n, .string s]] w fun e w' => e = .returned (.bool true) ∧ Same w w' := by
  have hk : Same w (w.alloc (.cells #[.int .i64 kind, .int .u64 n, .string s] 47)) := (Kept.refl _ _).alloc _
  have HK := hidden hk
  have HT := hidden hT
  clear hk hT
  go_enter Tryd.func8, Tryd.ntmps8
  go_wp2_with (first
    | (go_at_call 21; refine (write_nil kind n s _ hn hs).mono ?_; rintro e w1 ⟨rfl, k1⟩; have kc : w1.cell? ⟨w.heap.size, 1, none⟩ = some (.int .u64 n) := k1.cell (p := ⟨w.heap.size, 1, none⟩) (fun h => h) (blk_cell (blk_new w _)); have K1 : Hid (Same w w1) := hidden (HK.out.trans k1); clear k1)
    | (go_at_call 22; refine (done_nil _).mono ?_; rintro e w2 ⟨rfl, rfl⟩)
    | (go_at_call 11; refine (awake_any _ (HT.out.same K1.out)).mono ?_; rintro e w2 ⟨rfl, k2⟩; have kc2 : w2.cell? ⟨w.heap.size, 1, none⟩ = some (.int .u64 n) := k2.cell (p := ⟨w.heap.size, 1, none⟩) (fun h => h) kc; have K2 : Hid (Same w w2) := hidden (K1.out.trans k2); clear k2)
    | (go_at_call 23; refine (len_nil _).mono ?_; rintro e w3 ⟨rfl, rfl⟩)
    | (go_at_call 24; refine (rU8_nil _).mono ?_; rintro e w3 ⟨rfl, rfl⟩)
    | (go_at_call 25; refine (rU16_nil _).mono ?_; rintro e w3 ⟨rfl, rfl⟩)
    | (go_at_call 26; refine (rU32_nil _).mono ?_; rintro e w3 ⟨rfl, rfl⟩)
    | (go_at_call 27; refine (rU64_nil _).mono ?_; rintro e w3 ⟨rfl, rfl⟩)
    | (go_at_call 28; refine (rvar_nil _).mono ?_; rintro e w3 ⟨rfl, rfl⟩)
    | (go_at_call 29; refine (text_rnil _).mono ?_; rintro e w3 ⟨rfl, k3⟩; have kc3 : w3.cell? ⟨w.heap.size, 1, none⟩ = some (.int .u64 n) := k3.cell (p := ⟨w.heap.size, 1, none⟩) (fun h => h) kc2; have K3 : Hid (Same w w3) := hidden (K2.out.trans k3); clear k3)
    | (go_at_call 30; refine (rraw_nil _ _).mono ?_; rintro e w4 ⟨rfl, k4⟩; have K4 : Hid (Same w w4) := hidden (K3.out.trans k4); clear k4)
    | (go_at_call 31; refine (left_nil _).mono ?_; rintro e w5 ⟨rfl, rfl⟩)
    | (go_at_call 32; refine (err_nil _).mono ?_; rintro e w5 ⟨rfl, rfl⟩)
    | (go_at_call 33; refine (rdone_nil _).mono ?_; rintro e w5 ⟨rfl, rfl⟩))
  go_returns
  exact ⟨rfl, K4.out⟩
end Go.Proofs.YtneccmjilcjglacDoor
