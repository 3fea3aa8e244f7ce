/- sha's ror, firstState, walked. -/
import Derived.Test.YtbankcgkbiflhaaDoorRows
import Derived.Test.YtbankcgkbiflhaaDoorShP
import Derived.Deep.RegionWith
import Derived.BigQuiet
import Derived.Deep.QuietTactic
import Derived.StillTailTactics
import Derived.Handy
import Derived.Laws.BitsAllLaws
import Derived.Deep.MidRow
import Derived.Deep.WholeRow
namespace Go.Proofs.YtbankcgkbiflhaaDoor
open Go.RowKit
set_option linter.unusedVariables false

/-- Nothing that was there has turned. -/
abbrev Same (w w' : World) : Prop := Kept (fun _ => False) w w'
theorem same_alloc (w : World) (o : Obj) : Same w (w.alloc o) := (Kept.refl _ _).alloc _
/-- The program's table. -/
def Tab (w : World) : Prop := ∀ j, j < 64 → w.cell? ⟨0, j, none⟩ = some (.int .u32 (kw j : Nat))
theorem Tab.kept {S : Nat → Prop} {a w : World} (h : Tab a) (hk : Kept S a w) (hs : ¬ S 0) : Tab w := fun j hj => hk.cell (p := ⟨0, j, none⟩) hs (h j hj)
theorem Tab.lt {w : World} (h : Tab w) : 0 < w.heap.size := World.block_lt_of_cell? w _ (h 0 (by decide))
theorem Tab.same {w w' : World} (h : Tab w) (k : Same w w') : Tab w' := h.kept k (fun h => h)
theorem Tab.drew {w : World} (h : Tab w) : Tab w.drew := h

theorem u32or (a b : Nat) (ha : a < 4294967296) (hb : b < 4294967296) : bits .or .u32 (a : Int) (b : Int) = ((a ||| b : Nat) : Int) := u32_or_nat a b ha hb
theorem u32xor (a b : Nat) (ha : a < 4294967296) (hb : b < 4294967296) : bits .xor .u32 (a : Int) (b : Int) = ((a ^^^ b : Nat) : Int) := u32_xor_nat a b ha hb
theorem u32and (a b : Nat) (ha : a < 4294967296) (hb : b < 4294967296) : bits .and .u32 (a : Int) (b : Int) = ((a &&& b : Nat) : Int) := u32_and_nat a b ha hb
theorem rr_int (n x p q : Nat) (hp : p = 2 ^ (32 - n)) (hq : q = 2 ^ n) (hx : x < 4294967296) : bits .or .u32 ((x : Int) * (p : Int) % 4294967296) ((x : Int) / (q : Int)) = ((rr n x : Nat) : Int) := by
  rw [show (x : Int) * (p : Int) % 4294967296 = ((x * p % 4294967296 : Nat) : Int) by simp, show (x : Int) / (q : Int) = ((x / q : Nat) : Int) by simp, u32or _ _ (Nat.mod_lt _ (by decide)) (div_lt32 hx), Nat.or_comm, rr, hp, hq]
theorem rr_int' (n x p q : Nat) (hp : p = 2 ^ (32 - n)) (hq : q = 2 ^ n) (hx : x < 4294967296) : bits .or .u32 ((x : Int) / (q : Int)) ((x : Int) * (p : Int) % 4294967296) = ((rr n x : Nat) : Int) := by
  rw [show (x : Int) * (p : Int) % 4294967296 = ((x * p % 4294967296 : Nat) : Int) by simp, show (x : Int) / (q : Int) = ((x / q : Nat) : Int) by simp, u32or _ _ (div_lt32 hx) (Nat.mod_lt _ (by decide)), rr, hp, hq]
def rorN (n : Nat) : Prop := n = 2 ∨ n = 3 ∨ n = 6 ∨ n = 7 ∨ n = 11 ∨ n = 13 ∨ n = 17 ∨ n = 18 ∨ n = 19 ∨ n = 22 ∨ n = 25
set_option maxHeartbeats 400000 in
set_option maxRecDepth 100000 in
theorem rotl_any (n x : Nat) (hn : rorN n) (hx : x < 4294967296) (w : World) : Calls Tryd.prog 63 #[.int .u32 x, .int .i64 (-(n : Int))] w fun e w' => e = .returned (.int .u32 (rr n x : Nat)) ∧ w = w' := by
  have k2 : bits .and .u64 (IntKind.u64.wrap (-2)) 31 = 30 := by decide +kernel
  have k3 : bits .and .u64 (IntKind.u64.wrap (-3)) 31 = 29 := by decide +kernel
  have k6 : bits .and .u64 (IntKind.u64.wrap (-6)) 31 = 26 := by decide +kernel
  have k7 : bits .and .u64 (IntKind.u64.wrap (-7)) 31 = 25 := by decide +kernel
  have k11 : bits .and .u64 (IntKind.u64.wrap (-11)) 31 = 21 := by decide +kernel
  have k13 : bits .and .u64 (IntKind.u64.wrap (-13)) 31 = 19 := by decide +kernel
  have k17 : bits .and .u64 (IntKind.u64.wrap (-17)) 31 = 15 := by decide +kernel
  have k18 : bits .and .u64 (IntKind.u64.wrap (-18)) 31 = 14 := by decide +kernel
  have k19 : bits .and .u64 (IntKind.u64.wrap (-19)) 31 = 13 := by decide +kernel
  have k22 : bits .and .u64 (IntKind.u64.wrap (-22)) 31 = 10 := by decide +kernel
  have k25 : bits .and .u64 (IntKind.u64.wrap (-25)) 31 = 7 := by decide +kernel
  rcases hn with rfl | rfl | rfl | rfl | rfl | rfl | rfl | rfl | rfl | rfl | rfl
  · go_enter Tryd.func63, Tryd.ntmps63
    go_wp2
    go_returns
    exact ⟨congrArg (fun n => Ending.returned (.int .u32 n)) (rr_int 2 x 1073741824 4 rfl rfl hx), rfl⟩
  · go_enter Tryd.func63, Tryd.ntmps63
    go_wp2
    go_returns
    exact ⟨congrArg (fun n => Ending.returned (.int .u32 n)) (rr_int 3 x 536870912 8 rfl rfl hx), rfl⟩
  · go_enter Tryd.func63, Tryd.ntmps63
    go_wp2
    go_returns
    exact ⟨congrArg (fun n => Ending.returned (.int .u32 n)) (rr_int 6 x 67108864 64 rfl rfl hx), rfl⟩
  · go_enter Tryd.func63, Tryd.ntmps63
    go_wp2
    go_returns
    exact ⟨congrArg (fun n => Ending.returned (.int .u32 n)) (rr_int 7 x 33554432 128 rfl rfl hx), rfl⟩
  · go_enter Tryd.func63, Tryd.ntmps63
    go_wp2
    go_returns
    exact ⟨congrArg (fun n => Ending.returned (.int .u32 n)) (rr_int 11 x 2097152 2048 rfl rfl hx), rfl⟩
  · go_enter Tryd.func63, Tryd.ntmps63
    go_wp2
    go_returns
    exact ⟨congrArg (fun n => Ending.returned (.int .u32 n)) (rr_int 13 x 524288 8192 rfl rfl hx), rfl⟩
  · go_enter Tryd.func63, Tryd.ntmps63
    go_wp2
    go_returns
    exact ⟨congrArg (fun n => Ending.returned (.int .u32 n)) (rr_int 17 x 32768 131072 rfl rfl hx), rfl⟩
  · go_enter Tryd.func63, Tryd.ntmps63
    go_wp2
    go_returns
    exact ⟨congrArg (fun n => Ending.returned (.int .u32 n)) (rr_int 18 x 16384 262144 rfl rfl hx), rfl⟩
  · go_enter Tryd.func63, Tryd.ntmps63
    go_wp2
    go_returns
    exact ⟨congrArg (fun n => Ending.returned (.int .u32 n)) (rr_int 19 x 8192 524288 rfl rfl hx), rfl⟩
  · go_enter Tryd.func63, Tryd.ntmps63
    go_wp2
    go_returns
    exact ⟨congrArg (fun n => Ending.returned (.int .u32 n)) (rr_int 22 x 1024 4194304 rfl rfl hx), rfl⟩
  · go_enter Tryd.func63, Tryd.ntmps63
    go_wp2
    go_returns
    exact ⟨congrArg (fun n => Ending.returned (.int .u32 n)) (rr_int 25 x 128 33554432 rfl rfl hx), rfl⟩
theorem rorN_le {n : Nat} (h : rorN n) : 2 ≤ n ∧ n ≤ 25 := by rcases h with h | h | h | h | h | h | h | h | h | h | h <;> omega
set_option maxHeartbeats 400000 in
set_option maxRecDepth 100000 in
theorem ror_any (n x : Nat) (hn : rorN n) (hx : x < 4294967296) (w : World) : Calls Tryd.prog 57 #[.int .u32 x, .int .i64 (n : Int)] w fun e w' => e = .returned (.int .u32 (rr n x : Nat)) ∧ w = w' := by
  have h := hidden (rotl_any n x hn hx)
  obtain ⟨h1, h2⟩ := rorN_le hn
  have HN := hidden hn
  clear hn
  go_enter Tryd.func57, Tryd.ntmps57
  go_wp2_with (go_at_call 63; refine (h.out _).mono ?_; rintro e w1 ⟨rfl, rfl⟩)
  go_returns
  exact ⟨rfl, rfl⟩
set_option maxHeartbeats 400000 in
set_option maxRecDepth 100000 in
theorem rorD_any (n x : Nat) (hn : rorN n) (hx : x < 4294967296) (w : World) : Calls Tryd.prog 35 #[.int .u32 x, .int .i64 (n : Int)] w fun e w' => e = .returned (.int .u32 (rr n x : Nat)) ∧ ∃ n, w' = w.drewN n := by
  rcases hn with rfl | rfl | rfl | rfl | rfl | rfl | rfl | rfl | rfl | rfl | rfl
  · go_enter Tryd.func35, Tryd.ntmps35
    go_wp2
    go_quiet (fail)
    go_wp2
    go_returns
    exact ⟨congrArg (fun n => Ending.returned (.int .u32 n)) (rr_int' 2 x 1073741824 4 rfl rfl hx), _, rfl⟩
  · go_enter Tryd.func35, Tryd.ntmps35
    go_wp2
    go_quiet (fail)
    go_wp2
    go_returns
    exact ⟨congrArg (fun n => Ending.returned (.int .u32 n)) (rr_int' 3 x 536870912 8 rfl rfl hx), _, rfl⟩
  · go_enter Tryd.func35, Tryd.ntmps35
    go_wp2
    go_quiet (fail)
    go_wp2
    go_returns
    exact ⟨congrArg (fun n => Ending.returned (.int .u32 n)) (rr_int' 6 x 67108864 64 rfl rfl hx), _, rfl⟩
  · go_enter Tryd.func35, Tryd.ntmps35
    go_wp2
    go_quiet (fail)
    go_wp2
    go_returns
    exact ⟨congrArg (fun n => Ending.returned (.int .u32 n)) (rr_int' 7 x 33554432 128 rfl rfl hx), _, rfl⟩
  · go_enter Tryd.func35, Tryd.ntmps35
    go_wp2
    go_quiet (fail)
    go_wp2
    go_returns
    exact ⟨congrArg (fun n => Ending.returned (.int .u32 n)) (rr_int' 11 x 2097152 2048 rfl rfl hx), _, rfl⟩
  · go_enter Tryd.func35, Tryd.ntmps35
    go_wp2
    go_quiet (fail)
    go_wp2
    go_returns
    exact ⟨congrArg (fun n => Ending.returned (.int .u32 n)) (rr_int' 13 x 524288 8192 rfl rfl hx), _, rfl⟩
  · go_enter Tryd.func35, Tryd.ntmps35
    go_wp2
    go_quiet (fail)
    go_wp2
    go_returns
    exact ⟨congrArg (fun n => Ending.returned (.int .u32 n)) (rr_int' 17 x 32768 131072 rfl rfl hx), _, rfl⟩
  · go_enter Tryd.func35, Tryd.ntmps35
    go_wp2
    go_quiet (fail)
    go_wp2
    go_returns
    exact ⟨congrArg (fun n => Ending.returned (.int .u32 n)) (rr_int' 18 x 16384 262144 rfl rfl hx), _, rfl⟩
  · go_enter Tryd.func35, Tryd.ntmps35
    go_wp2
    go_quiet (fail)
    go_wp2
    go_returns
    exact ⟨congrArg (fun n => Ending.returned (.int .u32 n)) (rr_int' 19 x 8192 524288 rfl rfl hx), _, rfl⟩
  · go_enter Tryd.func35, Tryd.ntmps35
    go_wp2
    go_quiet (fail)
    go_wp2
    go_returns
    exact ⟨congrArg (fun n => Ending.returned (.int .u32 n)) (rr_int' 22 x 1024 4194304 rfl rfl hx), _, rfl⟩
  · go_enter Tryd.func35, Tryd.ntmps35
    go_wp2
    go_quiet (fail)
    go_wp2
    go_returns
    exact ⟨congrArg (fun n => Ending.returned (.int .u32 n)) (rr_int' 25 x 128 33554432 rfl rfl hx), _, rfl⟩
set_option maxHeartbeats 400000 in
set_option maxRecDepth 100000 in
theorem first_any (w : World) : Calls Tryd.prog 32 #[] w fun e w' => e = .returned (.agg #[.int .u32 1779033703, .int .u32 3144134277, .int .u32 1013904242, .int .u32 2773480762, .int .u32 1359893119, .int .u32 2600822924, .int .u32 528734635, .int .u32 1541459225]) ∧ Same w w' := by
  go_enter Tryd.func32, Tryd.ntmps32
  go_wp2
  exact bodyPost_ret (v := .agg #[.int .u32 1779033703, .int .u32 3144134277, .int .u32 1013904242, .int .u32 2773480762, .int .u32 1359893119, .int .u32 2600822924, .int .u32 528734635, .int .u32 1541459225]) (by simp [results, Tryd.results32, go_sem]) rfl ⟨rfl, same_alloc _ _⟩
theorem ror_z (z : Int) (x : Nat) (hn : rorN z.toNat) (h0 : 0 ≤ z) (hx : x < 4294967296) (w : World) : Calls Tryd.prog 57 #[.int .u32 x, .int .i64 z] w fun e w' => e = .returned (.int .u32 (rr z.toNat x : Nat)) ∧ w = w' := by
  obtain ⟨n, rfl⟩ := Int.eq_ofNat_of_zero_le h0
  exact ror_any n x hn hx w
theorem rorD_z (z : Int) (x : Nat) (hn : rorN z.toNat) (h0 : 0 ≤ z) (hx : x < 4294967296) (w : World) : Calls Tryd.prog 35 #[.int .u32 x, .int .i64 z] w fun e w' => e = .returned (.int .u32 (rr z.toNat x : Nat)) ∧ ∃ n, w' = w.drewN n := by
  obtain ⟨n, rfl⟩ := Int.eq_ofNat_of_zero_le h0
  exact rorD_any n x hn hx w
theorem blk_oth {w : World} {g k j : Nat} {o : Obj} (h : w.heap[g]? = some o) (hne : g ≠ k) (v : Value) : (w.setCell ⟨k, j, none⟩ v).heap[g]? = some o := (Below.heap_setCell _ _ _ _ (fun e => hne e)).trans h
theorem sg0_int (x : Nat) (h : x < 4294967296) : bits .xor .u32 (bits .xor .u32 ((rr 7 x : Nat) : Int) ((rr 18 x : Nat) : Int)) ((x : Int) / 8) = ((sg0 x : Nat) : Int) := by
  rw [show (x : Int) / 8 = ((x / 8 : Nat) : Int) by omega, u32xor _ _ (rr_lt h) (rr_lt h), u32xor _ _ (xor_lt32 (rr_lt h) (rr_lt h)) (div_lt32 h)]; rfl
theorem sg1_int (x : Nat) (h : x < 4294967296) : bits .xor .u32 (bits .xor .u32 ((rr 17 x : Nat) : Int) ((rr 19 x : Nat) : Int)) ((x : Int) / 1024) = ((sg1 x : Nat) : Int) := by
  rw [show (x : Int) / 1024 = ((x / 1024 : Nat) : Int) by omega, u32xor _ _ (rr_lt h) (rr_lt h), u32xor _ _ (xor_lt32 (rr_lt h) (rr_lt h)) (div_lt32 h)]; rfl
theorem bg0_int (x : Nat) (h : x < 4294967296) : bits .xor .u32 (bits .xor .u32 ((rr 2 x : Nat) : Int) ((rr 13 x : Nat) : Int)) ((rr 22 x : Nat) : Int) = ((bg0 x : Nat) : Int) := by
  rw [u32xor _ _ (rr_lt h) (rr_lt h), u32xor _ _ (xor_lt32 (rr_lt h) (rr_lt h)) (rr_lt h)]; rfl
theorem bg1_int (x : Nat) (h : x < 4294967296) : bits .xor .u32 (bits .xor .u32 ((rr 6 x : Nat) : Int) ((rr 11 x : Nat) : Int)) ((rr 25 x : Nat) : Int) = ((bg1 x : Nat) : Int) := by
  rw [u32xor _ _ (rr_lt h) (rr_lt h), u32xor _ _ (xor_lt32 (rr_lt h) (rr_lt h)) (rr_lt h)]; rfl
theorem maj_int (a b c : Nat) (ha : a < 4294967296) (hb : b < 4294967296) (hc : c < 4294967296) : bits .xor .u32 (bits .xor .u32 (bits .and .u32 (a : Int) (b : Int)) (bits .and .u32 (a : Int) (c : Int))) (bits .and .u32 (b : Int) (c : Int)) = ((maj a b c : Nat) : Int) := by
  rw [u32and _ _ ha hb, u32and _ _ ha hc, u32and _ _ hb hc, u32xor _ _ (and_lt32 ha) (and_lt32 ha), u32xor _ _ (xor_lt32 (and_lt32 ha) (and_lt32 ha)) (and_lt32 hb)]; rfl
end Go.Proofs.YtbankcgkbiflhaaDoor
