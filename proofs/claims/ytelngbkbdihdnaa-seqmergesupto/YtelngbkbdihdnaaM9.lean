/- Of a nil Heap, a nil Map. -/
import Derived.Test.YtelngbkbdihdnaaM8
import Derived.RangeFuncBox
import Derived.RangeFuncLeaves
import Derived.RangeFuncBound
import Derived.RangeFuncWrites
import Derived.Shelf.Abstract
import Derived.Shelf.RegionOpen
import Derived.OwnWalkIn
import Derived.TacticsInMore
import Derived.LoopIn
namespace Go.Proofs.Ytelngbkbdihdnaa
open Go.RowKit Go.Shelf
set_option linter.unusedVariables false
attribute [local go_sem] Oper.semAt_some
set_option maxHeartbeats 1000000 in
set_option maxRecDepth 100000 in
theorem pushNil (x : Int) (w : World) : Calls Try.prog 16 #[.pointer none, .int .i64 x] w fun e w' => e = .returned (.tuple #[]) ∧ w = w' := by
  go_enter Try.func16, Try.ntmps16
  go_wp2
  go_returns
  exact ⟨rfl, rfl⟩
set_option maxHeartbeats 1000000 in
set_option maxRecDepth 100000 in
theorem lenNilI (w : World) : Calls Try.prog 15 #[.pointer none] w fun e w' => e = .returned (.int .i64 0) ∧ w = w' := by
  go_enter Try.func15, Try.ntmps15
  go_wp2
  go_returns
  exact ⟨rfl, rfl⟩
set_option maxHeartbeats 1000000 in
set_option maxRecDepth 100000 in
theorem leastNil (w : World) : Calls Try.prog 14 #[.pointer none] w fun e w' => e = .returned (.tuple #[.int .i64 0, .bool false]) ∧ w = w' := by
  go_enter Try.func14, Try.ntmps14
  go_wp2_with (go_at_call 15; go_must (refine (lenNilI _).mono ?_; rintro e w1 ⟨rfl, rfl⟩))
  go_returns
  exact ⟨rfl, rfl⟩
set_option maxHeartbeats 1000000 in
set_option maxRecDepth 100000 in
theorem popNil (w : World) : Calls Try.prog 13 #[.pointer none] w fun e w' => e = .returned (.tuple #[.int .i64 0, .bool false]) ∧ w = w' := by
  go_enter Try.func13, Try.ntmps13
  go_wp2_with (go_at_call 14; go_must (refine (leastNil _).mono ?_; rintro e w1 ⟨rfl, rfl⟩))
  go_returns
  exact ⟨rfl, rfl⟩
set_option maxHeartbeats 1000000 in
set_option maxRecDepth 100000 in
theorem rankB_nil (k : ByteArray) (w : World) : Calls Try.prog 61 #[.pointer none, .string k] w fun e w' => e = .returned (.int .i64 0) ∧ w = w' := by
  go_enter Try.func61, Try.ntmps61
  go_wp2
  go_loop [0, 5] (fun b n => b = .pointer none ∧ n = .int .i64 0) (fun b n => 0)
  case atStart => exact ⟨rfl, rfl⟩
  case round =>
    obtain ⟨rfl, rfl⟩ := hrel
    go_wp2
    go_returns
    exact ⟨rfl, rfl⟩
set_option maxHeartbeats 1000000 in
set_option maxRecDepth 100000 in
theorem rankNil (k : ByteArray) (w : World) : Calls Try.prog 31 #[.pointer none, .string k] w fun e w' => e = .returned (.int .i64 0) ∧ w = w' := by
  go_enter Try.func31, Try.ntmps31
  go_wp2_with (first
    | (go_at_call 55; go_must (refine (itemsNil _).mono ?_; rintro e w1 ⟨rfl, rfl⟩))
    | (go_at_call 61; go_must (refine (rankB_nil _ _).mono ?_; rintro e w1 ⟨rfl, rfl⟩)))
  go_returns
  exact ⟨rfl, rfl⟩
set_option maxHeartbeats 1000000 in
set_option maxRecDepth 100000 in
theorem forkNil (w : World) : Calls Try.prog 23 #[.pointer none] w fun e w' => e = .returned (.pointer none) ∧ w = w' := by
  go_enter Try.func23, Try.ntmps23
  go_wp2
  go_returns
  exact ⟨rfl, rfl⟩
set_option maxHeartbeats 1000000 in
set_option maxRecDepth 100000 in
theorem deleteNil (k : ByteArray) (w : World) : Calls Try.prog 25 #[.pointer none, .string k] w fun e w' => e = .returned (.tuple #[.int .i64 0, .bool false]) ∧ w = w' := by
  go_enter Try.func25, Try.ntmps25
  go_wp2_with (go_at_call 30; go_must (refine (getNil _ _).mono ?_; rintro e w1 ⟨rfl, rfl⟩))
  go_returns
  exact ⟨rfl, rfl⟩
set_option maxHeartbeats 1000000 in
set_option maxRecDepth 100000 in
theorem allB_nil (f : Value) (w : World) : Calls Try.prog 58 #[.pointer none, f] w fun e w' => e = .returned (.bool true) ∧ Same w w' := by
  go_enter Try.func58, Try.ntmps58
  go_wp2
  go_quiet (fail)
  go_wp2
  go_returns
  exact ⟨rfl, (Kept.refl _ _).drewN _⟩
set_option maxHeartbeats 1000000 in
set_option maxRecDepth 100000 in
theorem withinB_nil (a b : ByteArray) (f : Value) (w : World) : Calls Try.prog 74 #[.pointer none, .string a, .string b, f] w fun e w' => e = .returned (.bool true) ∧ w = w' := by
  go_enter Try.func74, Try.ntmps74
  go_wp2
  go_returns
  exact ⟨rfl, rfl⟩
abbrev encKV (x : Kv) : Array Value := #[.string x.1, .int .i64 x.2]
theorem grownBy_same {w w' : World} (k : Same w w') : w.grownBy w' none := ⟨k.os, k.tape, k.output, k.size, fun i hi _ => k.block i hi (fun h => h)⟩
set_option maxRecDepth 100000 in
set_option maxHeartbeats 2000000 in
/-- What All of a nil map hands back goes over nothing. -/
theorem allNil_stops (n b : Nat) (hn : 1 ≤ n) (S : Nat → Prop) (w : World) (h : w.cell? ⟨b, 0, none⟩ = some (.pointer none)) :
    SeqStopsK Fence.wide n Try.prog 57 #[.pointer (some ⟨b, 0, none⟩)] encKV (Kept S) (fun ys => ys = []) (fun pre => pre = []) 0 w := fun l J Jx W hW hJ _ hY h0 => by
  have hc : W.cell? ⟨b, 0, none⟩ = some (.pointer none) := (hW.cell (World.block_lt_of_cell? w _ h)).trans h
  have HJ := hidden hJ
  have H0 := hidden h0
  have HI := hidden (fun w => (callsIn_wide (n := n - 1)).2 (itemsNil w))
  have HA := hidden (fun f w => (callsIn_wide (n := n - 1)).2 (allB_nil f w))
  clear hJ h0 hY hW h
  refine callsIn_of_wp Try.func57 rfl trivial ?_ rfl
  simp only [Try.ntmps57, List.size_toArray, List.length_cons, List.length_nil, Nat.reduceAdd, Nat.reduceSub, Array.replicate_succ, Array.replicate_zero, List.push_toArray, List.append_toArray, List.nil_append, List.cons_append]
  gi_wp2_with (first
    | (refine ⟨trivial, ?_⟩; gi_at_call 55; refine (HI.out _).mono ?_; rintro e w1 ⟨rfl, rfl⟩)
    | (refine ⟨trivial, ?_⟩; gi_at_call 58; refine (HA.out _ _).mono ?_; rintro e w1 ⟨rfl, k1⟩))
  go_end0
  exact ⟨⟨_, rfl⟩, .inl ⟨[], rfl, HJ.out [] _ _ none H0.out (grownBy_same k1) (fun r e => by cases e)⟩⟩
set_option maxRecDepth 100000 in
set_option maxHeartbeats 2000000 in
/-- What Range of a nil map hands back goes over nothing. -/
theorem rangeNil_stops (n b c d : Nat) (x y : ByteArray) (hn : 1 ≤ n) (S : Nat → Prop) (w : World) (h : w.cell? ⟨b, 0, none⟩ = some (.pointer none)) (h2 : w.cell? ⟨c, 0, none⟩ = some (.string x)) (h3 : w.cell? ⟨d, 0, none⟩ = some (.string y)) :
    SeqStopsK Fence.wide n Try.prog 73 #[.pointer (some ⟨b, 0, none⟩), .pointer (some ⟨c, 0, none⟩), .pointer (some ⟨d, 0, none⟩)] encKV (Kept S) (fun ys => ys = []) (fun pre => pre = []) 0 w := fun l J Jx W hW hJ _ hY h0 => by
  have hc : W.cell? ⟨b, 0, none⟩ = some (.pointer none) := (hW.cell (World.block_lt_of_cell? w _ h)).trans h
  have hc2 : W.cell? ⟨c, 0, none⟩ = some (.string x) := (hW.cell (World.block_lt_of_cell? w _ h2)).trans h2
  have hc3 : W.cell? ⟨d, 0, none⟩ = some (.string y) := (hW.cell (World.block_lt_of_cell? w _ h3)).trans h3
  have HJ := hidden hJ
  have H0 := hidden h0
  have HI := hidden (fun w => (callsIn_wide (n := n - 1)).2 (itemsNil w))
  have HA := hidden (fun a b f w => (callsIn_wide (n := n - 1)).2 (withinB_nil a b f w))
  have hmx : Try.prog.follows .mixedOrders = true := by kernel_rfl
  clear hJ h0 hY hW h h2 h3
  refine callsIn_of_wp Try.func73 rfl trivial ?_ rfl
  simp only [Try.ntmps73, List.size_toArray, List.length_cons, List.length_nil, Nat.reduceAdd, Nat.reduceSub, Array.replicate_succ, Array.replicate_zero, List.push_toArray, List.append_toArray, List.nil_append, List.cons_append]
  gi_wp2
  gi_region_with_o (first
    | (refine ⟨trivial, ?_⟩; gi_at_call 55; refine (HI.out _).mono ?_; rintro e w1 ⟨rfl, rfl⟩)
    | (refine ⟨trivial, ?_⟩; gi_at_call 74; refine (HA.out _ _ _ _).mono ?_; rintro e w1 ⟨rfl, rfl⟩))
  all_goals
    gi_wp2
    go_end0
    exact ⟨⟨_, rfl⟩, .inl ⟨[], rfl, HJ.out [] _ _ none H0.out (grownBy_same (Kept.refl _ _).drew) (fun r e => by cases e)⟩⟩
end Go.Proofs.Ytelngbkbdihdnaa
