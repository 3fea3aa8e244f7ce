/- cmp's Less and Compare at int and string; the orders. -/
import Derived.Test.YtelngbkbdihdnaaRows
import Derived.Test.YtelngbkbdihdnaaBase
import Derived.Test.YtelngbkbdihdnaaHpP
import Derived.BigQuiet
import Derived.Deep.QuietTactic
import Derived.Deep.RegionHeld3
import Derived.Deep.RegionLaw
import Derived.Sort.Defs
import Derived.Lib.SmallJoins
import Derived.Handy
import Derived.Laws.OwnMore
import Derived.Sort.Walk0
namespace Go.Proofs.Ytelngbkbdihdnaa
open Go.RowKit
set_option linter.unusedVariables false
abbrev Same (w w' : World) : Prop := Kept (fun _ => False) w w'
theorem same_alloc (w : World) (o : Obj) : Same w (w.alloc o) := (Kept.refl _ _).alloc o
theorem add_none (g i j : Nat) : (⟨g, i, none⟩ : Addr).add j = ⟨g, i + j, none⟩ := by unfold Addr.add; split <;> simp_all
theorem own_base {w : World} {B n s : Nat} {e : TypeId} {v : Value} {xs : List Value} (h : w.ownsRow B e s v n xs) : w.ownsRow 0 e s v n xs :=
  ⟨h.1, h.2.imp id fun ⟨g, cap, cur, a, _, b⟩ => ⟨g, cap, cur, a, Nat.zero_le _, b⟩⟩
/-- One element of a row of one's own is set. -/
theorem own_set {w : World} {B g n cap i : Nat} {e : TypeId} {xs : List Value} (h : w.ownsRow B e 1 (.slice (some ⟨g, 0, none⟩) n cap) n xs) (hi : i < n) (u : Value) :
    (w.setCell ⟨g, i, none⟩ u).ownsRow B e 1 (.slice (some ⟨g, 0, none⟩) n cap) n (xs.set i u) := by
  obtain ⟨h1, h2⟩ := h
  refine ⟨by simpa using h1, ?_⟩
  rcases h2 with ⟨h2, _⟩ | ⟨g', cap', cur, hv, hb, hg, hn, hc, hs, ht⟩
  · cases h2
  · obtain ⟨rfl, rfl⟩ : g = g' ∧ cap = cap' := by simpa using hv
    refine Or.inr ⟨g, cap, cur.setIfInBounds i u, rfl, hb, blk_set hg u, hn, hc, by simpa using hs, ?_⟩
    rw [Array.toList_setIfInBounds, List.take_set, ht]
theorem own_cell {w : World} {B g n cap i : Nat} {e : TypeId} {xs : List Value} (h : w.ownsRow B e 1 (.slice (some ⟨g, 0, none⟩) n cap) n xs) (u : Value) (hu : xs[i]? = some u) :
    w.cell? ⟨g, i, none⟩ = some u ∧ w.frozen? ⟨g, i, none⟩ = false := by
  have h1 := h.cells (g := g) rfl i u hu
  rw [add_none, Nat.zero_add] at h1
  refine ⟨h1, ?_⟩
  rcases h.2 with ⟨h2, _⟩ | ⟨g', cap', cur, hv, hb, hg, _⟩
  · cases h2
  · obtain ⟨rfl, rfl⟩ : g = g' ∧ cap = cap' := by simpa using hv
    exact blk_free hg
theorem own_free {w : World} {B g n m cap i s : Nat} {e : TypeId} {xs : List Value} (h : w.ownsRow B e s (.slice (some ⟨g, 0, none⟩) n cap) m xs) : w.frozen? ⟨g, i, none⟩ = false := by
  rcases h.2 with ⟨h2, _⟩ | ⟨g', cap', cur, hv, hb, hg, _⟩
  · cases h2
  · obtain ⟨rfl, _⟩ : g = g' ∧ _ := by simpa using hv
    exact blk_free hg
def ltI (a b : Int) : Bool := decide (a < b)
theorem ordI : Ord ltI := ⟨fun a b h => by simp [ltI] at *; omega, fun a b c h1 h2 => by simp [ltI] at *; omega⟩
def ltS (a b : ByteArray) : Bool := decide (a.toList < b.toList)
theorem ordS : Ord ltS := by
  refine ⟨fun a b h => ?_, fun a b c h1 h2 => ?_⟩
  · simp only [ltS, decide_eq_true_eq, decide_eq_false_iff_not] at *
    exact List.lt_asymm h
  · simp only [ltS, decide_eq_false_iff_not, List.not_lt] at *
    exact List.le_trans h1 h2
theorem ltS_eq {a b : ByteArray} (h1 : ltS a b = false) (h2 : ltS b a = false) : a.toList = b.toList := by
  simp only [ltS, decide_eq_false_iff_not, List.not_lt] at *
  exact List.le_antisymm h2 h1
set_option maxHeartbeats 1000000 in
set_option maxRecDepth 100000 in
theorem nan_int (a : Int) (w : World) : Calls Try.prog 76 #[.int .i64 a] w fun e w' => e = .returned (.bool false) ∧ w = w' := by
  go_enter Try.func76, Try.ntmps76
  go_wp2
  go_returns
  exact ⟨by simp, rfl⟩
set_option maxHeartbeats 1000000 in
set_option maxRecDepth 100000 in
theorem less_int (a b : Int) (w : World) : Calls Try.prog 43 #[.int .i64 a, .int .i64 b] w fun e w' => e = .returned (.bool (ltI a b)) ∧ w = w' := by
  go_enter Try.func43, Try.ntmps43
  go_wp2_with (go_at_call 76; refine (nan_int _ _).mono ?_; rintro e w1 ⟨rfl, rfl⟩)
  go_returns
  exact ⟨by first | rfl | simp [ltI], rfl⟩
set_option maxHeartbeats 1000000 in
set_option maxRecDepth 100000 in
theorem nan_str (a : ByteArray) (w : World) : Calls Try.prog 77 #[.string a] w fun e w' => e = .returned (.bool false) ∧ w = w' := by
  go_enter Try.func77, Try.ntmps77
  go_wp2
  go_returns
  exact ⟨by simp, rfl⟩
set_option maxHeartbeats 1000000 in
set_option maxRecDepth 100000 in
theorem less_str (a b : ByteArray) (w : World) : Calls Try.prog 46 #[.string a, .string b] w fun e w' => e = .returned (.bool (ltS a b)) ∧ w = w' := by
  go_enter Try.func46, Try.ntmps46
  go_wp2_with (go_at_call 77; refine (nan_str _ _).mono ?_; rintro e w1 ⟨rfl, rfl⟩)
  go_returns
  refine ⟨?_, rfl⟩
  rw [bytesLess_eq]
  rfl
set_option maxHeartbeats 1000000 in
set_option maxRecDepth 100000 in
theorem cmp_str (a b : ByteArray) (w : World) : Calls Try.prog 72 #[.string a, .string b] w fun e w' => e = .returned (.int .i64 (if ltS a b then -1 else if ltS b a then 1 else 0)) ∧ w = w' := by
  cases h1 : ltS a b
  · cases h2 : ltS b a
    · have e1 : Op.bytesLess a.toList b.toList = false := by rw [bytesLess_eq]; exact h1
      have e2 : (a.toList == b.toList) = true := by rw [ltS_eq h1 h2]; simp
      go_enter Try.func72, Try.ntmps72
      go_wp2_with (go_at_call 77; refine (nan_str _ _).mono ?_; rintro e w1 ⟨rfl, rfl⟩)
      go_returns
      exact ⟨by first | rfl | simp, rfl⟩
    · have e1 : Op.bytesLess a.toList b.toList = false := by rw [bytesLess_eq]; exact h1
      have e2 : (a.toList == b.toList) = false := by
        simp only [ltS, decide_eq_true_eq] at h2
        simp only [beq_eq_false_iff_ne, ne_eq]
        intro e
        rw [e] at h2
        exact List.lt_irrefl _ h2
      go_enter Try.func72, Try.ntmps72
      go_wp2_with (go_at_call 77; refine (nan_str _ _).mono ?_; rintro e w1 ⟨rfl, rfl⟩)
      go_returns
      exact ⟨by first | rfl | simp, rfl⟩
  · have e1 : Op.bytesLess a.toList b.toList = true := by rw [bytesLess_eq]; exact h1
    go_enter Try.func72, Try.ntmps72
    go_wp2_with (go_at_call 77; refine (nan_str _ _).mono ?_; rintro e w1 ⟨rfl, rfl⟩)
    go_returns
    exact ⟨by first | rfl | simp, rfl⟩
end Go.Proofs.Ytelngbkbdihdnaa
