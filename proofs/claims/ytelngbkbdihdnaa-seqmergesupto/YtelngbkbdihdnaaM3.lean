/- seq's branches: balanced. (Made by mkm2.py.) -/
import Derived.Test.YtelngbkbdihdnaaM2
namespace Go.Proofs.Ytelngbkbdihdnaa
open Go.RowKit
set_option linter.unusedVariables false
set_option maxHeartbeats 4000000 in
set_option maxRecDepth 100000 in
theorem bal_any {w : World} {lo hi : Value} {l r : T} (k : ByteArray) (x : Int) (h1 : BT w lo l) (h2 : BT w hi r) (hs : l.size + 1 + r.size ≤ 1125899906842624) :
    Calls Try.prog 80 #[lo, It k x, hi] w fun e w' => ∃ v t, e = .returned v ∧ BT w' v t ∧ t.list = l.list ++ (k, x) :: r.list ∧ Same w w' := by
  obtain ⟨p1, rfl⟩ := h1.ptr
  obtain ⟨p2, rfl⟩ := h2.ptr
  have H1 : Hid (∀ W, Same w W → BT W (.pointer p1) l) := fun W k => h1.same k
  have H2 : Hid (∀ W, Same w W → BT W (.pointer p2) r) := fun W k => h2.same k
  have hwa : IntKind.i64.wrap ((l.size : Int) + (r.size : Int)) = (l.size : Int) + (r.size : Int) := by rw [IntKind.wrap_i64]; omega
  have hwb : IntKind.i64.wrap (3 * (l.size : Int)) = 3 * (l.size : Int) := by rw [IntKind.wrap_i64]; omega
  have hwc : IntKind.i64.wrap (3 * (r.size : Int)) = 3 * (r.size : Int) := by rw [IntKind.wrap_i64]; omega
  have b1 : Hid (∀ W, W = w.alloc (.cells #[.string k, .int .i64 x] 54) → Same w W) := fun W h => by rw [h]; exact same_alloc _ _
  have t1 : True := trivial
  have t2 : True := trivial
  have t3 : True := trivial
  have t4 : True := trivial
  have t5 : True := trivial
  clear h1 h2
  by_cases c1 : l.size + r.size ≤ 1
  · have q1 : (l.size : Int) + (r.size : Int) ≤ 1 := by omega
    go_enter Try.func80, Try.ntmps80
    go_wp2_with (first
      | (go_at_call 56; have _t := t1; refine (size_any (H1.out _ (same_alloc w _))).mono ?_; rintro e w1 ⟨rfl, rfl⟩; clear t1)
      | (go_at_call 56; have _t := t2; refine (size_any (H2.out _ (same_alloc w _))).mono ?_; rintro e w1 ⟨rfl, rfl⟩; clear t2)
      | (go_at_call 79; refine (newB_any k x (H1.out _ (same_alloc w _)) (H2.out _ (same_alloc w _)) (by omega)).mono ?_; rintro e w3 ⟨v3, rfl, hv3, k3⟩; obtain ⟨p3, rfl⟩ := hv3.ptr; have V := hidden hv3; have L : Hid ((T.node k x l r).list = l.list ++ (k, x) :: r.list) := rfl; have K := hidden (Kept.trans (same_alloc w _) k3); clear hv3 k3))
    go_returns
    exact ⟨_, _, rfl, V.out, L.out, K.out⟩
  have q1 : ¬ (l.size : Int) + (r.size : Int) ≤ 1 := by omega
  by_cases c2 : 3 * l.size < r.size
  · have q2 : 3 * (l.size : Int) < (r.size : Int) := by omega
    go_enter Try.func80, Try.ntmps80
    go_wp2_with (first
      | (go_at_call 56; have _t := t1; refine (size_any (H1.out _ (same_alloc w _))).mono ?_; rintro e w1 ⟨rfl, rfl⟩; clear t1)
      | (go_at_call 56; have _t := t2; refine (size_any (H2.out _ (same_alloc w _))).mono ?_; rintro e w1 ⟨rfl, rfl⟩; clear t2)
      | (go_at_call 56; have _t := t3; refine (size_any (H2.out _ (same_alloc w _))).mono ?_; rintro e w1 ⟨rfl, rfl⟩; clear t3)
      | (go_at_call 56; have _t := t4; refine (size_any (H1.out _ (same_alloc w _))).mono ?_; rintro e w1 ⟨rfl, rfl⟩; clear t4)
      | (go_at_call 87; refine (turnDown_any k x (H1.out _ (same_alloc w _)) (H2.out _ (same_alloc w _)) (by omega) c2 (by omega)).mono ?_; rintro e w3 ⟨v3, t, rfl, hv3, hl3, k3⟩; obtain ⟨p3, rfl⟩ := hv3.ptr; have V := hidden hv3; have L := hidden hl3; have K := hidden (Kept.trans (same_alloc w _) k3); clear hv3 k3 hl3))
    go_returns
    exact ⟨_, _, rfl, V.out, L.out, K.out⟩
  have q2 : ¬ 3 * (l.size : Int) < (r.size : Int) := by omega
  have t6 : True := trivial
  by_cases c3 : 3 * r.size < l.size
  · have q3 : 3 * (r.size : Int) < (l.size : Int) := by omega
    go_enter Try.func80, Try.ntmps80
    go_wp2_with (first
      | (go_at_call 56; have _t := t1; refine (size_any (H1.out _ (same_alloc w _))).mono ?_; rintro e w1 ⟨rfl, rfl⟩; clear t1)
      | (go_at_call 56; have _t := t2; refine (size_any (H2.out _ (same_alloc w _))).mono ?_; rintro e w1 ⟨rfl, rfl⟩; clear t2)
      | (go_at_call 56; have _t := t3; refine (size_any (H2.out _ (same_alloc w _))).mono ?_; rintro e w1 ⟨rfl, rfl⟩; clear t3)
      | (go_at_call 56; have _t := t4; refine (size_any (H1.out _ (same_alloc w _))).mono ?_; rintro e w1 ⟨rfl, rfl⟩; clear t4)
      | (go_at_call 56; have _t := t5; refine (size_any (H1.out _ (same_alloc w _))).mono ?_; rintro e w1 ⟨rfl, rfl⟩; clear t5)
      | (go_at_call 56; have _t := t6; refine (size_any (H2.out _ (same_alloc w _))).mono ?_; rintro e w1 ⟨rfl, rfl⟩; clear t6)
      | (go_at_call 88; refine (turnUp_any k x (H1.out _ (same_alloc w _)) (H2.out _ (same_alloc w _)) (by omega) c3 (by omega)).mono ?_; rintro e w3 ⟨v3, t, rfl, hv3, hl3, k3⟩; obtain ⟨p3, rfl⟩ := hv3.ptr; have V := hidden hv3; have L := hidden hl3; have K := hidden (Kept.trans (same_alloc w _) k3); clear hv3 k3 hl3))
    go_returns
    exact ⟨_, _, rfl, V.out, L.out, K.out⟩
  have q3 : ¬ 3 * (r.size : Int) < (l.size : Int) := by omega
  · skip
    go_enter Try.func80, Try.ntmps80
    go_wp2_with (first
      | (go_at_call 56; have _t := t1; refine (size_any (H1.out _ (same_alloc w _))).mono ?_; rintro e w1 ⟨rfl, rfl⟩; clear t1)
      | (go_at_call 56; have _t := t2; refine (size_any (H2.out _ (same_alloc w _))).mono ?_; rintro e w1 ⟨rfl, rfl⟩; clear t2)
      | (go_at_call 56; have _t := t3; refine (size_any (H2.out _ (same_alloc w _))).mono ?_; rintro e w1 ⟨rfl, rfl⟩; clear t3)
      | (go_at_call 56; have _t := t4; refine (size_any (H1.out _ (same_alloc w _))).mono ?_; rintro e w1 ⟨rfl, rfl⟩; clear t4)
      | (go_at_call 56; have _t := t5; refine (size_any (H1.out _ (same_alloc w _))).mono ?_; rintro e w1 ⟨rfl, rfl⟩; clear t5)
      | (go_at_call 56; have _t := t6; refine (size_any (H2.out _ (same_alloc w _))).mono ?_; rintro e w1 ⟨rfl, rfl⟩; clear t6)
      | (go_at_call 79; refine (newB_any k x (H1.out _ (same_alloc w _)) (H2.out _ (same_alloc w _)) (by omega)).mono ?_; rintro e w3 ⟨v3, rfl, hv3, k3⟩; obtain ⟨p3, rfl⟩ := hv3.ptr; have V := hidden hv3; have L : Hid ((T.node k x l r).list = l.list ++ (k, x) :: r.list) := rfl; have K := hidden (Kept.trans (same_alloc w _) k3); clear hv3 k3))
    go_returns
    exact ⟨_, _, rfl, V.out, L.out, K.out⟩

end Go.Proofs.Ytelngbkbdihdnaa
