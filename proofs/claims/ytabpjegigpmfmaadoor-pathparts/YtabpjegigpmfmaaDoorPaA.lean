/- path: Parts; the law's awake. -/
import Derived.Test.YtabpjegigpmfmaaDoorPaC
namespace Go.Proofs.YtabpjegigpmfmaaDoor
open Go.RowKit
set_option linter.unusedVariables false
set_option linter.unusedSimpArgs false
set_option maxHeartbeats 1000000 in
set_option maxRecDepth 100000 in
theorem all_fn (a : Option Addr) (n c : Nat) (w : World) : Calls Tryd.prog 33 #[.slice a n c] w fun e w' => e = .returned (.func (.func 45) #[] #[.pointer (some ⟨w.heap.size, 0, none⟩)]) ∧ w' = w.alloc (.cells #[.slice a n c] 22) := by
  go_enter Tryd.func33, Tryd.ntmps33
  go_wp2
  go_returns
  exact ⟨rfl, rfl⟩
/-- What Parts tells: a function over a box with the parts. -/
structure PtR (w : World) (u : Value) (P : List UInt8) : Prop where
  ex : ∃ g a n c, u = .func (.func 45) #[] #[.pointer (some ⟨g, 0, none⟩)] ∧ w.heap[g]? = some (.cells #[.slice a n c] 22 (0, 0)) ∧ Row w (.slice a n c) (TS ((splL P).map BA))
set_option maxHeartbeats 1000000 in
set_option maxRecDepth 100000 in
theorem parts_any (p : ByteArray) (hp : p.size ≤ 140737488355328) (w : World) : Calls Tryd.prog 20 #[.string p] w fun e w' => ∃ u, e = .returned u ∧ PtR w' u p.data.toList ∧ Same w w' := by
  have HSp := hidden (split_any p hp)
  obtain ⟨P, hP⟩ : ∃ P, P = p.data.toList := ⟨_, rfl⟩
  rw [← hP] at HSp ⊢
  clear hP
  have HSp2 : Hid (∀ W, Calls Tryd.prog 10 #[.string p] W fun e w' => ∃ v, e = .returned (.tuple #[v, .int .i64 (splE P)]) ∧ OwnT W.heap.size w' v ((splL P).map BA) ∧ Same W w') := hidden (fun W => (HSp.out W).mono fun e w' ⟨u, he, ⟨v, hu, ho⟩, k⟩ => ⟨v, by rw [he, hu], ho, k⟩)
  clear HSp
  go_enter Tryd.func20, Tryd.ntmps20
  go_wp2_with (first
    | (go_at_call 10; refine (HSp2.out _).mono ?_; rintro e w1 ⟨v, rfl, ho, k1⟩; have HK := hidden k1; have HO := hidden ho.row; obtain ⟨va, vc, rfl⟩ := ho.form; rw [List.length_map] at HO ⊢; clear k1 ho)
    | (go_at_call 33; refine (all_fn _ _ _ _).mono ?_; rintro e w2 ⟨rfl, rfl⟩))
  go_returns
  exact ⟨_, rfl, ⟨w1.heap.size, va, _, vc, rfl, blk_new _ _, HO.out.same (same_alloc _ _)⟩, HK.out.alloc _⟩
theorem func_nil : ∀ (W : World) (n : FuncId) (b : Array Value), (binOp .eql 33 (.func (.func n) #[] b) Value.nilFunc).run Tryd.prog W = .ok (.bool false) W := fun W n b => by
  first | rfl | simp [binOp, Op.equal, Op.maxDepth, go_sem]
theorem lit_size {p : ByteArray} (h : p.size ≤ 100) : p.size ≤ 140737488355328 := by omega
set_option maxHeartbeats 2000000 in
set_option maxRecDepth 100000 in
theorem awake_any (w : World) : Calls Tryd.prog 14 #[] w fun e w' => e = .returned (.bool true) ∧ Same w w' := by
  have HP : Hid (∀ (p : ByteArray) (hp : p.size ≤ 100) W, Calls Tryd.prog 20 #[.string p] W fun e w' => ∃ g, e = .returned (.func (.func 45) #[] #[.pointer (some ⟨g, 0, none⟩)]) ∧ Same W w') := hidden (fun p hp W => (parts_any p (lit_size hp) W).mono fun e w' ⟨u, he, ⟨g, a, n, c, hu, _⟩, k⟩ => ⟨g, by rw [he, hu], k⟩)
  have H3 : Hid (∀ W, Calls Tryd.prog 10 #[.string ⟨#[47, 97, 47, 47, 98, 47]⟩] W fun e w' => ∃ a c, e = .returned (.tuple #[.slice a 2 c, .int .i64 0]) ∧ Row w' (.slice a 2 c) (TS [⟨#[97]⟩, ⟨#[98]⟩]) ∧ Same W w') := hidden (fun W => (split_any ⟨#[47, 97, 47, 47, 98, 47]⟩ (by decide) W).mono fun e w' ⟨u, he, ⟨v, hu, ho⟩, k⟩ => by
    have h1 : splE [47, 97, 47, 47, 98, 47] = 0 := by decide
    have h2 : splL [47, 97, 47, 47, 98, 47] = [[97], [98]] := by decide
    change u = .tuple #[v, .int .i64 (splE [47, 97, 47, 47, 98, 47])] at hu
    change OwnT W.heap.size w' v ((splL [47, 97, 47, 47, 98, 47]).map BA) at ho
    rw [h1] at hu
    rw [h2] at ho
    obtain ⟨a, c, rfl⟩ := ho.form
    exact ⟨a, c, by rw [he, hu]; rfl, ho.row, k⟩)
  have H4 : Hid (∀ W, Calls Tryd.prog 10 #[.string ⟨#[97]⟩] W fun e w' => ∃ a n c, e = .returned (.tuple #[.slice a n c, .int .i64 236]) ∧ Same W w') := hidden (fun W => (split_any ⟨#[97]⟩ (by decide) W).mono fun e w' ⟨u, he, ⟨v, hu, ho⟩, k⟩ => by
    have h1 : splE [97] = 236 := by decide
    change u = .tuple #[v, .int .i64 (splE [97])] at hu
    rw [h1] at hu
    obtain ⟨a, c, rfl⟩ := ho.form
    exact ⟨a, _, c, by rw [he, hu], k⟩)
  have H5 : Hid (∀ W, Calls Tryd.prog 23 #[.string ⟨#[47, 97, 47, 46, 47, 98, 47, 46, 46, 47, 46, 46, 47, 46, 46, 47, 47, 99]⟩] W fun e w' => e = .returned (.tuple #[.string ⟨#[47, 99]⟩, .int .i64 0]) ∧ Same W w') := hidden (fun W => (clean_any ⟨#[47, 97, 47, 46, 47, 98, 47, 46, 46, 47, 46, 46, 47, 46, 46, 47, 47, 99]⟩ (by decide) W).mono fun e w' ⟨he, k⟩ => by
    have h1 : splE [47, 97, 47, 46, 47, 98, 47, 46, 46, 47, 46, 46, 47, 46, 46, 47, 47, 99] = 0 := by decide
    have h2 : clnS [47, 97, 47, 46, 47, 98, 47, 46, 46, 47, 46, 46, 47, 46, 46, 47, 47, 99] = [47, 99] := by decide
    change e = .returned (.tuple #[.string (BA (clnS [47, 97, 47, 46, 47, 98, 47, 46, 46, 47, 46, 46, 47, 46, 46, 47, 47, 99])), .int .i64 (splE [47, 97, 47, 46, 47, 98, 47, 46, 46, 47, 46, 46, 47, 46, 46, 47, 47, 99])]) at he
    rw [h1, h2] at he
    exact ⟨he, k⟩)
  have H7 : Hid (∀ W, Calls Tryd.prog 16 #[.string ⟨#[47, 97, 47]⟩] W fun e w' => e = .returned (.bool true) ∧ Same W w') := hidden (fun W => (slash_any ⟨#[47, 97, 47]⟩ (by decide) W).mono fun e w' ⟨he, k⟩ => ⟨he, k⟩)
  have H8 : Hid (∀ W, Calls Tryd.prog 16 #[.string ⟨#[47]⟩] W fun e w' => e = .returned (.bool false) ∧ Same W w') := hidden (fun W => (slash_any ⟨#[47]⟩ (by decide) W).mono fun e w' ⟨he, k⟩ => ⟨he, k⟩)
  have HF := func_nil
  have t1 : True := trivial
  have t2 : True := trivial
  have t3 : True := trivial
  go_enter Tryd.func14, Tryd.ntmps14
  go_wp2_with (first
    | (go_at_call 20; have _t := t1; refine (HP.out ⟨#[47]⟩ (by decide) _).mono ?_; rintro e w1 ⟨g1, rfl, k1⟩; have K1 := hidden k1; clear k1 t1 _t)
    | (go_at_call 20; refine (HP.out ⟨#[]⟩ (by decide) _).mono ?_; rintro e w2 ⟨g2, rfl, k2⟩; have K2 := hidden k2; clear k2)
    | (go_at_call 10; have _t := t2; refine (H3.out _).mono ?_; rintro e w3 ⟨a3, c3, rfl, r3, k3⟩; have K3 := hidden k3; have R3 := hidden r3; clear k3 r3 t2 _t)
    | (go_at_call 10; refine (H4.out _).mono ?_; rintro e w4 ⟨a4, n4, c4, rfl, k4⟩; have K4 := hidden k4; clear k4)
    | (go_at_call 23; refine (H5.out _).mono ?_; rintro e w5 ⟨rfl, k5⟩; have K5 := hidden k5; clear k5)
    | (go_at_call 15; refine (same_eq [⟨#[97]⟩, ⟨#[98]⟩] _ _ _ _ _ _ _ (R3.out.same ((K4.out.trans K5.out).alloc _)) ⟨_, 2, rfl, by decide, (fun e => by cases e), fun _ => ⟨w5.heap.size, 0, rfl, fun j x hj => by rw [Nat.zero_add]; exact (blk_cell (blk_new w5 _)).trans (by simpa [TS] using hj)⟩⟩ (by decide)).mono ?_; rintro e w6 ⟨rfl, k6⟩; have K6 := hidden k6; clear k6)
    | (go_at_call 16; have _t := t3; refine (H7.out _).mono ?_; rintro e w7 ⟨rfl, k7⟩; have K7 := hidden k7; clear k7 t3 _t)
    | (go_at_call 16; refine (H8.out _).mono ?_; rintro e w8 ⟨rfl, k8⟩; have K8 := hidden k8; clear k8))
  go_returns
  exact ⟨rfl, K1.out.trans (K2.out.trans (K3.out.trans (K4.out.trans (K5.out.trans ((same_alloc _ _).trans (K6.out.trans (K7.out.trans K8.out)))))))⟩
end Go.Proofs.YtabpjegigpmfmaaDoor
