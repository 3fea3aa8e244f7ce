/- Tables: what the law's awake tells. -/
import Derived.Test.YtiffkcffcjembaaH2
import Derived.Handy
namespace Go.Proofs.Ytiffkcffcjembaa
open Go.RowKit Go.Maps
set_option linter.unusedVariables false
set_option linter.unusedSimpArgs false
theorem Same.then {w a b : World} {S : Nat → Prop} (h : Same w a) (k : Kept S a b) (hs : ∀ i, i < w.heap.size → ¬ S i) : Same w b := h.trans' k (fun i hi hsi => hs i hi hsi)
theorem n64 (x : Int) (h1 : -9223372036854775808 ≤ x) (h2 : x ≤ 9223372036854775807) : I64 x := ⟨h1, h2⟩
theorem h_close' (g bm : Nat) (f : FT) (n : Nat) (i : Nat) (X : Int) (L : Bool) (w : World) (h : TB w g bm f n) (hi : i < 64) (hX : (f i).1 = X) (hf : X ≠ 0) (hL : decide (cn f X 64 = 1) = L) (hn : n < 9223372036854775807) :
    Calls Try.prog 14 #[P0 g, .int .i64 i] w fun e w' => e = .returned (.tuple #[.int .i64 X, .bool L, .int .i64 0]) ∧ TB w' g bm (f.set i (0, 0)) (n + 1) ∧ Kept (TS g bm) w w' := by
  subst hX hL
  exact h_close g bm f n i w h hi hf hn
set_option maxHeartbeats 4000000 in
set_option maxRecDepth 100000 in
theorem h_awake (w : World) : Calls Try.prog 8 #[] w fun e w' => e = .returned (.bool true) ∧ Same w w' := by
  have t1 : True := trivial
  have t2 : True := trivial
  have t3 : True := trivial
  have t4 : True := trivial
  go_enter Try.func8, Try.ntmps8
  go_wp2_with (first
    | (go_at_call 7; refine (h_new _).mono ?_; rintro e w0 ⟨g, bm, rfl, hg, hbm, k0, T0⟩; have K0 := hidden k0; have HT0 := hidden T0; clear k0 T0)
    | (go_at_call 12; have _t := t1; refine (h_open g bm _ _ 5 0 0 _ HT0.out (by decide) (by intro i hi; omega) rfl (by decide) (n64 _ (by decide) (by decide)) (n64 _ (by decide) (by decide)) (by decide)).mono ?_; rintro e w1 ⟨rfl, T1, k1⟩; clear t1; have K1 := hidden (K0.out.then k1 (by rintro i hi (rfl | rfl) <;> omega)); have HT1 := hidden T1; clear k1 T1)
    | (go_at_call 12; have _t := t2; refine (h_open g bm _ _ 5 0 1 _ HT1.out (by decide) (by intro i hi; obtain rfl : i = 0 := (by omega); decide) rfl (by decide) (n64 _ (by decide) (by decide)) (n64 _ (by decide) (by decide)) (by decide)).mono ?_; rintro e w2 ⟨rfl, T2, k2⟩; clear t2; have K2 := hidden (K1.out.then k2 (by rintro i hi (rfl | rfl) <;> omega)); have HT2 := hidden T2; clear k2 T2)
    | (go_at_call 12; have _t := t3; refine (h_open g bm _ _ 7 0 2 _ HT2.out (by decide) (by intro i hi; obtain rfl | rfl : i = 0 ∨ i = 1 := (by omega) <;> decide) rfl (by decide) (n64 _ (by decide) (by decide)) (n64 _ (by decide) (by decide)) (by decide)).mono ?_; rintro e w3 ⟨rfl, T3, k3⟩; clear t3; have K3 := hidden (K2.out.then k3 (by rintro i hi (rfl | rfl) <;> omega)); have HT3 := hidden T3; clear k3 T3)
    | (go_at_call 14; have _t := t4; refine (h_close' g bm _ _ 0 5 false _ HT3.out (by decide) rfl (by decide) (by decide) (by decide)).mono ?_; rintro e w4 ⟨rfl, T4, k4⟩; clear t4; have K4 := hidden (K3.out.then k4 (by rintro i hi (rfl | rfl) <;> omega)); have HT4 := hidden T4; clear k4 T4)
    | (go_at_call 12; refine (h_open g bm _ _ 9 0 0 _ HT4.out (by decide) (by intro i hi; omega) rfl (by decide) (n64 _ (by decide) (by decide)) (n64 _ (by decide) (by decide)) (by decide)).mono ?_; rintro e w5 ⟨rfl, T5, k5⟩; have K5 := hidden (K4.out.then k5 (by rintro i hi (rfl | rfl) <;> omega)); have HT5 := hidden T5; clear k5 T5)
    | (go_at_call 14; refine (h_close' g bm _ _ 1 5 true _ HT5.out (by decide) rfl (by decide) (by decide) (by decide)).mono ?_; rintro e w6 ⟨rfl, T6, k6⟩; have K6 := hidden (K5.out.then k6 (by rintro i hi (rfl | rfl) <;> omega)); clear k6 T6))
  go_returns
  exact ⟨rfl, K6.out⟩
end Go.Proofs.Ytiffkcffcjembaa
