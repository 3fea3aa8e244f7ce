/- The law's does at whatever step; its same. -/
import Derived.Test.YtbmbdidmbdanmaaDoorSpD3
import Derived.Test.YtbmbdidmbdanmaaDoorSpRn
namespace Go.Proofs.YtbmbdidmbdanmaaDoor
open Go.RowKit Go.Shelf
set_option linter.unusedVariables false
set_option linter.unusedSimpArgs false
variable {zp : Spare}
set_option maxHeartbeats 4000000 in
set_option maxRecDepth 100000 in
theorem does_runs {g q r first count : Nat} {u v : Nat → Bool} {res : Nat} (n af ac : Int) (w : World) (h : Pr zp g q r first count u v res w) (hn : I64 n) :
    Calls Tryd.prog 11 #[.pointer (some ⟨g, 0, none⟩), .pointer (some ⟨q, 0, none⟩), .agg #[.int .i64 8, .int .i64 n, .int .i64 af, .int .i64 ac]] w fun e w' => e = .returned (.bool true) ∧ Same w w' := by
  have A1 := hidden (fun W (k : Same w W) => runs_walk n W (h.keep k) hn.1 hn.2)
  clear h
  go_enter Tryd.func11, Tryd.ntmps11
  go_wp2_with (go_at_call 41; refine (A1.out _ (same_alloc _ _)).mono ?_; rintro e w1 ⟨rfl, k1⟩; have K1 := hidden ((same_alloc _ _).trans k1); clear k1)
  go_returns
  exact ⟨rfl, K1.out⟩
theorem dout_same {g q r first count : Nat} {u v : Nat → Bool} {res : Nat} {w w' : World} (h : Pr zp g q r first count u v res w) (k : Same w w') : DOut zp g q r first count w w' := ⟨u, v, res, h.keep k, k.mono (fun _ _ h => h.elim)⟩
theorem does_any {g q r first count : Nat} {u v : Nat → Bool} {res : Nat} (p : Op4) (hp : p.ok) (w : World) (h : Pr zp g q r first count u v res w) :
    Calls Tryd.prog 11 #[.pointer (some ⟨g, 0, none⟩), .pointer (some ⟨q, 0, none⟩), .agg #[.int .i64 p.kind, .int .i64 p.N, .int .i64 p.af, .int .i64 p.ac]] w fun e w' => e = .returned (.bool true) ∧ DOut zp g q r first count w w' := by
  obtain ⟨kd, n, af, ac⟩ := p
  have h2 : I64 n := hp.N
  have h3 : I64 af := hp.af
  dsimp only
  have S : ∀ {f args}, Calls Tryd.prog f args w (fun e w' => e = .returned (.bool true) ∧ Same w w') → Calls Tryd.prog f args w (fun e w' => e = .returned (.bool true) ∧ DOut zp g q r first count w w') := fun z => z.mono fun e w' y => ⟨y.1, dout_same h y.2⟩
  by_cases k0 : kd = 0
  · subst k0; exact does_take n af ac w h
  by_cases k1 : kd = 1
  · subst k1; exact does_mark n af ac w h h3
  by_cases k2 : kd = 2
  · subst k2; exact does_free n af ac w h h3
  by_cases k3 : kd = 3
  · subst k3; exact does_later n af ac w h h3
  by_cases k4 : kd = 4
  · subst k4; exact does_settle n af ac w h
  by_cases k5 : kd = 5
  · subst k5; exact does_reserve n af ac w h
  by_cases k6 : kd = 6
  · subst k6; exact does_release n af ac w h
  by_cases k7 : kd = 7
  · subst k7; exact S (does_look n af ac w h)
  by_cases k8 : kd = 8
  · subst k8; exact S (does_runs n af ac w h h2)
  by_cases k9 : kd = 9
  · subst k9; exact does_has n af ac w h h2.2
  by_cases k10 : kd = 10
  · subst k10; exact S (does_bits n af ac w h)
  · exact S (does_else _ _ kd n af ac w (by omega))
set_option maxHeartbeats 4000000 in
set_option maxRecDepth 100000 in
theorem same_any {g q r first count : Nat} {u v : Nat → Bool} {res : Nat} (w : World) (h : Pr zp g q r first count u v res w) :
    Calls Tryd.prog 12 #[.pointer (some ⟨g, 0, none⟩), .pointer (some ⟨q, 0, none⟩)] w fun e w' => e = .returned (.bool true) ∧ Same w w' := by
  have A0 := hidden (does_look 0 0 0 w h)
  have A1 := hidden (fun W (k : Same w W) => sp_bits g first count u v res W (h.sp.kept k (fun h => h)))
  have A2 := hidden (fun W (k : Same w W) => rf_bits q r first count u v res W (h.rf.kept k (fun h => h) (fun h => h)) h.pl.fits.2.1)
  have A3 := hidden (fun W (k : Same w W) => runs_walk 1 W (h.keep k) (by decide) (by decide))
  generalize bitsV ((count + 7) / 8) (bk (fun i => u i || v i) count) = s at *
  clear h
  go_enter Tryd.func12, Tryd.ntmps12
  go_wp2_with (first
    | (go_at_call 11; refine (A0.out).mono ?_; rintro e w1 ⟨rfl, k1⟩; have K1 := hidden k1; clear k1)
    | (go_at_call 29; refine (A1.out _ K1.out).mono ?_; rintro e w2 ⟨rfl, k2⟩; have K2 := hidden (K1.out.trans k2); clear k2)
    | (go_at_call 43; refine (A2.out _ K2.out).mono ?_; rintro e w3 ⟨rfl, k3⟩; have K3 := hidden (K2.out.trans k3); clear k3)
    | (go_at_call 41; refine (A3.out _ K3.out).mono ?_; rintro e w4 ⟨rfl, k4⟩; have K4 := hidden (K3.out.trans k4); clear k4))
  go_returns
  exact ⟨rfl, K4.out⟩
end Go.Proofs.YtbmbdidmbdanmaaDoor
