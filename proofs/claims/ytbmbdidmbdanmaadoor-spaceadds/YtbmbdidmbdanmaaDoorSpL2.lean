/- SpaceDoes and SpaceLooks walked. (Made by mkspl2.py.) -/
import Derived.Test.YtbmbdidmbdanmaaDoorSpD3
import Derived.Test.YtbmbdidmbdanmaaDoorSpRn
/- The law's does at whatever step; its same. -/
namespace Go.Proofs.YtbmbdidmbdanmaaDoor
open Go.RowKit Go.Shelf
set_option linter.unusedVariables false
set_option linter.unusedSimpArgs false
variable {zp : Spare}
set_option maxHeartbeats 4000000 in
set_option maxRecDepth 100000 in
theorem does_runs {g q r first count : Nat} {u v : Nat → Bool} {res : Nat} (n af ac : Int) (w : World) (h : Pr zp g q r first count u v res w) (hn : I64 n) :
    Calls Tryd.prog 11 #[.pointer (some ⟨g, 0, none⟩), .pointer (some ⟨q, 0, none⟩), .agg #[.int .i64 8, .int .i64 n, .int .i64 af, .int .i64 ac]] w fun e w' => e = .returned (.bool true) ∧ Same w w' := by
  have A1 := hidden (fun W (k : Same w W) => runs_walk n W (h.keep k) hn.1 hn.2)
  clear h
  go_enter Tryd.func11, Tryd.ntmps11
  go_wp2_with (go_at_call 41; refine (A1.out _ (same_alloc _ _)).mono ?_; rintro e w1 ⟨rfl, k1⟩; have K1 := hidden ((same_alloc _ _).trans k1); clear k1)
  go_returns
  exact ⟨rfl, K1.out⟩
theorem dout_same {g q r first count : Nat} {u v : Nat → Bool} {res : Nat} {w w' : World} (h : Pr zp g q r first count u v res w) (k : Same w w') : DOut zp g q r first count w w' := ⟨u, v, res, h.keep k, k.mono (fun _ _ h => h.elim)⟩
theorem does_any {g q r first count : Nat} {u v : Nat → Bool} {res : Nat} (p : Op4) (hp : p.ok) (w : World) (h : Pr zp g q r first count u v res w) :
    Calls Tryd.prog 11 #[.pointer (some ⟨g, 0, none⟩), .pointer (some ⟨q, 0, none⟩), .agg #[.int .i64 p.kind, .int .i64 p.N, .int .i64 p.af, .int .i64 p.ac]] w fun e w' => e = .returned (.bool true) ∧ DOut zp g q r first count w w' := by
  obtain ⟨kd, n, af, ac⟩ := p
  have h2 : I64 n := hp.N
  have h3 : I64 af := hp.af
  dsimp only
  have S : ∀ {f args}, Calls Tryd.prog f args w (fun e w' => e = .returned (.bool true) ∧ Same w w') → Calls Tryd.prog f args w (fun e w' => e = .returned (.bool true) ∧ DOut zp g q r first count w w') := fun z => z.mono fun e w' y => ⟨y.1, dout_same h y.2⟩
  by_cases k0 : kd = 0
  · subst k0; exact does_take n af ac w h
  by_cases k1 : kd = 1
  · subst k1; exact does_mark n af ac w h h3
  by_cases k2 : kd = 2
  · subst k2; exact does_free n af ac w h h3
  by_cases k3 : kd = 3
  · subst k3; exact does_later n af ac w h h3
  by_cases k4 : kd = 4
  · subst k4; exact does_settle n af ac w h
  by_cases k5 : kd = 5
  · subst k5; exact does_reserve n af ac w h
  by_cases k6 : kd = 6
  · subst k6; exact does_release n af ac w h
  by_cases k7 : kd = 7
  · subst k7; exact S (does_look n af ac w h)
  by_cases k8 : kd = 8
  · subst k8; exact S (does_runs n af ac w h h2)
  by_cases k9 : kd = 9
  · subst k9; exact does_has n af ac w h h2.2
  by_cases k10 : kd = 10
  · subst k10; exact S (does_bits n af ac w h)
  · exact S (does_else _ _ kd n af ac w (by omega))
set_option maxHeartbeats 4000000 in
set_option maxRecDepth 100000 in
theorem same_any {g q r first count : Nat} {u v : Nat → Bool} {res : Nat} (w : World) (h : Pr zp g q r first count u v res w) :
    Calls Tryd.prog 12 #[.pointer (some ⟨g, 0, none⟩), .pointer (some ⟨q, 0, none⟩)] w fun e w' => e = .returned (.bool true) ∧ Same w w' := by
  have A0 := hidden (does_look 0 0 0 w h)
  have A1 := hidden (fun W (k : Same w W) => sp_bits g first count u v res W (h.sp.kept k (fun h => h)))
  have A2 := hidden (fun W (k : Same w W) => rf_bits q r first count u v res W (h.rf.kept k (fun h => h) (fun h => h)) h.pl.fits.2.1)
  have A3 := hidden (fun W (k : Same w W) => runs_walk 1 W (h.keep k) (by decide) (by decide))
  generalize bitsV ((count + 7) / 8) (bk (fun i => u i || v i) count) = s at *
  clear h
  go_enter Tryd.func12, Tryd.ntmps12
  go_wp2_with (first
    | (go_at_call 11; refine (A0.out).mono ?_; rintro e w1 ⟨rfl, k1⟩; have K1 := hidden k1; clear k1)
    | (go_at_call 29; refine (A1.out _ K1.out).mono ?_; rintro e w2 ⟨rfl, k2⟩; have K2 := hidden (K1.out.trans k2); clear k2)
    | (go_at_call 43; refine (A2.out _ K2.out).mono ?_; rintro e w3 ⟨rfl, k3⟩; have K3 := hidden (K2.out.trans k3); clear k3)
    | (go_at_call 41; refine (A3.out _ K3.out).mono ?_; rintro e w4 ⟨rfl, k4⟩; have K4 := hidden (K3.out.trans k4); clear k4))
  go_returns
  exact ⟨rfl, K4.out⟩
end Go.Proofs.YtbmbdidmbdanmaaDoor
namespace Go.Proofs.YtbmbdidmbdanmaaDoor
open Go.RowKit Go.Shelf
set_option linter.unusedVariables false
set_option linter.unusedSimpArgs false
/-- What stands ahead of a step. -/
structure LS (w : World) (g q r first count : Nat) (W : World) : Prop where
  pr : ∃ u v res, Pr (zp0 count) g q r first count u v res W
  same : Same w W
theorem LS.keep {w : World} {g q r first count : Nat} {W W' : World} (h : LS w g q r first count W) (k : Same W W') : LS w g q r first count W' := by
  obtain ⟨u, v, res, hp⟩ := h.pr
  exact ⟨⟨u, v, res, hp.keep k⟩, h.same.trans k⟩
theorem LS.next {w : World} {g q r first count : Nat} {W W' : World} (h : LS w g q r first count W) (lg : w.heap.size ≤ g) (lq : w.heap.size ≤ q) (lr : w.heap.size ≤ r) (d : DOut (zp0 count) g q r first count W W') : LS w g q r first count W' := by
  obtain ⟨u, v, res, hp, hk⟩ := d.ex
  exact ⟨⟨u, v, res, hp⟩, Kept.trans' h.same hk (fun i hi e => by unfold Tri at e; omega)⟩
theorem LS.begin {w w0 w1 : World} {g q s first count : Nat} (h1 : 1 ≤ count) (h2 : first + count ≤ 4096) (hT : Tab w) (k : Same w w0) (hb : BegOk w0 g q s first count w1) : LS w g q s first count w1 := by
  have hl := hT.lt
  have hs := k.size
  have a1 := hb.g0
  have a2 := hb.q0
  have a3 := hb.s0
  have a4 := hb.gq
  have a5 := hb.gs
  exact ⟨⟨_, _, _, hb.sp, hb.rf, Pl.start h1 h2, hT.same (k.trans hb.same), by omega, by omega, by omega, by omega, by omega⟩, k.trans hb.same⟩
set_option maxHeartbeats 4000000 in
set_option maxRecDepth 100000 in
theorem doesL_no (first count : Int) (a : Option Addr) (n c : Nat) (w : World) (hf : I64 first) (hc : I64 count) (hT : Tab w) (h : ¬ (0 ≤ first ∧ 1 ≤ count ∧ first + count ≤ 4096)) :
    Calls Tryd.prog 3 #[.agg #[.int .i64 first, .int .i64 count, .slice a n c]] w fun e w' => e = .returned (.bool true) ∧ Same w w' := by
  have HB := hidden (fun W (k : Same w W) => begin_no first count (.slice a n c) ⟨a, n, c, rfl⟩ W hf hc (hT.same k) h)
  clear h hT hf hc
  go_enter Tryd.func3, Tryd.ntmps3
  go_wp2_with (go_at_call 10; refine (HB.out _ (same_alloc _ _)).mono ?_; rintro e w1 ⟨rfl, k1⟩; have K1 := hidden k1; clear k1)
  go_returns
  exact ⟨rfl, (same_alloc _ _).trans K1.out⟩
set_option maxHeartbeats 4000000 in
set_option maxRecDepth 100000 in
theorem doesL_yes (first count : Nat) (a : Option Addr) (n c : Nat) (f : Nat → Op4) (w : World) (ho : SOps w a n f) (hn : n * 32 ≤ 140737488351232) (hT : Tab w) (h1 : 1 ≤ count) (h2 : first + count ≤ 4096) :
    Calls Tryd.prog 3 #[.agg #[.int .i64 first, .int .i64 count, .slice a n c]] w fun e w' => e = .returned (.bool true) ∧ Same w w' := by
  have HB := hidden (fun W (k : Same w W) => begin_ok first count (.slice a n c) ⟨a, n, c, rfl⟩ W (hT.same k) h1 h2)
  have HL := hidden (fun (w0 w1 : World) (g q s : Nat) (k : Same w w0) (hb : BegOk w0 g q s first count w1) => LS.begin h1 h2 hT k hb)
  have HO := hidden ho
  clear hT ho
  go_enter Tryd.func3, Tryd.ntmps3
  go_wp2_with (go_at_call 10; refine (HB.out _ (same_alloc _ _)).mono ?_; rintro e w1 ⟨g, q, s, rfl, hb⟩; have L1 := hidden (HL.out _ _ _ _ _ (same_alloc w _) hb); have x2 : w1.cell? ⟨w.heap.size, 2, none⟩ = some (.slice a n c) := blk_cell (blk_kept hb.same (fun h => h) (blk_new w (.cells #[.int .i64 first, .int .i64 count, .slice a n c] 24))); have lg : w.heap.size + 1 ≤ g ∧ w.heap.size + 1 ≤ q ∧ w.heap.size + 1 ≤ s := (by have z1 := hb.g0; have z2 := hb.q0; have z3 := hb.s0; rw [World.size_alloc] at z1 z2 z3; exact ⟨z1, z2, z3⟩); clear hb)
  clear HB HL x2
  go_loopw [24] (fun x wr => ∃ i : Nat, i ≤ n ∧ x = .int .i64 i ∧ LS w g q s first count wr) (fun x _ => n - (intOf x).toNat)
  case atStart => exact ⟨0, Nat.zero_le _, rfl, L1.out⟩
  case round =>
    obtain ⟨i, hi, rfl, hA⟩ := hrel
    have HA := hidden hA
    obtain ⟨wo, hwo⟩ : ∃ wo, wo = wr := ⟨_, rfl⟩
    subst hwo
    clear hA L1
    by_cases hin : i < n
    · obtain ⟨ob, oo, rfl, hcs⟩ := HO.out (by omega)
      obtain ⟨p, hp⟩ : ∃ p, f i = p := ⟨_, rfl⟩
      have z := hcs i hin
      rw [hp] at z
      obtain ⟨hok, z0, z1, z2, z3⟩ := z
      have e0 := HA.out.same.cell (fun h => h) z0
      have e1 := HA.out.same.cell (fun h => h) z1
      have e2 := HA.out.same.cell (fun h => h) z2
      have e3 := HA.out.same.cell (fun h => h) z3
      obtain ⟨u, v, res, hP⟩ := HA.out.pr
      have HD := hidden (fun W (k : Same wo W) => does_any p hok W (hP.keep k))
      clear hcs z0 z1 z2 z3 hp hok hP
      have t1 : (i : Int) < (n : Int) := by omega
      have t0 : (0 : Int) ≤ (i : Int) := Int.natCast_nonneg _
      obtain ⟨kd, nn, af, ac⟩ := p
      dsimp only at e0 e1 e2 e3 HD
      go_wp2_with (go_at_call 11; refine (HD.out _ (same_alloc _ _)).mono ?_; rintro e w3 ⟨rfl, d3⟩; have L3 := hidden ((HA.out.keep (same_alloc wo _)).next (by omega) (by omega) (by omega) d3); clear d3)
      go_roundw
      case rel => exact ⟨i + 1, by omega, by go_num, L3.out⟩
      case measure => simp [intOf]; omega
    · have he : i = n := by omega
      subst he
      have y5 : ¬ (i : Int) < (i : Int) := by omega
      obtain ⟨u, v, res, hP⟩ := HA.out.pr
      have HS := hidden (same_any wo hP)
      clear hP
      go_wp2_with (go_at_call 12; refine (HS.out).mono ?_; rintro e w4 ⟨rfl, k4⟩; have K4 := hidden k4; clear k4)
      go_returns
      exact ⟨rfl, HA.out.same.trans K4.out⟩
set_option maxHeartbeats 4000000 in
set_option maxRecDepth 100000 in
theorem looksL_no (first count : Int) (a : Option Addr) (n c : Nat) (w : World) (hf : I64 first) (hc : I64 count) (hT : Tab w) (h : ¬ (0 ≤ first ∧ 1 ≤ count ∧ first + count ≤ 4096)) :
    Calls Tryd.prog 4 #[.agg #[.int .i64 first, .int .i64 count, .slice a n c]] w fun e w' => e = .returned (.bool true) ∧ Same w w' := by
  have HB := hidden (fun W (k : Same w W) => begin_no first count (.slice a n c) ⟨a, n, c, rfl⟩ W hf hc (hT.same k) h)
  clear h hT hf hc
  go_enter Tryd.func4, Tryd.ntmps4
  go_wp2_with (go_at_call 10; refine (HB.out _ (same_alloc _ _)).mono ?_; rintro e w1 ⟨rfl, k1⟩; have K1 := hidden k1; clear k1)
  go_returns
  exact ⟨rfl, (same_alloc _ _).trans K1.out⟩
set_option maxHeartbeats 4000000 in
set_option maxRecDepth 100000 in
theorem looksL_yes (first count : Nat) (a : Option Addr) (n c : Nat) (f : Nat → Op4) (w : World) (ho : SOps w a n f) (hn : n * 32 ≤ 140737488351232) (hT : Tab w) (h1 : 1 ≤ count) (h2 : first + count ≤ 4096) :
    Calls Tryd.prog 4 #[.agg #[.int .i64 first, .int .i64 count, .slice a n c]] w fun e w' => e = .returned (.bool true) ∧ Same w w' := by
  have HB := hidden (fun W (k : Same w W) => begin_ok first count (.slice a n c) ⟨a, n, c, rfl⟩ W (hT.same k) h1 h2)
  have HL := hidden (fun (w0 w1 : World) (g q s : Nat) (k : Same w w0) (hb : BegOk w0 g q s first count w1) => LS.begin h1 h2 hT k hb)
  have HO := hidden ho
  clear hT ho
  go_enter Tryd.func4, Tryd.ntmps4
  go_wp2_with (go_at_call 10; refine (HB.out _ (same_alloc _ _)).mono ?_; rintro e w1 ⟨g, q, s, rfl, hb⟩; have L1 := hidden (HL.out _ _ _ _ _ (same_alloc w _) hb); have x2 : w1.cell? ⟨w.heap.size, 2, none⟩ = some (.slice a n c) := blk_cell (blk_kept hb.same (fun h => h) (blk_new w (.cells #[.int .i64 first, .int .i64 count, .slice a n c] 24))); have lg : w.heap.size + 1 ≤ g ∧ w.heap.size + 1 ≤ q ∧ w.heap.size + 1 ≤ s := (by have z1 := hb.g0; have z2 := hb.q0; have z3 := hb.s0; rw [World.size_alloc] at z1 z2 z3; exact ⟨z1, z2, z3⟩); clear hb)
  clear HB HL x2
  go_loopw [24] (fun x wr => ∃ i : Nat, i ≤ n ∧ x = .int .i64 i ∧ LS w g q s first count wr) (fun x _ => n - (intOf x).toNat)
  case atStart => exact ⟨0, Nat.zero_le _, rfl, L1.out⟩
  case round =>
    obtain ⟨i, hi, rfl, hA⟩ := hrel
    have HA := hidden hA
    obtain ⟨wo, hwo⟩ : ∃ wo, wo = wr := ⟨_, rfl⟩
    subst hwo
    clear hA L1
    by_cases hin : i < n
    · obtain ⟨ob, oo, rfl, hcs⟩ := HO.out (by omega)
      obtain ⟨p, hp⟩ : ∃ p, f i = p := ⟨_, rfl⟩
      have z := hcs i hin
      rw [hp] at z
      obtain ⟨hok, z0, z1, z2, z3⟩ := z
      have e0 := HA.out.same.cell (fun h => h) z0
      have e1 := HA.out.same.cell (fun h => h) z1
      have e2 := HA.out.same.cell (fun h => h) z2
      have e3 := HA.out.same.cell (fun h => h) z3
      obtain ⟨u, v, res, hP⟩ := HA.out.pr
      have HD := hidden (fun W (k : Same wo W) => does_any p hok W (hP.keep k))
      clear hcs z0 z1 z2 z3 hp hok hP
      have t1 : (i : Int) < (n : Int) := by omega
      have t0 : (0 : Int) ≤ (i : Int) := Int.natCast_nonneg _
      obtain ⟨kd, nn, af, ac⟩ := p
      dsimp only at e0 e1 e2 e3 HD
      go_wp2_with (first
        | (go_at_call 11; refine (HD.out _ (same_alloc _ _)).mono ?_; rintro e w3 ⟨rfl, d3⟩; have L3 := hidden ((HA.out.keep (same_alloc wo _)).next (by omega) (by omega) (by omega) d3); clear d3)
        | (go_at_call 12; obtain ⟨u3, v3, r3, p3⟩ := L3.out.pr; refine (same_any _ p3).mono ?_; rintro e w4 ⟨rfl, k4⟩; have L4 := hidden (L3.out.keep k4); clear k4 p3))
      go_roundw
      case rel => exact ⟨i + 1, by omega, by go_num, L4.out⟩
      case measure => simp [intOf]; omega
    · have he : i = n := by omega
      subst he
      have y5 : ¬ (i : Int) < (i : Int) := by omega
      go_wp2
      go_returns
      exact ⟨rfl, HA.out.same⟩
end Go.Proofs.YtbmbdidmbdanmaaDoor
