/- SpaceForks walked. (Made by mkspx.py.) -/
import Derived.Test.YtbmbdidmbdanmaaDoorSpF
namespace Go.Proofs.YtbmbdidmbdanmaaDoor
open Go.RowKit Go.Shelf
set_option linter.unusedVariables false
set_option linter.unusedSimpArgs false
theorem Pr.apart {zp : Spare} {g q r first count : Nat} {u v : Nat → Bool} {res : Nat} {w w' : World} {S : Nat → Prop} (h : Pr zp g q r first count u v res w) (k : Kept S w w') (h1 : ¬ S g) (h2 : ¬ S q) (h3 : ¬ S r) (h4 : ¬ S 0) : Pr zp g q r first count u v res w' :=
  ⟨h.sp.kept k h1, h.rf.kept k h2 h3, h.pl, h.tab.kept k h4, h.gq, h.gr, h.tg, h.tq, h.tr⟩
theorem Pr.notab {zp : Spare} {g q r first count : Nat} {u v : Nat → Bool} {res : Nat} {w : World} (h : Pr zp g q r first count u v res w) : ¬ Tri g q r 0 := fun e => by
  rcases e with e | e | e
  · exact h.tg e
  · exact h.tq e
  · exact h.tr e
/-- Two pairs, apart. -/
structure LF (w : World) (g q r t q2 r2 first count : Nat) (zp2 : Spare) (W : World) : Prop where
  p1 : ∃ u v res, Pr (zp0 count) g q r first count u v res W
  p2 : ∃ u v res, Pr zp2 t q2 r2 first count u v res W
  same : Same w W
structure Aps (w : World) (g q r t q2 r2 : Nat) : Prop where
  ne : ∀ b, Tri g q r b → ¬ Tri t q2 r2 b
  l1 : ∀ b, Tri g q r b → w.heap.size ≤ b
  l2 : ∀ b, Tri t q2 r2 b → w.heap.size ≤ b
theorem LF.keep {w : World} {g q r t q2 r2 first count : Nat} {zp2 : Spare} {W W' : World} (h : LF w g q r t q2 r2 first count zp2 W) (k : Same W W') : LF w g q r t q2 r2 first count zp2 W' :=
  ⟨let ⟨u, v, s, p⟩ := h.p1; ⟨u, v, s, p.keep k⟩, let ⟨u, v, s, p⟩ := h.p2; ⟨u, v, s, p.keep k⟩, h.same.trans k⟩
theorem LF.next1 {w : World} {g q r t q2 r2 first count : Nat} {zp2 : Spare} {W W' : World} (h : LF w g q r t q2 r2 first count zp2 W) (ap : Aps w g q r t q2 r2) (d : DOut (zp0 count) g q r first count W W') : LF w g q r t q2 r2 first count zp2 W' := by
  obtain ⟨u, v, res, hp, hk⟩ := d.ex
  obtain ⟨u2, v2, s2, p2⟩ := h.p2
  exact ⟨⟨u, v, res, hp⟩, ⟨u2, v2, s2, p2.apart hk (fun e => ap.ne _ e (Or.inl rfl)) (fun e => ap.ne _ e (Or.inr (Or.inl rfl))) (fun e => ap.ne _ e (Or.inr (Or.inr rfl))) hp.notab⟩, Kept.trans' h.same hk (fun i hi e => by have := ap.l1 i e; omega)⟩
theorem LF.next2 {w : World} {g q r t q2 r2 first count : Nat} {zp2 : Spare} {W W' : World} (h : LF w g q r t q2 r2 first count zp2 W) (ap : Aps w g q r t q2 r2) (d : DOut zp2 t q2 r2 first count W W') : LF w g q r t q2 r2 first count zp2 W' := by
  obtain ⟨u, v, res, hp, hk⟩ := d.ex
  obtain ⟨u2, v2, s2, p1⟩ := h.p1
  exact ⟨⟨u2, v2, s2, p1.apart hk (fun e => ap.ne _ (Or.inl rfl) e) (fun e => ap.ne _ (Or.inr (Or.inl rfl)) e) (fun e => ap.ne _ (Or.inr (Or.inr rfl)) e) hp.notab⟩, ⟨u, v, res, hp⟩, Kept.trans' h.same hk (fun i hi e => by have := ap.l2 i e; omega)⟩
theorem lf_begin {w wo w4 w5 : World} {g q r t q2 r2 first count : Nat} {zp2 : Spare} {u v : Nat → Bool} {res : Nat} (hw : Same w wo) (lT : 0 < w.heap.size) (lg : w.heap.size + 1 ≤ g ∧ w.heap.size + 1 ≤ q ∧ w.heap.size + 1 ≤ r) (hP : Pr (zp0 count) g q r first count u v res wo)
    (k4 : Same wo w4) (ht : wo.heap.size ≤ t) (s4 : SpAt t first count u v res w4) (k5 : Same w4 w5) (hq : w4.heap.size ≤ q2) (hr : w4.heap.size ≤ r2) (s5 : RfAt zp2 q2 r2 first count u v res w5) : LF w g q r t q2 r2 first count zp2 w5 ∧ Aps w g q r t q2 r2 := by
  have b1 : g < wo.heap.size := by obtain ⟨cs, hb, _⟩ := hP.sp.box; exact blk_lt hb
  have b2 : q < wo.heap.size := blk_lt hP.rf.box
  have b3 : r < wo.heap.size := blk_lt hP.rf.row
  have b4 : t < w4.heap.size := by obtain ⟨cs, hb, _⟩ := s4.box; exact blk_lt hb
  have z1 := hw.size
  have z4 := k4.size
  refine ⟨⟨⟨u, v, res, hP.keep (k4.trans k5)⟩, ⟨u, v, res, s4.kept k5 (fun h => h), s5, hP.pl, hP.tab.same (k4.trans k5), by omega, by omega, by omega, by omega, by omega⟩, hw.trans (k4.trans k5)⟩, ⟨fun b e1 e2 => ?_, fun b e => ?_, fun b e => ?_⟩⟩
  · unfold Tri at e1 e2
    omega
  · unfold Tri at e
    omega
  · unfold Tri at e
    omega
set_option maxHeartbeats 4000000 in
set_option maxRecDepth 100000 in
theorem forkL_no (first count : Int) (a : Option Addr) (n c : Nat) (a2 : Option Addr) (n2 c2 : Nat) (w : World) (hf : I64 first) (hc : I64 count) (hT : Tab w) (h : ¬ (0 ≤ first ∧ 1 ≤ count ∧ first + count ≤ 4096)) :
    Calls Tryd.prog 5 #[.agg #[.int .i64 first, .int .i64 count, .slice a n c], .slice a2 n2 c2] w fun e w' => e = .returned (.bool true) ∧ Same w w' := by
  have HB := hidden (fun W (k : Same w W) => begin_no first count (.slice a n c) ⟨a, n, c, rfl⟩ W hf hc (hT.same k) h)
  clear h hT hf hc
  go_enter Tryd.func5, Tryd.ntmps5
  go_wp2_with (go_at_call 10; refine (HB.out _ (same_alloc _ _)).mono ?_; rintro e w1 ⟨rfl, k1⟩; have K1 := hidden k1; clear k1)
  go_returns
  exact ⟨rfl, (same_alloc _ _).trans K1.out⟩
set_option maxHeartbeats 4000000 in
set_option maxRecDepth 100000 in
theorem forkL_yes (first count : Nat) (a : Option Addr) (n c : Nat) (f : Nat → Op4) (a2 : Option Addr) (n2 c2 : Nat) (f2 : Nat → Op4) (w : World) (ho : SOps w a n f) (ho2 : SOps w a2 n2 f2) (hn : n * 32 ≤ 140737488351232) (hn2 : n2 * 32 ≤ 140737488351232) (hT : Tab w) (h1 : 1 ≤ count) (h2 : first + count ≤ 4096) :
    Calls Tryd.prog 5 #[.agg #[.int .i64 first, .int .i64 count, .slice a n c], .slice a2 n2 c2] w fun e w' => e = .returned (.bool true) ∧ Same w w' := by
  have HB := hidden (fun W (k : Same w W) => begin_ok first count (.slice a n c) ⟨a, n, c, rfl⟩ W (hT.same k) h1 h2)
  have HL := hidden (fun (w0 w1 : World) (g q s : Nat) (k : Same w w0) (hb : BegOk w0 g q s first count w1) => LS.begin h1 h2 hT k hb)
  have HO := hidden ho
  have HO2 := hidden ho2
  have lT := hT.lt
  clear hT ho ho2
  go_enter Tryd.func5, Tryd.ntmps5
  go_wp2_with (go_at_call 10; refine (HB.out _ (same_alloc _ _)).mono ?_; rintro e w1 ⟨g, q, s, rfl, hb⟩; have L1 := hidden (HL.out _ _ _ _ _ (same_alloc w _) hb); have x2 : w1.cell? ⟨w.heap.size, 2, none⟩ = some (.slice a n c) := blk_cell (blk_kept hb.same (fun h => h) (blk_new w (.cells #[.int .i64 first, .int .i64 count, .slice a n c] 24))); have lg : w.heap.size + 1 ≤ g ∧ w.heap.size + 1 ≤ q ∧ w.heap.size + 1 ≤ s := (by have z1 := hb.g0; have z2 := hb.q0; have z3 := hb.s0; rw [World.size_alloc] at z1 z2 z3; exact ⟨z1, z2, z3⟩); clear hb)
  clear HB HL x2
  go_loopw [30] (fun x wr => ∃ i : Nat, i ≤ n ∧ x = .int .i64 i ∧ LS w g q s first count wr) (fun x _ => n - (intOf x).toNat)
  case atStart => exact ⟨0, Nat.zero_le _, rfl, L1.out⟩
  case round =>
    obtain ⟨i, hi, rfl, hA⟩ := hrel
    have HA := hidden hA
    obtain ⟨wo, hwo⟩ : ∃ wo, wo = wr := ⟨_, rfl⟩
    subst hwo
    clear hA L1
    by_cases hin : i < n
    · obtain ⟨ob, oo, rfl, hcs⟩ := HO.out (by omega)
      obtain ⟨p, hp⟩ : ∃ p, f i = p := ⟨_, rfl⟩
      have z := hcs i hin
      rw [hp] at z
      obtain ⟨hok, z0, z1, z2, z3⟩ := z
      have e0 := HA.out.same.cell (fun h => h) z0
      have e1 := HA.out.same.cell (fun h => h) z1
      have e2 := HA.out.same.cell (fun h => h) z2
      have e3 := HA.out.same.cell (fun h => h) z3
      obtain ⟨u, v, res, hP⟩ := HA.out.pr
      have HD := hidden (fun W (k : Same wo W) => does_any p hok W (hP.keep k))
      clear hcs z0 z1 z2 z3 hp hok hP
      have t1 : (i : Int) < (n : Int) := by omega
      have t0 : (0 : Int) ≤ (i : Int) := Int.natCast_nonneg _
      obtain ⟨kd, nn, af, ac⟩ := p
      dsimp only at e0 e1 e2 e3 HD
      go_wp2_with (go_at_call 11; refine (HD.out _ (same_alloc _ _)).mono ?_; rintro e w3 ⟨rfl, d3⟩; have L3 := hidden ((HA.out.keep (same_alloc wo _)).next (by omega) (by omega) (by omega) d3); clear d3)
      go_roundw
      case rel => exact ⟨i + 1, by omega, by go_num, L3.out⟩
      case measure => simp [intOf]; omega
    · have he : i = n := by omega
      subst he
      have y5 : ¬ (i : Int) < (i : Int) := by omega
      obtain ⟨u, v, res, hP⟩ := HA.out.pr
      have hfit := hP.pl.fits
      have CF := hidden (sp_fork g first count u v res wo hP.sp)
      have CG := hidden (fun W (k : Same wo W) => rf_fork q s first count u v res W (hP.keep k).rf hfit.1 (by omega))
      have HB := hidden (fun (w4 w5 : World) (t q2 r2 : Nat) (zp2 : Spare) (k4 : Same wo w4) (ht : wo.heap.size ≤ t) (s4 : SpAt t first count u v res w4) (k5 : Same w4 w5) (hq : w4.heap.size ≤ q2) (hr : w4.heap.size ≤ r2) (s5 : RfAt zp2 q2 r2 first count u v res w5) => lf_begin HA.out.same lT lg hP k4 ht s4 k5 hq hr s5)
      clear hP
      go_wp2_with (first
        | (go_at_call 13; refine (CF.out).mono ?_; rintro e w4 ⟨t, rfl, ht, s4, k4⟩; have K4 := hidden k4; have S4 := hidden s4; have HT4 := hidden ht; clear k4 s4 ht)
        | (go_at_call 14; refine (CG.out _ K4.out).mono ?_; rintro e w5 ⟨q2, rfl, r2, zp2, hq, hr, s5, k5⟩; have B5 := hidden (HB.out _ _ _ _ _ _ K4.out HT4.out S4.out k5 hq hr s5); clear k5 hq hr s5))
      have L5 := hidden B5.out.1
      have AP := hidden B5.out.2
      clear HB CF CG B5 K4 S4 HT4 HA
      go_loopw [48] (fun x wr => ∃ j : Nat, j ≤ n2 ∧ x = .int .i64 j ∧ LF w g q s t q2 r2 first count zp2 wr) (fun x _ => n2 - (intOf x).toNat)
      case atStart => exact ⟨0, Nat.zero_le _, rfl, L5.out⟩
      case round =>
        obtain ⟨j, hj, rfl, hA⟩ := hrel
        have HA := hidden hA
        obtain ⟨wp, hwp⟩ : ∃ wp, wp = wr := ⟨_, rfl⟩
        subst hwp
        clear hA L5
        by_cases hin : j < n2
        · obtain ⟨ob, oo, rfl, hcs⟩ := HO2.out (by omega)
          obtain ⟨p, hp⟩ : ∃ p, f2 j = p := ⟨_, rfl⟩
          have z := hcs j hin
          rw [hp] at z
          obtain ⟨hok, z0, z1, z2, z3⟩ := z
          have e0 := HA.out.same.cell (fun h => h) z0
          have e1 := HA.out.same.cell (fun h => h) z1
          have e2 := HA.out.same.cell (fun h => h) z2
          have e3 := HA.out.same.cell (fun h => h) z3
          obtain ⟨u1, v1, s1, hP1⟩ := HA.out.p1
          obtain ⟨u2, v2, s2, hP2⟩ := HA.out.p2
          have HD1 := hidden (fun W (k : Same wp W) => does_any p hok W (hP1.keep k))
          have HD2 := hidden (fun W (k : Same wp W) => does_any p hok W (hP2.keep k))
          clear hcs z0 z1 z2 z3 hp hok hP1 hP2
          have t1 : (j : Int) < (n2 : Int) := by omega
          have t0 : (0 : Int) ≤ (j : Int) := Int.natCast_nonneg _
          obtain ⟨kd, nn, af, ac⟩ := p
          dsimp only at e0 e1 e2 e3 HD1 HD2
          by_cases hev : j % 2 = 0
          · have r1 : (j : Int).tmod 2 = 0 := by rw [Int.tmod_eq_emod_of_nonneg t0]; omega
            go_wp2_with (go_at_call 11; refine (HD1.out _ (same_alloc _ _)).mono ?_; rintro e w3 ⟨rfl, d3⟩; have L3 := hidden ((HA.out.keep (same_alloc wp _)).next1 AP.out d3); clear d3)
            go_roundw
            case rel => exact ⟨j + 1, by omega, by go_num, L3.out⟩
            case measure => simp [intOf]; omega
          · have r1 : (j : Int).tmod 2 = 1 := by rw [Int.tmod_eq_emod_of_nonneg t0]; omega
            go_wp2_with (go_at_call 11; refine (HD2.out _ (same_alloc _ _)).mono ?_; rintro e w3 ⟨rfl, d3⟩; have L3 := hidden ((HA.out.keep (same_alloc wp _)).next2 AP.out d3); clear d3)
            go_roundw
            case rel => exact ⟨j + 1, by omega, by go_num, L3.out⟩
            case measure => simp [intOf]; omega
        · have he : j = n2 := by omega
          subst he
          have y6 : ¬ (j : Int) < (j : Int) := by omega
          obtain ⟨u1, v1, s1, hP1⟩ := HA.out.p1
          obtain ⟨u2, v2, s2, hP2⟩ := HA.out.p2
          have HS1 := hidden (same_any wp hP1)
          have HS2 := hidden (fun W (k : Same wp W) => same_any W (hP2.keep k))
          have t1 := hidden (True.intro)
          clear hP1 hP2
          go_wp2_with (first
            | (go_at_call 12; have _t := t1; refine (HS1.out).mono ?_; rintro e w6 ⟨rfl, k6⟩; have K6 := hidden k6; clear k6 t1 _t)
            | (go_at_call 12; refine (HS2.out _ K6.out).mono ?_; rintro e w7 ⟨rfl, k7⟩; have K7 := hidden (K6.out.trans k7); clear k7))
          go_returns
          exact ⟨rfl, HA.out.same.trans K7.out⟩
set_option maxRecDepth 100000 in
theorem spops_open {H : Type} {enc : TypeId × Value → H} {W : World} {base : Nat} {v : Value} {d : DataW H} {p : List MemPlace} (hv : Value.okWide Tryd.prog W .any base 22 v) (h : DataW.Trod enc Tryd.prog W 0 (fun _ => true) true 22 v d p)
    (ts : List TypeId) (ds : List (DataW H)) (j : Nat) (hall : (DataW.weightsEach Tryd.prog ts ds).all (· ≤ reachBytes) = true) (hts : ts[j]? = some 22) (hds : ds[j]? = some d) :
    ∃ (a : Option Addr) (n c : Nat) (f : Nat → Op4), v = .slice a n c ∧ SOps W a n f ∧ n * 32 ≤ 140737488351232 := by
  obtain ⟨a1, len1, cap1, rfl⟩ := Go.WideShapes.okWide_slice Tryd.underlying22 hv
  obtain ⟨fuel, hf⟩ := h
  obtain ⟨a, n, c, f, he, ho, _, hb⟩ := ops_trod (c0 := .slice a1 len1 cap1) hf
  refine ⟨a, n, c, f, he, ho, ?_⟩
  have := hb reachBytes (fun q h => by
    have := List.all_eq_true.1 hall q (DataW.weights_mem_each hts hds q h)
    simpa using this)
  unfold reachBytes at this
  exact this
end Go.Proofs.YtbmbdidmbdanmaaDoor
