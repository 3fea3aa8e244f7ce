/- SpaceReserves walked. (Made by mkspw.py.) -/
import Derived.Test.YtbmbdidmbdanmaaDoorSpV
namespace Go.Proofs.YtbmbdidmbdanmaaDoor
open Go.RowKit Go.Shelf
set_option linter.unusedVariables false
set_option linter.unusedSimpArgs false
theorem sp_leftS (g first count : Nat) (u v : Nat → Bool) (res : Nat) (w : World) (h : SpAt g first count u v res w) :
    Calls Tryd.prog 25 #[.pointer (some ⟨g, 0, none⟩)] w fun r w' => r = .returned (.int .i64 (leftZ count u v res)) ∧ Same w w' :=
  (sp_leftN g first count u v res w h).mono fun r w' ⟨h1, n, h2⟩ => ⟨h1, by rw [h2]; exact (Kept.refl _ w).drewN n⟩
set_option maxHeartbeats 4000000 in
set_option maxRecDepth 100000 in
theorem resL_no (first count : Int) (a : Option Addr) (n c : Nat) (m : Int) (w : World) (hf : I64 first) (hc : I64 count) (hT : Tab w) (h : ¬ (0 ≤ first ∧ 1 ≤ count ∧ first + count ≤ 4096)) :
    Calls Tryd.prog 8 #[.agg #[.int .i64 first, .int .i64 count, .slice a n c], .int .i64 m] w fun e w' => e = .returned (.bool true) ∧ Same w w' := by
  have HB := hidden (fun W (k : Same w W) => begin_no first count (.slice a n c) ⟨a, n, c, rfl⟩ W hf hc (hT.same k) h)
  clear h hT hf hc
  go_enter Tryd.func8, Tryd.ntmps8
  go_wp2_with (go_at_call 10; refine (HB.out _ (same_alloc _ _)).mono ?_; rintro e w1 ⟨rfl, k1⟩; have K1 := hidden k1; clear k1)
  go_returns
  exact ⟨rfl, (same_alloc _ _).trans K1.out⟩
set_option maxHeartbeats 4000000 in
set_option maxRecDepth 100000 in
theorem resL_yes (first count : Nat) (a : Option Addr) (n c : Nat) (m : Int) (f : Nat → Op4) (w : World) (ho : SOps w a n f) (hn : n * 32 ≤ 140737488351232) (hT : Tab w) (h1 : 1 ≤ count) (h2 : first + count ≤ 4096) :
    Calls Tryd.prog 8 #[.agg #[.int .i64 first, .int .i64 count, .slice a n c], .int .i64 m] w fun e w' => e = .returned (.bool true) ∧ Same w w' := by
  have HB := hidden (fun W (k : Same w W) => begin_ok first count (.slice a n c) ⟨a, n, c, rfl⟩ W (hT.same k) h1 h2)
  have HL := hidden (fun (w0 w1 : World) (g q s : Nat) (k : Same w w0) (hb : BegOk w0 g q s first count w1) => LS.begin h1 h2 hT k hb)
  have HO := hidden ho
  have lT := hT.lt
  clear hT ho
  go_enter Tryd.func8, Tryd.ntmps8
  go_wp2_with (go_at_call 10; refine (HB.out _ (same_alloc _ _)).mono ?_; rintro e w1 ⟨g, q, s, rfl, hb⟩; have L1 := hidden (HL.out _ _ _ _ _ (same_alloc w _) hb); have x2 : w1.cell? ⟨w.heap.size, 2, none⟩ = some (.slice a n c) := blk_cell (blk_kept hb.same (fun h => h) (blk_new w (.cells #[.int .i64 first, .int .i64 count, .slice a n c] 24))); have lg : w.heap.size + 1 ≤ g ∧ w.heap.size + 1 ≤ q ∧ w.heap.size + 1 ≤ s := (by have z1 := hb.g0; have z2 := hb.q0; have z3 := hb.s0; rw [World.size_alloc] at z1 z2 z3; exact ⟨z1, z2, z3⟩); clear hb)
  clear HB HL x2
  go_loopw [33] (fun x wr => ∃ i : Nat, i ≤ n ∧ x = .int .i64 i ∧ LS w g q s first count wr) (fun x _ => n - (intOf x).toNat)
  case atStart => exact ⟨0, Nat.zero_le _, rfl, L1.out⟩
  case round =>
    obtain ⟨i, hi, rfl, hA⟩ := hrel
    have HA := hidden hA
    obtain ⟨wo, hwo⟩ : ∃ wo, wo = wr := ⟨_, rfl⟩
    subst hwo
    clear hA L1
    by_cases hin : i < n
    · obtain ⟨ob, oo, rfl, hcs⟩ := HO.out (by omega)
      obtain ⟨p, hp⟩ : ∃ p, f i = p := ⟨_, rfl⟩
      have z := hcs i hin
      rw [hp] at z
      obtain ⟨hok, z0, z1, z2, z3⟩ := z
      have e0 := HA.out.same.cell (fun h => h) z0
      have e1 := HA.out.same.cell (fun h => h) z1
      have e2 := HA.out.same.cell (fun h => h) z2
      have e3 := HA.out.same.cell (fun h => h) z3
      obtain ⟨u, v, res, hP⟩ := HA.out.pr
      have HD := hidden (fun W (k : Same wo W) => does_any p hok W (hP.keep k))
      clear hcs z0 z1 z2 z3 hp hok hP
      have t1 : (i : Int) < (n : Int) := by omega
      have t0 : (0 : Int) ≤ (i : Int) := Int.natCast_nonneg _
      obtain ⟨kd, nn, af, ac⟩ := p
      dsimp only at e0 e1 e2 e3 HD
      go_wp2_with (go_at_call 11; refine (HD.out _ (same_alloc _ _)).mono ?_; rintro e w3 ⟨rfl, d3⟩; have L3 := hidden ((HA.out.keep (same_alloc wo _)).next (by omega) (by omega) (by omega) d3); clear d3)
      go_roundw
      case rel => exact ⟨i + 1, by omega, by go_num, L3.out⟩
      case measure => simp [intOf]; omega
    · have he : i = n := by omega
      subst he
      have y5 : ¬ (i : Int) < (i : Int) := by omega
      obtain ⟨u, v, res, hP⟩ := HA.out.pr
      have hfit := hP.pl.fits
      have R0 : Hid (RS w g first count u v res wo) := ⟨hP.sp, hP.tab, HA.out.same⟩
      by_cases hm0 : m < 0
      · have HR := hidden (sp_resArg g first count u v res m wo hP.sp hm0)
        clear hP
        go_wp2_with (go_at_call 19; refine (HR.out).mono ?_; rintro e w4 ⟨rfl, rfl⟩)
        go_returns
        exact ⟨by simp, HA.out.same⟩
      by_cases hmL : leftZ count u v res < m
      · have HR := hidden (sp_resFull g first count u v res m wo hP.sp (by omega) hmL)
        have HF := hidden (fun W (k : Same wo W) => rf_left q s first count u v res W (hP.rf.kept k (fun h => h) (fun h => h)) hP.pl)
        clear hP
        generalize leftZ count u v res = Lz at *
        go_wp2_with (first
          | (go_at_call 19; refine (HR.out).mono ?_; rintro e w4 ⟨rfl, k4⟩; have K4 := hidden k4; clear k4)
          | (go_at_call 26; refine (HF.out _ K4.out).mono ?_; rintro e w5 ⟨rfl, nn, rfl⟩; have K5 := hidden (K4.out.trans ((Kept.refl _ _).drewN nn))))
        go_returns
        exact ⟨by simp, HA.out.same.trans K5.out⟩
      obtain ⟨mm, rfl⟩ := Int.eq_ofNat_of_zero_le (show 0 ≤ m by omega)
      have HR := hidden (sp_resOk g first count u v res (mm : Int) wo hP.sp (by omega) hmL)
      have hle := left_le count u v res
      obtain ⟨rs, hrs⟩ : ∃ rs, rs = res + mm := ⟨_, rfl⟩
      have hL1 : leftZ count u v rs = leftZ count u v res - mm := by rw [hrs]; unfold leftZ; omega
      have hL2 : ∀ u', leftZ count u' v rs = leftZ count u' v res - mm := fun u' => by rw [hrs]; unfold leftZ; omega
      have HL2 := hidden hL2
      have hge : 0 ≤ leftZ count u v rs := by omega
      have hrs2 : rs - mm = res := by omega
      have hrs3 : mm ≤ rs := by omega
      have hrs4 : rs ≤ 4096 := by omega
      have HRS2 := hidden hrs2
      have HGE := hidden hge
      have hmm : mm ≤ 4096 := by omega
      have e1 : res + ((mm : Int)).toNat = rs := by rw [hrs]; simp
      rw [e1] at HR
      obtain ⟨M, hM⟩ := left_meas g first count v rs
      have HM := hidden hM
      clear hP hL1 hL2 hge hrs2 e1 hM hrs hle hmL HA
      go_wp2_with (go_at_call 19; refine (HR.out).mono ?_; rintro e w4 ⟨rfl, s4, k4⟩; have R4 := hidden (R0.out.next (by omega) lT s4 k4); clear s4 k4)
      clear R0 HR
      go_loopw [] (fun wr => ∃ u, RS w g first count u v rs wr ∧ 0 ≤ leftZ count u v rs) (fun wr => M wr)
      case atStart => exact ⟨u, R4.out, HGE.out⟩
      case round =>
        obtain ⟨u2, hR2, hg2⟩ := hrel
        obtain ⟨wp, hwp⟩ : ∃ wp, wp = wr := ⟨_, rfl⟩
        subst hwp
        have R2 := hidden hR2
        have CL := hidden (sp_leftS g first count u2 v rs wp hR2.sp)
        clear hR2 R4 HGE
        by_cases hpos : 1 ≤ leftZ count u2 v rs
        · have CT := hidden (fun W (k : Same wp W) => sp_take1 g first count u2 v rs W (R2.out.keep k).sp (R2.out.keep k).tab hpos)
          obtain ⟨Lz, hLz⟩ : ∃ Lz, leftZ count u2 v rs = Lz := ⟨_, rfl⟩
          rw [hLz] at CL hpos
          have HLz := hidden hLz
          clear hLz hg2
          have q0 : (0 : Int) < Lz := by omega
          go_wp2_with (first
            | (go_at_call 25; refine (CL.out).mono ?_; rintro e w5 ⟨rfl, k5⟩; have K5 := hidden k5; clear k5)
            | (go_at_call 15; refine (CT.out _ K5.out).mono ?_; rintro e w6 ⟨u6, kk, rfl, s6, l6, k6⟩; have R6 := hidden ((R2.out.keep K5.out).next (by omega) lT s6 k6); have L6 := hidden l6; clear s6 k6 l6))
          go_roundw
          case rel =>
            have h1 := L6.out
            have h2 := HLz.out
            exact ⟨u6, R6.out, by omega⟩
          case measure =>
            have h1 := L6.out
            have h2 := HLz.out
            rw [HM.out u6 _ R6.out.sp, HM.out u2 _ R2.out.sp]
            omega
        · have hz : leftZ count u2 v rs = 0 := by omega
          have CF := hidden (fun W (k : Same wp W) => sp_takeFull g first count u2 v rs 1 W (R2.out.keep k).sp (by omega) (by rw [hz]; omega))
          have CR := hidden (fun W (k : Same wp W) => sp_relOk g first count u2 v rs (mm : Int) W (R2.out.keep k).sp (by omega) (by omega))
          have e2 : rs - ((mm : Int)).toNat = res := by rw [Int.toNat_natCast]; exact HRS2.out
          rw [e2] at CR
          rw [hz] at CL
          have HZ := hidden hz
          have hzr : leftZ count u2 v res = mm := by have h1 := HL2.out u2; have h2 := HZ.out; omega
          have CL2 := hidden (fun W (k : SpAt g first count u2 v res W) => sp_leftS g first count u2 v res W k)
          rw [hzr] at CL2
          have HZR := hidden hzr
          clear hz hzr e2 hpos hg2
          go_wp2_with (first
            | (go_at_call 25; have _t := CL; refine (CL.out).mono ?_; rintro e w5 ⟨rfl, k5⟩; have K5 := hidden k5; clear k5 CL)
            | (go_at_call 15; refine (CF.out _ K5.out).mono ?_; rintro e w6 ⟨rfl, k6⟩; have K6 := hidden (K5.out.trans k6); clear k6)
            | (go_at_call 20; refine (CR.out _ K6.out).mono ?_; rintro e w7 ⟨rfl, s7, k7⟩; have R7 := hidden ((R2.out.keep K6.out).next (by omega) lT s7 k7); clear s7 k7)
            | (go_at_call 25; refine (CL2.out _ R7.out.sp).mono ?_; rintro e w8 ⟨rfl, k8⟩; have R8 := hidden (R7.out.keep k8); clear k8))
          clear CF CR CL2 R7 R2
          go_loopw [14] (fun x wr => ∃ (j : Nat) (u : Nat → Bool), j ≤ mm ∧ x = .int .i64 j ∧ RS w g first count u v res wr ∧ leftZ count u v res = (mm : Int) - j) (fun x _ => mm - (intOf x).toNat)
          case atStart => exact ⟨0, u2, Nat.zero_le _, rfl, R8.out, by rw [HZR.out]; simp⟩
          case round =>
            obtain ⟨j, u3, hj, rfl, hR3, hl3⟩ := hrel
            obtain ⟨wq, hwq⟩ : ∃ wq, wq = wr := ⟨_, rfl⟩
            subst hwq
            have R3 := hidden hR3
            have HL3 := hidden hl3
            clear hR3 R8
            by_cases hlt : j < mm
            · have CT := hidden (sp_take1 g first count u3 v res wq R3.out.sp R3.out.tab (by omega))
              have q1 : (j : Int) < (mm : Int) := by omega
              clear hl3
              go_wp2_with (go_at_call 15; refine (CT.out).mono ?_; rintro e w9 ⟨u9, kk, rfl, s9, l9, k9⟩; have R9 := hidden (R3.out.next (by omega) lT s9 k9); have L9 := hidden l9; clear s9 k9 l9)
              go_roundw
              case rel =>
                have h1 := L9.out
                have h2 := HL3.out
                exact ⟨j + 1, u9, by omega, by go_num, R9.out, by omega⟩
              case measure => simp [intOf]; omega
            · have he : j = mm := by omega
              subst he
              have q1 : ¬ (j : Int) < (j : Int) := by omega
              have hz3 : leftZ count u3 v res = 0 := by omega
              have CL3 := hidden (sp_leftS g first count u3 v res wq R3.out.sp)
              rw [hz3] at CL3
              clear hl3 hz3
              go_wp2_with (go_at_call 25; refine (CL3.out).mono ?_; rintro e w9 ⟨rfl, k9⟩; have R9 := hidden (R3.out.keep k9); clear k9)
              go_returns
              exact ⟨by simp, R9.out.same⟩
end Go.Proofs.YtbmbdidmbdanmaaDoor
