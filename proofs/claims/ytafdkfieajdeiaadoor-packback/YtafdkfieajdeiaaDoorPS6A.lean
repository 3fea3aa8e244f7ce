/- pack: the document's Scan, where the head is right but for its sum. -/
import Derived.Test.YtafdkfieajdeiaaDoorPS6
import Derived.Test.YtafdkfieajdeiaaDoorQuietS
namespace Go.Proofs.YtafdkfieajdeiaaDoor
open Go.RowKit
set_option linter.unusedVariables false
set_option linter.unusedSimpArgs false
set_option maxHeartbeats 8000000 in
set_option maxRecDepth 100000 in
theorem refScan_A (s c : Nat) (b : List UInt8) (ao : Option Addr) (n cap : Nat) (w : World) (hb : Bt w (.slice ao n cap) b) (hm : PMay s c) (hn : n = s * c) (gA : b.take 4 = dpak) (gC : num ((b.drop 8).take 4) = c) :
    Calls Tryd.prog 26 #[.int .i64 (s : Nat), .int .i64 (c : Nat), .slice ao n cap] w fun e w' => ∃ u, e = .returned u ∧ ScQ s c b w u w' := by
  obtain ⟨i0, hi, hz0, hz1, hz2⟩ := info_parts infoSlot
  have hl : b.length = n := hb.len.1.symm
  have hm' := hm
  obtain ⟨hps, h2, h3⟩ := hm'
  have hps' := hps
  obtain ⟨h4, h5, _⟩ := hps'
  have hn0 : 512 ≤ n := by rw [hn]; exact Nat.le_trans (by omega) (Nat.mul_le_mul (show 512 ≤ s by omega) (show 1 ≤ c by omega))
  have hn1 : n ≤ 262144 := by rw [hn]; exact Nat.mul_le_mul (show s ≤ 4096 by omega) (show c ≤ 64 by omega)
  have hsc : (s : Int) * (c : Int) = (n : Int) := by rw [hn]; simp
  have hcond : PMay s c ∧ (b.length : Int) = (s : Int) * (c : Int) := ⟨hm, by rw [hsc, hl]⟩
  have HM := hidden (fun W => power_any (s : Int) W)
  rw [decide_eq_true hps] at HM
  have hc1 : ¬ (c : Int) < 1 := by omega
  have hc2 : ¬ (64 : Int) < (c : Int) := by omega
  have hw : IntKind.i64.wrap ((s : Int) * (c : Int)) = (n : Int) := by rw [hsc, IntKind.wrap_i64]; omega
  have q1 : ((n : Int) != (n : Int)) = false := by simp
  obtain ⟨p4, hsl4, hb4⟩ := hb.head (j := 4) (by omega) 4 rfl
  obtain ⟨p12, hsl12, hb12⟩ := hb.head (j := 12) (by omega) 12 rfl
  obtain ⟨p8, hsl8, hb8⟩ := hb.sub (i := 8) (j := 12) (by omega) (by omega) 8 12 rfl rfl
  obtain ⟨p16, hsl16, hb16⟩ := hb.sub (i := 12) (j := 16) (by omega) (by omega) 12 16 rfl rfl
  obtain ⟨pi, hsli, hbi⟩ := hb.sub (i := 4) (j := 8) (by omega) (by omega) 4 8 rfl rfl
  obtain ⟨pz, hslz, hbz⟩ := hb.tail (i := n - 16) (by omega) ((n : Int) - 16) (by omega)
  have e84 : (12 - 8 : Nat) = 4 := rfl
  have e164 : (16 - 12 : Nat) = 4 := rfl
  have ei4 : (8 - 4 : Nat) = 4 := rfl
  rw [e84] at hsl8 hb8
  rw [e164] at hsl16 hb16
  rw [ei4] at hsli hbi
  rw [show n - (n - 16) = 16 by omega] at hslz hbz
  rw [take_drop_sub b 8 12 (by decide)] at hb8
  rw [take_drop_sub b 4 8 (by decide)] at hbi
  rw [e84] at hb8
  rw [ei4] at hbi
  have HN := hidden (fun W (k : Same w W) => number_any _ _ W (hb8 W k) (by rw [List.length_take]; omega))
  have HNi := hidden (fun W (k : Same w W) => number_any _ _ W (hbi W k) (by rw [List.length_take]; omega))
  have hidE : num ((b.drop 4).take 4) = scId b := rfl
  rw [hidE] at HNi
  have HSm : Hid (∀ W, Same w W → Calls Tryd.prog 50 #[.slice p12 12 cap] W fun e w' => ∃ g, e = .returned (.slice (some ⟨g, 0, none⟩) 4 4) ∧ Bt w' (.slice (some ⟨g, 0, none⟩) 4 4) (be 4 (crc (b.take 12))) ∧ Same W w') := hidden (fun W k => (sum_any _ _ W (hb12 W k) (by rw [List.length_take]; omega)).mono (fun e w' ⟨g, h1, h2, _, _, h3⟩ => ⟨g, h1, h2, h3⟩))
  have hid4 : scId b < 4294967296 := by
    unfold scId
    have := num_lt ((b.drop 4).take 4)
    have hh : ((b.drop 4).take 4).length = 4 := by rw [List.length_take, List.length_drop]; omega
    rw [hh] at this
    exact this
  have hwi : IntKind.u32.wrap (scId b : Int) = (scId b : Int) := by rw [IntKind.wrap_u32']; omega
  have hwn : IntKind.i64.wrap ((n : Int) - 16) = ((n - 16 : Nat) : Int) := by rw [IntKind.wrap_i64]; omega
  have hwn2 : (n : Int) - 16 = ((n - 16 : Nat) : Int) := by omega
  rw [hwn2] at hslz
  have hbn : b.length - 16 = n - 16 := by rw [hl]
  have hhd := head_doc b (by omega) c (by omega)
  have hR : scR (s : Int) (c : Int) b = if b.take 16 = headB (scId b) c then (scId b, scL b, decide (b.drop (n - 16) = edgeB dfot (scL b).length (endL (scL b))), 0) else (0, [], false, 130) := by
    unfold scR
    rw [if_pos hcond, Int.toNat_natCast, hbn]
  have htA := fun W (k : Same w W) => (hb4 W k).text
  have HS16 := hidden (fun W (k : Same w W) => (hb16 W k).text)
  obtain ⟨hd, hhdE⟩ : ∃ x, (⟨(b.take 4).toArray⟩ : ByteArray) = x := ⟨_, rfl⟩
  have hdp : (⟨dpak.toArray⟩ : ByteArray).toList = [68, 80, 65, 75] := by rw [Lib.toList_data]; rfl
  have hA1 : (hd.toList == ([68, 80, 65, 75] : List UInt8)) = decide (b.take 4 = dpak) := by rw [← hhdE, ← hdp]; exact ba_beq _ dpak
  obtain ⟨SM, hSM⟩ : ∃ x, be 4 (crc (b.take 12)) = x := ⟨_, rfl⟩
  obtain ⟨sm, hSMe⟩ : ∃ x, (⟨SM.toArray⟩ : ByteArray) = x := ⟨_, rfl⟩
  obtain ⟨s16, hs16E⟩ : ∃ x, (⟨((b.take 16).drop 12).toArray⟩ : ByteArray) = x := ⟨_, rfl⟩
  have hS1 : (sm.toList == s16.toList) = decide (SM = (b.take 16).drop 12) := by rw [← hSMe, ← hs16E]; exact ba_beq _ _
  rw [hSM] at HSm hhd
  simp only [hhdE] at htA
  simp only [hs16E] at HS16
  have htA1 := htA w (Kept.refl _ _)
  have htA2 := htA w.drew ((Kept.refl _ _).drew)
  have hs161 := HS16.out w (Kept.refl _ _)
  have hs162 := HS16.out w.drew ((Kept.refl _ _).drew)
  obtain ⟨nc, hnc⟩ : ∃ x, ((num ((b.drop 8).take 4) : Nat) : Int) = x := ⟨_, rfl⟩
  rw [hnc] at HN
  have hncc : (num ((b.drop 8).take 4) = c) ↔ nc = (c : Int) := by rw [← hnc]; omega
  rw [hncc] at hhd
  have hA := gA
  have hC := hncc.1 gC
  clear gA gC
  have HHD := hidden hhd
  have HRs := hidden hR
  have HBb := hidden hb
  have HLb := hidden hl
  have HSZ := hidden (show 512 ≤ n ∧ n ≤ 262144 from ⟨hn0, hn1⟩)
  have HTZ := hidden (fun W (k : Same w W) => (hbz W k).text)
  clear hcond hm hn hsc hb hb4 hb12 hb8 hb16 hbi hbz hhd hR hhdE hs16E hSM hbn hnc hncc hl hid4 hps h2 h3 h4 h5 e84 e164 ei4 hn0 hn1 hidE
  clear htA
  rw [decide_eq_true hA] at hA1
  have qc : (nc != (c : Int)) = false := by simp [hC]
  have qc2 : (nc == (c : Int)) = true := by simp [hC]
  obtain ⟨zS, hzS⟩ : ∃ z, decide (SM = (b.take 16).drop 12) = z := ⟨_, rfl⟩
  rw [hzS] at hS1
  have HzS := hidden hzS
  have HAh := hidden hA
  have HCh := hidden hC
  clear hA hC hzS
  go_enter Tryd.func26, Tryd.ntmps26
  go_wp2_with (go_at_call 37; refine (HM.out _).mono ?_; rintro e w1' ⟨rfl, rfl⟩)
  go_cut [54] from 34 to 53 (fun x wx => x = .bool (!zS) ∧ Same w wx)
  case first =>
    have tN : True := trivial
    go_region_law (first | (have _t := tN; clear tN; refine step_callw (by rfl) 57 #[.slice p8 4 (cap - 8)] (fun u W => u = .int .i64 nc ∧ w.drew = W) (by go_simp <;> rfl) ((HN.out _ ((Kept.refl _ _).drew)).mono (fun e w' ⟨h1, h2⟩ => ⟨_, h1, rfl, h2⟩)) ?_; rintro u y3 ⟨rfl, rfl⟩) | (refine step_callw (by rfl) 50 #[.slice p12 12 cap] (fun u W => ∃ g, u = .slice (some ⟨g, 0, none⟩) 4 4 ∧ Bt W (.slice (some ⟨g, 0, none⟩) 4 4) SM ∧ Same w.drew W) (by go_simp <;> rfl) ((HSm.out _ ((Kept.refl _ _).drew)).mono (fun e w' ⟨g, h1, h2, h3⟩ => ⟨_, h1, g, rfl, h2, h3⟩)) ?_; rintro u y4 ⟨gs, rfl, b4, k4⟩; have hsm := b4.text; rw [hSMe] at hsm; have hs16 := HS16.out y4 (((Kept.refl _ w).drew).trans k4); have K4 := hidden (((Kept.refl (fun _ => False) w).drew).trans k4); clear b4 k4))
    all_goals
      go_wp2_with fail
      go_meet
      case rel => exact ⟨rfl, K4.out⟩
  case rest =>
  cases zS
  rotate_left
  · have hR := HRs.out
    rw [if_pos (HHD.out.2 ⟨HAh.out, HCh.out, of_decide_eq_true HzS.out⟩)] at hR
    have HRf := hidden hR
    clear hR HHD HRs
    obtain ⟨rfl, hk0⟩ := hcut
    have K0 := hidden hk0
    clear hk0
    have hsz := HSZ.out
    have hll := HLb.out
    have hLl : (b.take (n - 16)).length = n - 16 := by rw [List.length_take]; omega
    have hLs : scL b = slotsA (b.take (n - 16)) := by unfold scL; rw [hll]
    have HST := hidden (SlI.start (L := b.take (n - 16)) (by omega))
    have HSL := hidden (fun W (k : Same w W) i (hi : i ≤ 262144) => slotR_any (.slice ao n cap) b i (n - 16) W (HBb.out.same k) (by omega) (by omega) (by omega))
    obtain ⟨id, hide⟩ : ∃ x, scId b = x := ⟨_, rfl⟩
    rw [hide] at HNi hwi HRf
    obtain ⟨fz, hfz⟩ : ∃ x, (⟨(b.drop (n - 16)).toArray⟩ : ByteArray) = x := ⟨_, rfl⟩
    simp only [hfz] at HTZ
    have HFZ : Hid (∀ l E, (fz.toList == (⟨(edgeB dfot l E).toArray⟩ : ByteArray).toList) = decide (b.drop (n - 16) = edgeB dfot l E)) := hidden (fun l E => by rw [← hfz]; exact ba_beq _ _)
    rw [hLs] at HRf
    have HLL := hidden hLl
    obtain ⟨L, hL⟩ : ∃ x, b.take (n - 16) = x := ⟨_, rfl⟩
    rw [hL] at HST HSL HRf HLL
    clear hide hfz hLs hLl hL
    obtain ⟨N, hN⟩ : ∃ x, ((n - 16 : Nat) : Int) = x := ⟨_, rfl⟩
    have HNN := hidden hN
    rw [hN] at hwn hwn2 hslz HSL
    clear hN
    go_wp2
    go_loopw [10, 11] (fun lv x wr => ∃ (pre : List (Nat × Nat)) (i : Nat) (a0 : Option Addr) (c0 : Nat), lv = .slice a0 pre.length c0 ∧ x = .int .i64 i ∧ wr.ownsRow w.heap.size 34 2 (.slice a0 pre.length c0) pre.length (slotCells pre) ∧ SlI L pre i ∧ Same w wr) (fun _ x _ => L.length + 1 - (intOf x).toNat)
    case atStart => exact ⟨[], 16, none, 0, rfl, rfl, World.ownsRow_nil _ _ _ _, HST.out, K0.out⟩
    case round =>
      obtain ⟨pre, i, a0, c0, rfl, rfl, ho, hi', hk⟩ := hrel
      have HO := hidden ho
      have HI := hidden hi'
      have HK := hidden hk
      have hlx := HLL.out
      have hfit := hi'.fit
      have hfew := hi'.few
      have HSo := hidden (HSL.out wr hk i (by omega))
      have w8 : IntKind.i64.wrap ((i : Int) + 8) = (i : Int) + 8 := by rw [IntKind.wrap_i64]; omega
      clear ho hi' hk K0 HST
      cases hs : slotOf L i with
      | none =>
        rw [hs] at HSo
        have hall := HI.out.none hs
        have hlast := HI.out.last
        have HFo := hidden (fun W => foot_any pre.length i (by omega) (by omega) W)
        have hsealed := HFZ.out pre.length i
        rw [hall, hlast] at HRf
        obtain ⟨sealed, hse⟩ : ∃ z, decide (b.drop (n - 16) = edgeB dfot pre.length i) = z := ⟨_, rfl⟩
        rw [hse] at HRf hsealed
        obtain ⟨FT, hFT⟩ : ∃ x, edgeB dfot pre.length i = x := ⟨_, rfl⟩
        rw [hFT] at HFo hsealed
        obtain ⟨ft, hft⟩ : ∃ x, (⟨FT.toArray⟩ : ByteArray) = x := ⟨_, rfl⟩
        rw [hft] at hsealed
        have HRR := hidden (show ∀ W, SlM W (.slice a0 pre.length c0) pre → Same w W → ∃ x, Ending.returned (.tuple #[.int .u32 (id : Nat), .slice a0 pre.length c0, .bool sealed, .int .i64 0]) = .returned x ∧ ScQ s c b w x W from fun W h k => ⟨_, rfl, ⟨_, by rw [HRf.out], by rw [HRf.out]; exact h, k⟩⟩)
        clear hall hlast hse hFT hfit hfew hlx hs
        go_wp2_with (go_at_call 58; refine (HSo.out).mono ?_; rintro e w2 hsp; obtain ⟨nn, rfl, _, k2⟩ := hsp.ex; have K2 := hidden (HK.out.trans k2); have O2 := hidden (own_kept HO.out k2 (fun _ _ h => h)); have tz1 := HTZ.out w2 K2.out; have tz2 := HTZ.out w2.drew K2.out.drew; clear hsp k2)
        have tM : True := trivial
        go_region_law (first
          | (have _t := tM; clear tM; refine step_call rfl 57 #[.slice pi 4 (cap - 4)] (fun u W => u = .int .i64 (id : Nat) ∧ w2.drew = W) (by go_simp <;> rfl) ((HNi.out _ K2.out.drew).mono (fun e w' ⟨h1, h2⟩ => ⟨_, h1, rfl, h2⟩)) ?_; rintro u y3 ⟨rfl, rfl⟩)
          | (refine step_call rfl 51 #[.int .i64 (pre.length : Nat), .int .i64 (i : Nat)] (fun u W => Bt W u FT ∧ Same w2.drew W) (by go_simp <;> rfl) ((HFo.out _).mono (fun e w' ⟨v, h1, h2, h3⟩ => ⟨v, h1, h2, h3⟩)) ?_; rintro u y4 ⟨bf, k4⟩; obtain ⟨fa, fc, hfe, _⟩ := bf.form; subst hfe; have tf := bf.text; rw [hft] at tf; have K4 := hidden (K2.out.drew.trans k4); have tz3 := HTZ.out y4 K4.out; have O4 := hidden (own_kept O2.out ((((Kept.refl (fun _ => False) w2).drew).trans k4)) (fun _ _ h => h)); clear bf k4))
        all_goals
          go_wp2
          go_returns
          exact HRR.out _ (SlM.own O4.out) K4.out
      | some q =>
        rw [hs] at HSo
        obtain ⟨e1, e2, e3⟩ := slotOf_some hs
        have HNX := hidden (HI.out.some hs)
        obtain ⟨q1', q2'⟩ := q
        simp only at e1 e2 e3 HNX
        have w9 : IntKind.i64.wrap ((i : Int) + 8 + (q2' : Int)) = (i : Int) + 8 + (q2' : Int) := by rw [IntKind.wrap_i64]; omega
        have HE1 := hidden e1
        have HE3 := hidden (show q1' + q2' ≤ L.length ∧ i < q1' + q2' from ⟨e3, by omega⟩)
        have hpl : (pre.length + 1) * 16 ≤ 140737488355328 := by omega
        clear hfit hfew hlx hs e1 e2 e3
        go_wp2_with (first
          | (go_at_call 58; refine (HSo.out).mono ?_; rintro e w2 hsp; obtain ⟨nn, rfl, hnn, k2⟩ := hsp.ex; obtain rfl := hnn (q1', q2') rfl; have K2 := hidden (HK.out.trans k2); have O2 := hidden (own_kept HO.out k2 (fun _ _ h => h)); clear hsp k2 hnn)
          | (at_builtin; refine wpList_append_where (P := Tryd.prog) rfl _ _ 47 rfl w.heap.size 34 i0 (.agg #[.int .i64 0, .int .i64 0]) 2 16 Tryd.underlying47 hi hz0 hz1 hz2 rfl (by decide) a0 pre.length c0 (slotCells pre) rfl (O2.out.alloc _) (some ⟨w2.heap.size, 0, none⟩) 1 1 [.int .i64 ((i : Int) + 8), .int .i64 (q2' : Nat)] rfl rfl (two_lies w2 _ _) (fun u hu => by simp at hu; rcases hu with rfl | rfl <;> rfl) (by unfold maxLen; omega) (by omega) (by have := K2.out.size; simp; omega) ?_; intro a' cap' w3 hown hgrow _; have O3 := hidden hown; have K3 := hidden (((K2.out.alloc _).grown hgrow (fun q e hk => by have := (O2.out.lt q e).1; omega) : Same w w3)); clear hown hgrow))
        go_roundw
        case rel =>
          refine ⟨_, _, _, _, _, _, _, _, _, _, _, _, _, _, _, _, _, _, _, _, _, _, _, _, ?_, rfl⟩
          refine ⟨pre ++ [(q1', q2')], q1' + q2', a', cap', by simp, by rw [HE1.out]; go_num, ?_, HNX.out, K3.out⟩
          have := O3.out
          have e : slotCells [(q1', q2')] = [.int .i64 ((i : Int) + 8), .int .i64 (q2' : Nat)] := by rw [HE1.out]; simp [slotCells]
          rw [List.length_append, List.length_singleton, slotCells_append, e]
          exact this
        case measure => have := HE3.out; have := HE1.out; simp [intOf]; omega
  · have hR := HRs.out
    rw [if_neg (fun h => absurd (HHD.out.1 h).2.2 (of_decide_eq_false HzS.out))] at hR
    have HRR := hidden (show ∀ W, Same w W → ∃ x, Ending.returned (.tuple #[.int .u32 0, .slice none 0 0, .bool false, .int .i64 130]) = .returned x ∧ ScQ s c b w x W from fun W k => ⟨_, rfl, ⟨_, by rw [hR]; rfl, by rw [hR]; exact SlM.nil _, k⟩⟩)
    clear hR HHD HRs
    obtain ⟨rfl, hk0⟩ := hcut
    have K0 := hidden hk0
    clear hk0
    go_wp2
    go_returns
    exact HRR.out _ K0.out
end Go.Proofs.YtafdkfieajdeiaaDoor
