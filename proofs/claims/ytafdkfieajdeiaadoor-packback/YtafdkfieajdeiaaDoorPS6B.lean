/- pack: the document's Scan, another count. -/
import Derived.Test.YtafdkfieajdeiaaDoorPS6
import Derived.Test.YtafdkfieajdeiaaDoorQuietS
namespace Go.Proofs.YtafdkfieajdeiaaDoor
open Go.RowKit
set_option linter.unusedVariables false
set_option linter.unusedSimpArgs false
set_option maxHeartbeats 8000000 in
set_option maxRecDepth 100000 in
theorem refScan_B (s c : Nat) (b : List UInt8) (ao : Option Addr) (n cap : Nat) (w : World) (hb : Bt w (.slice ao n cap) b) (hm : PMay s c) (hn : n = s * c) (gA : b.take 4 = dpak) (gC : ¬ num ((b.drop 8).take 4) = c) :
    Calls Tryd.prog 26 #[.int .i64 (s : Nat), .int .i64 (c : Nat), .slice ao n cap] w fun e w' => ∃ u, e = .returned u ∧ ScQ s c b w u w' := by
  obtain ⟨i0, hi, hz0, hz1, hz2⟩ := info_parts infoSlot
  have hl : b.length = n := hb.len.1.symm
  have hm' := hm
  obtain ⟨hps, h2, h3⟩ := hm'
  have hps' := hps
  obtain ⟨h4, h5, _⟩ := hps'
  have hn0 : 512 ≤ n := by rw [hn]; exact Nat.le_trans (by omega) (Nat.mul_le_mul (show 512 ≤ s by omega) (show 1 ≤ c by omega))
  have hn1 : n ≤ 262144 := by rw [hn]; exact Nat.mul_le_mul (show s ≤ 4096 by omega) (show c ≤ 64 by omega)
  have hsc : (s : Int) * (c : Int) = (n : Int) := by rw [hn]; simp
  have hcond : PMay s c ∧ (b.length : Int) = (s : Int) * (c : Int) := ⟨hm, by rw [hsc, hl]⟩
  have HM := hidden (fun W => power_any (s : Int) W)
  rw [decide_eq_true hps] at HM
  have hc1 : ¬ (c : Int) < 1 := by omega
  have hc2 : ¬ (64 : Int) < (c : Int) := by omega
  have hw : IntKind.i64.wrap ((s : Int) * (c : Int)) = (n : Int) := by rw [hsc, IntKind.wrap_i64]; omega
  have q1 : ((n : Int) != (n : Int)) = false := by simp
  obtain ⟨p4, hsl4, hb4⟩ := hb.head (j := 4) (by omega) 4 rfl
  obtain ⟨p12, hsl12, hb12⟩ := hb.head (j := 12) (by omega) 12 rfl
  obtain ⟨p8, hsl8, hb8⟩ := hb.sub (i := 8) (j := 12) (by omega) (by omega) 8 12 rfl rfl
  obtain ⟨p16, hsl16, hb16⟩ := hb.sub (i := 12) (j := 16) (by omega) (by omega) 12 16 rfl rfl
  obtain ⟨pi, hsli, hbi⟩ := hb.sub (i := 4) (j := 8) (by omega) (by omega) 4 8 rfl rfl
  obtain ⟨pz, hslz, hbz⟩ := hb.tail (i := n - 16) (by omega) ((n : Int) - 16) (by omega)
  have e84 : (12 - 8 : Nat) = 4 := rfl
  have e164 : (16 - 12 : Nat) = 4 := rfl
  have ei4 : (8 - 4 : Nat) = 4 := rfl
  rw [e84] at hsl8 hb8
  rw [e164] at hsl16 hb16
  rw [ei4] at hsli hbi
  rw [show n - (n - 16) = 16 by omega] at hslz hbz
  rw [take_drop_sub b 8 12 (by decide)] at hb8
  rw [take_drop_sub b 4 8 (by decide)] at hbi
  rw [e84] at hb8
  rw [ei4] at hbi
  have HN := hidden (fun W (k : Same w W) => number_any _ _ W (hb8 W k) (by rw [List.length_take]; omega))
  have HNi := hidden (fun W (k : Same w W) => number_any _ _ W (hbi W k) (by rw [List.length_take]; omega))
  have hidE : num ((b.drop 4).take 4) = scId b := rfl
  rw [hidE] at HNi
  have HSm : Hid (∀ W, Same w W → Calls Tryd.prog 50 #[.slice p12 12 cap] W fun e w' => ∃ g, e = .returned (.slice (some ⟨g, 0, none⟩) 4 4) ∧ Bt w' (.slice (some ⟨g, 0, none⟩) 4 4) (be 4 (crc (b.take 12))) ∧ Same W w') := hidden (fun W k => (sum_any _ _ W (hb12 W k) (by rw [List.length_take]; omega)).mono (fun e w' ⟨g, h1, h2, _, _, h3⟩ => ⟨g, h1, h2, h3⟩))
  have hid4 : scId b < 4294967296 := by
    unfold scId
    have := num_lt ((b.drop 4).take 4)
    have hh : ((b.drop 4).take 4).length = 4 := by rw [List.length_take, List.length_drop]; omega
    rw [hh] at this
    exact this
  have hwi : IntKind.u32.wrap (scId b : Int) = (scId b : Int) := by rw [IntKind.wrap_u32']; omega
  have hwn : IntKind.i64.wrap ((n : Int) - 16) = ((n - 16 : Nat) : Int) := by rw [IntKind.wrap_i64]; omega
  have hwn2 : (n : Int) - 16 = ((n - 16 : Nat) : Int) := by omega
  rw [hwn2] at hslz
  have hbn : b.length - 16 = n - 16 := by rw [hl]
  have hhd := head_doc b (by omega) c (by omega)
  have hR : scR (s : Int) (c : Int) b = if b.take 16 = headB (scId b) c then (scId b, scL b, decide (b.drop (n - 16) = edgeB dfot (scL b).length (endL (scL b))), 0) else (0, [], false, 130) := by
    unfold scR
    rw [if_pos hcond, Int.toNat_natCast, hbn]
  have htA := fun W (k : Same w W) => (hb4 W k).text
  have HS16 := hidden (fun W (k : Same w W) => (hb16 W k).text)
  obtain ⟨hd, hhdE⟩ : ∃ x, (⟨(b.take 4).toArray⟩ : ByteArray) = x := ⟨_, rfl⟩
  have hdp : (⟨dpak.toArray⟩ : ByteArray).toList = [68, 80, 65, 75] := by rw [Lib.toList_data]; rfl
  have hA1 : (hd.toList == ([68, 80, 65, 75] : List UInt8)) = decide (b.take 4 = dpak) := by rw [← hhdE, ← hdp]; exact ba_beq _ dpak
  obtain ⟨SM, hSM⟩ : ∃ x, be 4 (crc (b.take 12)) = x := ⟨_, rfl⟩
  obtain ⟨sm, hSMe⟩ : ∃ x, (⟨SM.toArray⟩ : ByteArray) = x := ⟨_, rfl⟩
  obtain ⟨s16, hs16E⟩ : ∃ x, (⟨((b.take 16).drop 12).toArray⟩ : ByteArray) = x := ⟨_, rfl⟩
  have hS1 : (sm.toList == s16.toList) = decide (SM = (b.take 16).drop 12) := by rw [← hSMe, ← hs16E]; exact ba_beq _ _
  rw [hSM] at HSm hhd
  simp only [hhdE] at htA
  simp only [hs16E] at HS16
  have htA1 := htA w (Kept.refl _ _)
  have htA2 := htA w.drew ((Kept.refl _ _).drew)
  have hs161 := HS16.out w (Kept.refl _ _)
  have hs162 := HS16.out w.drew ((Kept.refl _ _).drew)
  obtain ⟨nc, hnc⟩ : ∃ x, ((num ((b.drop 8).take 4) : Nat) : Int) = x := ⟨_, rfl⟩
  rw [hnc] at HN
  have hncc : (num ((b.drop 8).take 4) = c) ↔ nc = (c : Int) := by rw [← hnc]; omega
  rw [hncc] at hhd
  have hA := gA
  have hC : ¬ nc = (c : Int) := fun e => gC (hncc.2 e)
  clear gA gC
  have HHD := hidden hhd
  have HRs := hidden hR
  have HBb := hidden hb
  have HLb := hidden hl
  have HSZ := hidden (show 512 ≤ n ∧ n ≤ 262144 from ⟨hn0, hn1⟩)
  have HTZ := hidden (fun W (k : Same w W) => (hbz W k).text)
  clear hcond hm hn hsc hb hb4 hb12 hb8 hb16 hbi hbz hhd hR hhdE hs16E hSM hbn hnc hncc hl hid4 hps h2 h3 h4 h5 e84 e164 ei4 hn0 hn1 hidE
  have lA := fun V : Later w => htA V.world V.kept
  have HNL := hidden (fun V : Later w => later_calls (v := .int .i64 nc) V ((HN.out V.world V.kept).mono (fun e w' ⟨h1, h2⟩ => ⟨h1, h2 ▸ Kept.refl _ _⟩)))
  clear htA
  rw [decide_eq_true hA] at hA1
  have qc : (nc != (c : Int)) = true := by simpa using hC
  have qc2 : (nc == (c : Int)) = false := by simpa using hC
  have hR := HRs.out
  rw [if_neg (fun h => hC (HHD.out.1 h).2.1)] at hR
  have HRR := hidden (show ∀ W, Same w W → ∃ x, Ending.returned (.tuple #[.int .u32 0, .slice none 0 0, .bool false, .int .i64 130]) = .returned x ∧ ScQ s c b w x W from fun W k => ⟨_, rfl, ⟨_, by rw [hR]; rfl, by rw [hR]; exact SlM.nil _, k⟩⟩)
  clear hR HHD HRs hA
  go_enter Tryd.func26, Tryd.ntmps26
  go_wp2_with (go_at_call 37; refine (HM.out _).mono ?_; rintro e w1' ⟨rfl, rfl⟩)
  refine region_later (by kernel_rfl) (by kernel_rfl) ?_
  repeat (go_big_quiet_step ((go_at_call 57; exact HNL.out _)))
  refine wpQuiet_nil ?_
  rintro V ⟨LV, hE⟩
  have hV : Hid (Same w V) := hidden (by rw [hE]; exact LV.kept)
  clear hE LV lA
  go_wp2
  go_returns
  exact HRR.out _ hV.out
end Go.Proofs.YtafdkfieajdeiaaDoor
