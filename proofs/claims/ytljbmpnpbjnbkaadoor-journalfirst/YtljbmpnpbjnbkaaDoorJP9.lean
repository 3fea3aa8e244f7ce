/-
  JournalFirst (P7.5, P7.6), walked.
-/
import Derived.Test.YtljbmpnpbjnbkaaDoorJP8
import Derived.Test.YtljbmpnpbjnbkaaDoorJP4
import Derived.Test.YtljbmpnpbjnbkaaDoorJ6
import Derived.Deep.RegionHeld3
import Derived.Deep.RegionLaw
namespace Go.Proofs.YtljbmpnpbjnbkaaDoor
open Go.RowKit
set_option linter.unusedVariables false
set_option linter.unusedSimpArgs false
set_option maxHeartbeats 40000000 in
set_option maxRecDepth 100000 in
theorem jfirst_eq (size sectors : Int) (g : Nat) (v1 : Value) (n1 : Nat) (f1 : Nat → ByteArray) (v2 : Value) (n2 : Nat) (f2 : Nat → Int) (kk : Int) (w : World) (hs0 : -9223372036854775808 ≤ size) (hs1 : size ≤ 9223372036854775807) (ht0 : -9223372036854775808 ≤ sectors) (ht1 : sectors ≤ 9223372036854775807) (hg : g < 18446744073709551616) (hin1 : JStrs w v1 n1 f1) (hn1 : n1 ≤ 140737488351232) (hin2 : JInts w v2 n2 f2) (hn2 : n2 ≤ 140737488351232) (hk0 : -9223372036854775808 ≤ kk) (hk1 : kk ≤ 9223372036854775807) (hT : Tab w) :
    Calls Tryd.prog 5 #[.int .i64 size, .int .i64 sectors, .int .u64 g, v1, v2, .int .i64 kk, .int .u64 g] w fun e w' => e = .returned (.bool true) ∧ Same w w' := by
  have HT := hidden hT
  obtain ⟨va1, vc1, rfl, hin1⟩ := hin1
  obtain ⟨va2, vc2, rfl, hin2⟩ := hin2
  by_cases hM : JMay size sectors
  · obtain ⟨sz, rfl⟩ := Int.eq_ofNat_of_zero_le (show 0 ≤ size by have := hM.1.1; omega)
    obtain ⟨st, rfl⟩ := Int.eq_ofNat_of_zero_le (show 0 ≤ sectors by have := hM.2.1; omega)
    have HN := hidden (fun W => j_new sz st g W hM hg)
    have HD := hidden (fun W => newD_dl sz st g W hM)
    have HAg0 := hidden (Ag.new hM hg)
    have HI1 := hidden hin1
    have HI2 := hidden hin2
    have hz1 : 512 ≤ sz ∧ sz ≤ 4096 := ⟨by have := hM.1.1; omega, by have := hM.1.2.1; omega⟩
    have hz2 : 1 ≤ st ∧ st ≤ 4096 := ⟨by have := hM.2.1; omega, by have := hM.2.2; omega⟩
    obtain ⟨L, hL⟩ : ∃ L, L = st * sz := ⟨_, rfl⟩
    have hLb : L ≤ 16777216 := by rw [hL]; exact Nat.mul_le_mul hz2.2 hz1.2
    have hwm : IntKind.i64.wrap ((sz : Int) * (st : Int)) = (L : Int) := by
      rw [← Int.natCast_mul, Nat.mul_comm, ← hL, IntKind.wrap_i64]
      omega
    have hmk := fun W => make_bytes L (by omega) W
    have HLe := hidden hL
    have HMy := hidden hM
    clear hT hin1 hin2 hM hL
    go_enter Tryd.func5, Tryd.ntmps5
    go_wp2_with (first
      | (go_at_call 8; refine (j_lives _ HT.out).mono ?_; rintro e w1 ⟨rfl, k1⟩; have K1 := hidden k1; clear k1)
      | (go_at_call 9; refine (HN.out _).mono ?_; rintro e w2 ⟨rfl, j2, k2, r2⟩; have K2 := hidden (K1.out.trans k2); have J2 := hidden j2; have R2 := hidden r2; clear k2 j2 r2)
      | (go_at_call 10; refine (HD.out _).mono ?_; rintro e w3 ⟨rfl, d3, k3⟩; have K3 := hidden (K2.out.trans k3); have X3 := hidden (JX.new (B := w.heap.size) K1.out.size J2.out R2.out k3 d3); clear k3 d3))
    have Q3 := hidden (JQ.new (n := sz) (c := st) X3.out HLe.out)
    have K4 := hidden (K3.out.alloc (.cells (List.replicate L (U8 0)).toArray 5))
    rw [List.toArray_replicate] at Q3 K4
    obtain ⟨Bk, hBk⟩ : ∃ Bk : List (List UInt8), Bk = List.replicate st (List.replicate sz 0) := ⟨_, rfl⟩
    have HB : Hid (BK sz st g Bk) := hidden (by rw [hBk]; exact BK.new sz st g)
    rw [← hBk] at Q3
    clear hBk
    generalize w1.heap.size = gp at Q3 ⊢
    generalize w2.heap.size = gd at Q3 ⊢
    generalize w3.heap.size = q at Q3 ⊢
    generalize w3.alloc (.cells (Array.replicate L (U8 0)) 5) = wr at Q3 K4 ⊢
    clear X3 K3 J2 R2 K2 K1 HN HD hmk hwm
    have HQ := Q3
    have HK := K4
    obtain ⟨iS, hiS, sS0, sS1, sS2⟩ := info_parts infoSt
    obtain ⟨iI, hiI, sI0, sI1, sI2⟩ := info_parts infoJI
    obtain ⟨iC, hiC, sC0, sC1, sC2⟩ := info_parts infoSec
    have HQ1 := HQ
    have HK1 := HK
    go_loopw [21, 22, 23, 24] (fun lv ev sv v wr => ∃ (j : Nat) (s : JSt) (d : DSt) (rv : Value) (us : List Value) (laid : List (List UInt8)) (ends : List Nat) (ls : List (List UInt8)) (Y : Nat → Prop), v = .int .i64 j ∧ j ≤ n1 ∧ JQ w.heap.size gp gd q s d rv us lv laid ev ends sv ls Bk Y wr ∧ Ag d s ∧ JZ d laid ends ls ∧ (d.size = sz ∧ d.sectors = st ∧ d.gen = g) ∧ laid.length = s.recs ∧ Same w wr) (fun _ _ _ v _ => n1 - (intOf v).toNat)
    case atStart => exact ⟨0, _, _, _, _, [], [], [], _, rfl, Nat.zero_le _, HQ1.out, HAg0.out, JZ.new sz st g, ⟨rfl, rfl, rfl⟩, rfl, HK1.out⟩
    case round =>
      clear HQ HK HQ1 HK1 HAg0 Q3 K4
      obtain ⟨j, s, d, rv, us, laid, ends, ls, Y, rfl, hj, hQ2, hA, hZ, hdm, hrc, hK2⟩ := hrel
      obtain ⟨la, lc, hlv⟩ := own_form hQ2.m.lr
      subst hlv
      obtain ⟨ea, ec, hev⟩ := own_form hQ2.m.er
      subst hev
      obtain ⟨us9, _, hrow9, _⟩ := hQ2.m.sr
      obtain ⟨sa, sc, hsv⟩ := own_form hrow9
      subst hsv
      clear hrow9
      have HQ2 := hidden hQ2
      have HA := hidden hA
      have HZ := hidden hZ
      have HDm := hidden hdm
      have HRc := hidden hrc
      have HK2 := hidden hK2
      clear hQ2 hA hZ hdm hrc hK2
      by_cases h1 : j < n1
      · obtain ⟨b, off, hva, hcells⟩ := HI1.out (by omega)
        subst hva
        obtain ⟨hrl, c2⟩ := hcells j h1
        obtain ⟨rec, hrec⟩ : ∃ rec, rec = f1 j := ⟨_, rfl⟩
        rw [← hrec] at c2 hrl
        clear hrec hcells
        have q1 : (0 : Int) ≤ (j : Int) := Int.natCast_nonneg _
        have q2 : (j : Int) < (n1 : Int) := by omega
        have d2 : wr.cell? ⟨b, off + j, none⟩ = some (.string rec) := HK2.out.cell (fun h => h) c2
        have HC2 := hidden c2
        clear c2
        have hpa := fun W (h : JX w.heap.size gp gd s d rv us W) => h.pa rec hrl
        by_cases h0 : s.appErr rec.size = 0
        · rw [h0] at hpa
          have HPa := hidden hpa
          have h0' : s.appErr rec.data.toList.length = 0 := by rw [Array.length_toList]; exact h0
          have HDa := hidden (fun W (h : DL gd d W rv us) => appendD_yes h HA.out rec h0)
          have AX := hidden (HA.out.app rec.data.toList h0')
          have ZX0 := hidden (HZ.out.app HA.out rec.data.toList h0')
          obtain ⟨R6, hR6⟩ : ∃ R, R = (d.app rec.data.toList).rooms.length := ⟨_, rfl⟩
          have ZX : Hid (JZ (d.app rec.data.toList) (laid ++ [rec.data.toList]) (ends ++ [R6]) ls) := hidden (by rw [hR6]; exact ZX0.out)
          have HR6 := hidden hR6
          have hlb : laid.length ≤ 4194304 := by have := HRc.out; have := HA.out.ok.r; omega
          have heb : ends.length ≤ 4194304 := by have := HZ.out.el; omega
          have mb1 : Hid (laid.length + 1 ≤ maxLen) := hidden (by unfold maxLen; omega)
          have mb2 : Hid ((laid.length + 1) * 16 ≤ 140737488355328) := hidden (by omega)
          have mb3 : Hid (ends.length + 1 ≤ maxLen) := hidden (by unfold maxLen; omega)
          have mb4 : Hid ((ends.length + 1) * 8 ≤ 140737488355328) := hidden (by omega)
          have RX : Hid ((laid ++ [rec.data.toList]).length = (s.app rec.data.toList).recs) := hidden (by
            unfold JSt.app
            rw [if_pos h0', List.length_append, HRc.out]
            rfl)
          clear hpa h0 h0' hR6 ZX0
          by_cases hn2 : 0 < n2
          · obtain ⟨b2, off2, hva2, hc2⟩ := HI2.out hn2
            subst hva2
            obtain ⟨p, hp⟩ : ∃ p, p = j % n2 := ⟨_, rfl⟩
            have hpl : p < n2 := by rw [hp]; exact Nat.mod_lt _ hn2
            have er : (j : Int) % (n2 : Int) = (p : Int) := by rw [hp]; exact (Int.natCast_emod _ _).symm
            have HT2 := hidden (hc2 p hpl)
            obtain ⟨tv0, htv0⟩ : ∃ t, t = f2 p := ⟨_, rfl⟩
            rw [← htv0] at HT2
            have p0 : (0 : Int) ≤ (p : Int) := Int.natCast_nonneg _
            have p1 : (p : Int) < (n2 : Int) := by omega
            have p2 : (0 : Int) < (n2 : Int) := by omega
            have p3 : ¬ (n2 : Int) = 0 := by omega
            clear hc2 hp htv0
            by_cases hz : tv0 = 0
            · subst hz
              obtain ⟨M9, hM9⟩ : ∃ M, M = ((s.app rec.data.toList).secs (s.app rec.data.toList).many).length := ⟨_, rfl⟩
              have HM9 := hidden hM9.symm
              have hMb : M9 ≤ 4096 := by rw [hM9, JSt.secs_len]; have := AX.out.ok.many; have := AX.out.ok.n1; omega
              have hlsb : ls.length ≤ 4096 := by have := HZ.out.sl; have := HA.out.taken; have := HA.out.ok.t; have := HA.out.ok.n1; omega
              have ms1 : Hid (ls.length + M9 ≤ maxLen) := hidden (by unfold maxLen; omega)
              have ms2 : Hid ((ls.length + M9) * 32 ≤ 140737488355328) := hidden (by omega)
              have HS9 : Hid ((s.app rec.data.toList).taken = ls.length) := hidden (by have h1 := ZX.out.sl; have h2 := AX.out.taken; omega)
              clear hM9
              have HTk := hidden (fun W s1 (h : JW gp s1 W) (T : Tab W) => j_takeR h T)
              have HDt := hidden (fun W rv1 us1 (h : JX w.heap.size gp gd (s.app rec.data.toList).take (d.app rec.data.toList) rv1 us1 W) => h.bdt AX.out)
              go_wp2_with (first
                | (go_at_call 11; refine (HPa.out _ HQ2.out.x).mono ?_; rintro e w5 ⟨rfl, j5, t5⟩; obtain ⟨x5, k5⟩ := HQ2.out.bo (HQ2.out.x.bpstep j5 t5); have Q5 := hidden x5; have K5 := hidden (HK2.out.trans' k5 (fun _ hk hb => by omega)); have d5 : w5.cell? ⟨b, off + j, none⟩ = some (.string rec) := K5.out.cell (fun h => h) HC2.out; have tt5 : w5.cell? ⟨b2, off2 + p, none⟩ = some (.int .i64 0) := K5.out.cell (fun h => h) HT2.out; clear j5 t5 x5 k5)
                | (go_at_call 12; refine (HDa.out _ Q5.out.x.d).mono ?_; rintro e w6 ⟨rfl, ⟨rv6, us6, h61, h62⟩, k6⟩; obtain ⟨x6, k66⟩ := Q5.out.bo (Q5.out.x.bdstep h61 h62 k6); obtain ⟨ra6, rc6, hrv6⟩ := own_form h61.row; rw [← HR6.out] at hrv6; subst hrv6; have Q6 := hidden x6; have K6 := hidden (K5.out.trans' k66 (fun _ hk hb => by omega)); have d6 : w6.cell? ⟨b, off + j, none⟩ = some (.string rec) := K6.out.cell (fun h => h) HC2.out; have t6 : w6.cell? ⟨b2, off2 + p, none⟩ = some (.int .i64 0) := K6.out.cell (fun h => h) HT2.out; clear h61 h62 k6 x6 k66)
                | (at_builtin; (refine wpList_append_atP _ rfl _ _ 47 rfl w.heap.size 9 iS _ 1 16 Tryd.underlying47 hiS sS0 sS1 sS2 rfl (by decide) _ _ _ rfl (Q6.out.m.lr.alloc _) ⟨w6.heap.size, 0, none⟩ 1 1 _ rfl rfl (World.news_of_block (heap_alloc_new w6 _)) (by simp [Value.oneCell']) mb1.out mb2.out (by have := K6.out.size; simp; omega) ?_); intro v7 w7 ho7 hg7 hat7; obtain ⟨a7, c7, hv7⟩ := own_form ho7; subst hv7; obtain ⟨m7, k7⟩ := Q6.out.m.pushL (r := rec.data.toList) (same_alloc w6 _) hg7 (by rw [rec_eta]; exact ho7) hat7; obtain ⟨x7, k77⟩ := Q6.out.row (.inl rfl) m7 k7; have Q7 := hidden x7; have K7 := hidden (K6.out.trans' k77 (fun _ hk hb => by omega)); have hb7 := x7.x.d.box; have d7 : w7.cell? ⟨gd, 3, none⟩ = some (.slice ra6 R6 rc6) := blk_cell hb7; have t7 : w7.cell? ⟨b2, off2 + p, none⟩ = some (.int .i64 0) := K7.out.cell (fun h => h) HT2.out; clear ho7 hg7 hat7 m7 k7 x7 k77 hb7)
                | (at_builtin; (refine wpList_append_atP _ rfl _ _ 55 rfl w.heap.size 3 iI _ 1 8 Tryd.underlying55 hiI sI0 sI1 sI2 rfl (by decide) _ _ _ rfl (Q7.out.m.er.alloc _) ⟨w7.heap.size, 0, none⟩ 1 1 _ rfl rfl (World.news_of_block (heap_alloc_new w7 _)) (by simp [Value.oneCell']) mb3.out mb4.out (by have := K7.out.size; simp; omega) ?_); intro v8 w8 ho8 hg8 hat8; obtain ⟨a8, c8, hv8⟩ := own_form ho8; subst hv8; obtain ⟨m8, k8⟩ := Q7.out.m.pushE (m := R6) (same_alloc w7 _) hg8 ho8 hat8; obtain ⟨x8, k88⟩ := Q7.out.row (.inr (.inl rfl)) m8 k8; have Q8 := hidden x8; have K8 := hidden (K7.out.trans' k88 (fun _ hk hb => by omega)); have t8 : w8.cell? ⟨b2, off2 + p, none⟩ = some (.int .i64 0) := K8.out.cell (fun h => h) HT2.out; clear ho8 hg8 hat8 m8 k8 x8 k88)
                | (go_at_call 15; refine (HTk.out _ _ Q8.out.x.p (HT.out.same K8.out)).mono ?_; rintro e w9 ⟨tv, rfl, s9, j9, t9, r9⟩; have hN9 := hidden (Q8.out.x.take_low j9 r9); obtain ⟨x9, k9⟩ := Q8.out.bo (Q8.out.x.bpstep j9 t9); have Q9 := hidden x9; have K9 := hidden (K8.out.trans' k9 (fun _ hk hb => by omega)); obtain ⟨ta, tc, htv, _⟩ := s9.d; rw [HM9.out] at htv; subst htv; rw [HS9.out] at s9; obtain ⟨us9, o1, o2, o3, o4, o5⟩ := s9.open HM9.out.symm; obtain ⟨usl, l1, l2, l3⟩ := x9.m.sr; have hWB : Hid (w.heap.size ≤ w8.heap.size ∧ q < w8.heap.size) := hidden ⟨K8.out.size, blk_lt Q8.out.m.img⟩; have O1 := hidden o1; have O2 := hidden o2; have O3 := hidden o3; have O4 := hidden o4; have O5 := hidden o5; have L1 := hidden l1; have L2 := hidden l2; have L3 := hidden l3; clear s9 j9 t9 r9 x9 k9 o1 o2 o3 o4 o5 l1 l2 l3)
                | (at_builtin; (refine wpList_append_anyP _ rfl _ _ 36 rfl w.heap.size 41 iC _ 2 32 Tryd.underlying36 hiC sC0 sC1 sC2 rfl (by decide) _ _ _ _ rfl L2.out _ _ _ _ rfl O2.out O3.out O4.out ms1.out ms2.out (by have := K9.out.size; omega) ?_); intro v10 w10 ho10 hg10 hat10; obtain ⟨a10, c10, hv10⟩ := own_form ho10; subst hv10; obtain ⟨Y10, m10, k10⟩ := Q9.out.m.pushS (sv' := .slice a10 (ls.length + M9) c10) L1.out L2.out L3.out O1.out O5.out hWB.out.1 hWB.out.2 hN9.out hg10 (by rw [HM9.out]; exact ho10) (hat10.imp id (fun e k hk => by rw [e] at hk; cases hk; exact Nat.le_refl _)); obtain ⟨x10, k100⟩ := Q9.out.row (.inr (.inr rfl)) m10 k10; have Q10 := hidden x10; have K10 := hidden (K9.out.trans' k100 (fun _ hk hb => by omega)); clear ho10 hg10 hat10 m10 k10 x10 k100)
                | (go_at_call 16; refine (HDt.out _ _ _ Q10.out.x).mono ?_; rintro e w11 ⟨tb, rfl, o11⟩; obtain ⟨x11, k11⟩ := Q10.out.bo o11; have Q11 := hidden x11; have K11 := hidden (K10.out.trans' k11 (fun _ hk hb => by omega)); clear o11 x11 k11))
              go_roundw
              case rel => exact ⟨j + 1, _, _, _, _, (laid ++ [rec.data.toList]), (ends ++ [R6]), _, Y10, by go_num, by omega, Q11.out, AX.out.take, ZX.out.take AX.out, HDm.out, RX.out, K11.out⟩
              case measure => simp [intOf]; omega
            · have ez : (tv0 == 0) = false := by simpa using hz
              go_wp2_with (first
                | (go_at_call 11; refine (HPa.out _ HQ2.out.x).mono ?_; rintro e w5 ⟨rfl, j5, t5⟩; obtain ⟨x5, k5⟩ := HQ2.out.bo (HQ2.out.x.bpstep j5 t5); have Q5 := hidden x5; have K5 := hidden (HK2.out.trans' k5 (fun _ hk hb => by omega)); have d5 : w5.cell? ⟨b, off + j, none⟩ = some (.string rec) := K5.out.cell (fun h => h) HC2.out; have tt5 : w5.cell? ⟨b2, off2 + p, none⟩ = some (.int .i64 tv0) := K5.out.cell (fun h => h) HT2.out; clear j5 t5 x5 k5)
                | (go_at_call 12; refine (HDa.out _ Q5.out.x.d).mono ?_; rintro e w6 ⟨rfl, ⟨rv6, us6, h61, h62⟩, k6⟩; obtain ⟨x6, k66⟩ := Q5.out.bo (Q5.out.x.bdstep h61 h62 k6); obtain ⟨ra6, rc6, hrv6⟩ := own_form h61.row; rw [← HR6.out] at hrv6; subst hrv6; have Q6 := hidden x6; have K6 := hidden (K5.out.trans' k66 (fun _ hk hb => by omega)); have d6 : w6.cell? ⟨b, off + j, none⟩ = some (.string rec) := K6.out.cell (fun h => h) HC2.out; have t6 : w6.cell? ⟨b2, off2 + p, none⟩ = some (.int .i64 tv0) := K6.out.cell (fun h => h) HT2.out; clear h61 h62 k6 x6 k66)
                | (at_builtin; (refine wpList_append_atP _ rfl _ _ 47 rfl w.heap.size 9 iS _ 1 16 Tryd.underlying47 hiS sS0 sS1 sS2 rfl (by decide) _ _ _ rfl (Q6.out.m.lr.alloc _) ⟨w6.heap.size, 0, none⟩ 1 1 _ rfl rfl (World.news_of_block (heap_alloc_new w6 _)) (by simp [Value.oneCell']) mb1.out mb2.out (by have := K6.out.size; simp; omega) ?_); intro v7 w7 ho7 hg7 hat7; obtain ⟨a7, c7, hv7⟩ := own_form ho7; subst hv7; obtain ⟨m7, k7⟩ := Q6.out.m.pushL (r := rec.data.toList) (same_alloc w6 _) hg7 (by rw [rec_eta]; exact ho7) hat7; obtain ⟨x7, k77⟩ := Q6.out.row (.inl rfl) m7 k7; have Q7 := hidden x7; have K7 := hidden (K6.out.trans' k77 (fun _ hk hb => by omega)); have hb7 := x7.x.d.box; have d7 : w7.cell? ⟨gd, 3, none⟩ = some (.slice ra6 R6 rc6) := blk_cell hb7; have t7 : w7.cell? ⟨b2, off2 + p, none⟩ = some (.int .i64 tv0) := K7.out.cell (fun h => h) HT2.out; clear ho7 hg7 hat7 m7 k7 x7 k77 hb7)
                | (at_builtin; (refine wpList_append_atP _ rfl _ _ 55 rfl w.heap.size 3 iI _ 1 8 Tryd.underlying55 hiI sI0 sI1 sI2 rfl (by decide) _ _ _ rfl (Q7.out.m.er.alloc _) ⟨w7.heap.size, 0, none⟩ 1 1 _ rfl rfl (World.news_of_block (heap_alloc_new w7 _)) (by simp [Value.oneCell']) mb3.out mb4.out (by have := K7.out.size; simp; omega) ?_); intro v8 w8 ho8 hg8 hat8; obtain ⟨a8, c8, hv8⟩ := own_form ho8; subst hv8; obtain ⟨m8, k8⟩ := Q7.out.m.pushE (m := R6) (same_alloc w7 _) hg8 ho8 hat8; obtain ⟨x8, k88⟩ := Q7.out.row (.inr (.inl rfl)) m8 k8; have Q8 := hidden x8; have K8 := hidden (K7.out.trans' k88 (fun _ hk hb => by omega)); have t8 : w8.cell? ⟨b2, off2 + p, none⟩ = some (.int .i64 tv0) := K8.out.cell (fun h => h) HT2.out; clear ho8 hg8 hat8 m8 k8 x8 k88))
              go_roundw
              case rel => exact ⟨j + 1, _, _, _, _, (laid ++ [rec.data.toList]), (ends ++ [R6]), _, Y, by go_num, by omega, Q8.out, AX.out, ZX.out, HDm.out, RX.out, K8.out⟩
              case measure => simp [intOf]; omega
          · have p2 : ¬ (0 : Int) < (n2 : Int) := by omega
            go_wp2_with (first
              | (go_at_call 11; refine (HPa.out _ HQ2.out.x).mono ?_; rintro e w5 ⟨rfl, j5, t5⟩; obtain ⟨x5, k5⟩ := HQ2.out.bo (HQ2.out.x.bpstep j5 t5); have Q5 := hidden x5; have K5 := hidden (HK2.out.trans' k5 (fun _ hk hb => by omega)); have d5 : w5.cell? ⟨b, off + j, none⟩ = some (.string rec) := K5.out.cell (fun h => h) HC2.out; clear j5 t5 x5 k5)
              | (go_at_call 12; refine (HDa.out _ Q5.out.x.d).mono ?_; rintro e w6 ⟨rfl, ⟨rv6, us6, h61, h62⟩, k6⟩; obtain ⟨x6, k66⟩ := Q5.out.bo (Q5.out.x.bdstep h61 h62 k6); obtain ⟨ra6, rc6, hrv6⟩ := own_form h61.row; rw [← HR6.out] at hrv6; subst hrv6; have Q6 := hidden x6; have K6 := hidden (K5.out.trans' k66 (fun _ hk hb => by omega)); have d6 : w6.cell? ⟨b, off + j, none⟩ = some (.string rec) := K6.out.cell (fun h => h) HC2.out; clear h61 h62 k6 x6 k66)
              | (at_builtin; (refine wpList_append_atP _ rfl _ _ 47 rfl w.heap.size 9 iS _ 1 16 Tryd.underlying47 hiS sS0 sS1 sS2 rfl (by decide) _ _ _ rfl (Q6.out.m.lr.alloc _) ⟨w6.heap.size, 0, none⟩ 1 1 _ rfl rfl (World.news_of_block (heap_alloc_new w6 _)) (by simp [Value.oneCell']) mb1.out mb2.out (by have := K6.out.size; simp; omega) ?_); intro v7 w7 ho7 hg7 hat7; obtain ⟨a7, c7, hv7⟩ := own_form ho7; subst hv7; obtain ⟨m7, k7⟩ := Q6.out.m.pushL (r := rec.data.toList) (same_alloc w6 _) hg7 (by rw [rec_eta]; exact ho7) hat7; obtain ⟨x7, k77⟩ := Q6.out.row (.inl rfl) m7 k7; have Q7 := hidden x7; have K7 := hidden (K6.out.trans' k77 (fun _ hk hb => by omega)); have hb7 := x7.x.d.box; have d7 : w7.cell? ⟨gd, 3, none⟩ = some (.slice ra6 R6 rc6) := blk_cell hb7; clear ho7 hg7 hat7 m7 k7 x7 k77 hb7)
              | (at_builtin; (refine wpList_append_atP _ rfl _ _ 55 rfl w.heap.size 3 iI _ 1 8 Tryd.underlying55 hiI sI0 sI1 sI2 rfl (by decide) _ _ _ rfl (Q7.out.m.er.alloc _) ⟨w7.heap.size, 0, none⟩ 1 1 _ rfl rfl (World.news_of_block (heap_alloc_new w7 _)) (by simp [Value.oneCell']) mb3.out mb4.out (by have := K7.out.size; simp; omega) ?_); intro v8 w8 ho8 hg8 hat8; obtain ⟨a8, c8, hv8⟩ := own_form ho8; subst hv8; obtain ⟨m8, k8⟩ := Q7.out.m.pushE (m := R6) (same_alloc w7 _) hg8 ho8 hat8; obtain ⟨x8, k88⟩ := Q7.out.row (.inr (.inl rfl)) m8 k8; have Q8 := hidden x8; have K8 := hidden (K7.out.trans' k88 (fun _ hk hb => by omega)); clear ho8 hg8 hat8 m8 k8 x8 k88))
            go_roundw
            case rel => exact ⟨j + 1, _, _, _, _, (laid ++ [rec.data.toList]), (ends ++ [R6]), _, Y, by go_num, by omega, Q8.out, AX.out, ZX.out, HDm.out, RX.out, K8.out⟩
            case measure => simp [intOf]; omega
        · obtain ⟨er0, her⟩ : ∃ er, er = s.appErr rec.size := ⟨_, rfl⟩
          have happ : s.app rec.data.toList = s := by
            unfold JSt.app
            rw [if_neg (show ¬ s.appErr rec.data.toList.length = 0 by rw [Array.length_toList]; exact h0)]
          rw [happ, ← her] at hpa
          have HPa := hidden hpa
          have e0 : (er0 == 0) = false := by simpa [her] using h0
          have AX := HA
          have ZX := HZ
          have RX := HRc
          clear hpa h0 her happ
          by_cases hn2 : 0 < n2
          · obtain ⟨b2, off2, hva2, hc2⟩ := HI2.out hn2
            subst hva2
            obtain ⟨p, hp⟩ : ∃ p, p = j % n2 := ⟨_, rfl⟩
            have hpl : p < n2 := by rw [hp]; exact Nat.mod_lt _ hn2
            have er : (j : Int) % (n2 : Int) = (p : Int) := by rw [hp]; exact (Int.natCast_emod _ _).symm
            have HT2 := hidden (hc2 p hpl)
            obtain ⟨tv0, htv0⟩ : ∃ t, t = f2 p := ⟨_, rfl⟩
            rw [← htv0] at HT2
            have p0 : (0 : Int) ≤ (p : Int) := Int.natCast_nonneg _
            have p1 : (p : Int) < (n2 : Int) := by omega
            have p2 : (0 : Int) < (n2 : Int) := by omega
            have p3 : ¬ (n2 : Int) = 0 := by omega
            clear hc2 hp htv0
            by_cases hz : tv0 = 0
            · subst hz
              obtain ⟨M9, hM9⟩ : ∃ M, M = (s.secs s.many).length := ⟨_, rfl⟩
              have HM9 := hidden hM9.symm
              have hMb : M9 ≤ 4096 := by rw [hM9, JSt.secs_len]; have := AX.out.ok.many; have := AX.out.ok.n1; omega
              have hlsb : ls.length ≤ 4096 := by have := HZ.out.sl; have := HA.out.taken; have := HA.out.ok.t; have := HA.out.ok.n1; omega
              have ms1 : Hid (ls.length + M9 ≤ maxLen) := hidden (by unfold maxLen; omega)
              have ms2 : Hid ((ls.length + M9) * 32 ≤ 140737488355328) := hidden (by omega)
              have HS9 : Hid (s.taken = ls.length) := hidden (by have h1 := ZX.out.sl; have h2 := AX.out.taken; omega)
              clear hM9
              have HTk := hidden (fun W s1 (h : JW gp s1 W) (T : Tab W) => j_takeR h T)
              have HDt := hidden (fun W rv1 us1 (h : JX w.heap.size gp gd s.take d rv1 us1 W) => h.bdt AX.out)
              go_wp2_with (first
                | (go_at_call 11; refine (HPa.out _ HQ2.out.x).mono ?_; rintro e w5 ⟨rfl, j5, t5⟩; obtain ⟨x5, k5⟩ := HQ2.out.bo (HQ2.out.x.bpstep j5 t5); have Q5 := hidden x5; have K5 := hidden (HK2.out.trans' k5 (fun _ hk hb => by omega)); have d5 : w5.cell? ⟨b, off + j, none⟩ = some (.string rec) := K5.out.cell (fun h => h) HC2.out; have tt5 : w5.cell? ⟨b2, off2 + p, none⟩ = some (.int .i64 0) := K5.out.cell (fun h => h) HT2.out; clear j5 t5 x5 k5)
                | (go_at_call 15; refine (HTk.out _ _ Q5.out.x.p (HT.out.same K5.out)).mono ?_; rintro e w9 ⟨tv, rfl, s9, j9, t9, r9⟩; have hN9 := hidden (Q5.out.x.take_low j9 r9); obtain ⟨x9, k9⟩ := Q5.out.bo (Q5.out.x.bpstep j9 t9); have Q9 := hidden x9; have K9 := hidden (K5.out.trans' k9 (fun _ hk hb => by omega)); obtain ⟨ta, tc, htv, _⟩ := s9.d; rw [HM9.out] at htv; subst htv; rw [HS9.out] at s9; obtain ⟨us9, o1, o2, o3, o4, o5⟩ := s9.open HM9.out.symm; obtain ⟨usl, l1, l2, l3⟩ := x9.m.sr; have hWB : Hid (w.heap.size ≤ w5.heap.size ∧ q < w5.heap.size) := hidden ⟨K5.out.size, blk_lt Q5.out.m.img⟩; have O1 := hidden o1; have O2 := hidden o2; have O3 := hidden o3; have O4 := hidden o4; have O5 := hidden o5; have L1 := hidden l1; have L2 := hidden l2; have L3 := hidden l3; clear s9 j9 t9 r9 x9 k9 o1 o2 o3 o4 o5 l1 l2 l3)
                | (at_builtin; (refine wpList_append_anyP _ rfl _ _ 36 rfl w.heap.size 41 iC _ 2 32 Tryd.underlying36 hiC sC0 sC1 sC2 rfl (by decide) _ _ _ _ rfl L2.out _ _ _ _ rfl O2.out O3.out O4.out ms1.out ms2.out (by have := K9.out.size; omega) ?_); intro v10 w10 ho10 hg10 hat10; obtain ⟨a10, c10, hv10⟩ := own_form ho10; subst hv10; obtain ⟨Y10, m10, k10⟩ := Q9.out.m.pushS (sv' := .slice a10 (ls.length + M9) c10) L1.out L2.out L3.out O1.out O5.out hWB.out.1 hWB.out.2 hN9.out hg10 (by rw [HM9.out]; exact ho10) (hat10.imp id (fun e k hk => by rw [e] at hk; cases hk; exact Nat.le_refl _)); obtain ⟨x10, k100⟩ := Q9.out.row (.inr (.inr rfl)) m10 k10; have Q10 := hidden x10; have K10 := hidden (K9.out.trans' k100 (fun _ hk hb => by omega)); clear ho10 hg10 hat10 m10 k10 x10 k100)
                | (go_at_call 16; refine (HDt.out _ _ _ Q10.out.x).mono ?_; rintro e w11 ⟨tb, rfl, o11⟩; obtain ⟨x11, k11⟩ := Q10.out.bo o11; have Q11 := hidden x11; have K11 := hidden (K10.out.trans' k11 (fun _ hk hb => by omega)); clear o11 x11 k11))
              go_roundw
              case rel => exact ⟨j + 1, _, _, _, _, laid, ends, _, Y10, by go_num, by omega, Q11.out, AX.out.take, ZX.out.take AX.out, HDm.out, RX.out, K11.out⟩
              case measure => simp [intOf]; omega
            · have ez : (tv0 == 0) = false := by simpa using hz
              go_wp2_with (first
                | (go_at_call 11; refine (HPa.out _ HQ2.out.x).mono ?_; rintro e w5 ⟨rfl, j5, t5⟩; obtain ⟨x5, k5⟩ := HQ2.out.bo (HQ2.out.x.bpstep j5 t5); have Q5 := hidden x5; have K5 := hidden (HK2.out.trans' k5 (fun _ hk hb => by omega)); have d5 : w5.cell? ⟨b, off + j, none⟩ = some (.string rec) := K5.out.cell (fun h => h) HC2.out; have tt5 : w5.cell? ⟨b2, off2 + p, none⟩ = some (.int .i64 tv0) := K5.out.cell (fun h => h) HT2.out; clear j5 t5 x5 k5))
              go_roundw
              case rel => exact ⟨j + 1, _, _, _, _, laid, ends, _, Y, by go_num, by omega, Q5.out, AX.out, ZX.out, HDm.out, RX.out, K5.out⟩
              case measure => simp [intOf]; omega
          · have p2 : ¬ (0 : Int) < (n2 : Int) := by omega
            go_wp2_with (first
              | (go_at_call 11; refine (HPa.out _ HQ2.out.x).mono ?_; rintro e w5 ⟨rfl, j5, t5⟩; obtain ⟨x5, k5⟩ := HQ2.out.bo (HQ2.out.x.bpstep j5 t5); have Q5 := hidden x5; have K5 := hidden (HK2.out.trans' k5 (fun _ hk hb => by omega)); have d5 : w5.cell? ⟨b, off + j, none⟩ = some (.string rec) := K5.out.cell (fun h => h) HC2.out; clear j5 t5 x5 k5))
            go_roundw
            case rel => exact ⟨j + 1, _, _, _, _, laid, ends, _, Y, by go_num, by omega, Q5.out, AX.out, ZX.out, HDm.out, RX.out, K5.out⟩
            case measure => simp [intOf]; omega
      · have q2 : ¬ (j : Int) < (n1 : Int) := by omega
        obtain ⟨M9, hM9⟩ : ∃ M, M = (s.secs s.many).length := ⟨_, rfl⟩
        have HM9 := hidden hM9.symm
        have hMb : M9 ≤ 4096 := by rw [hM9, JSt.secs_len]; have := HA.out.ok.many; have := HA.out.ok.n1; omega
        have hlsb : ls.length ≤ 4096 := by have := HZ.out.sl; have := HA.out.taken; have := HA.out.ok.t; have := HA.out.ok.n1; omega
        have ms1 : Hid (ls.length + M9 ≤ maxLen) := hidden (by unfold maxLen; omega)
        have ms2 : Hid ((ls.length + M9) * 32 ≤ 140737488355328) := hidden (by omega)
        have HS9 : Hid (s.taken = ls.length) := hidden (by have h1 := HZ.out.sl; have h2 := HA.out.taken; omega)
        obtain ⟨LL, hLL⟩ : ∃ LL, LL = ls.length + M9 := ⟨_, rfl⟩
        have HLL := hidden hLL.symm
        have hLLs : LL ≤ st := by
          have h1 := HA.out.ok.many
          have h2 := HA.out.sectors
          have h3 := HDm.out.2.1
          rw [JSt.secs_len] at hM9
          have h4 := HS9.out
          omega
        obtain ⟨lsA, hlsA⟩ : ∃ l, l = ls ++ s.secs s.many := ⟨_, rfl⟩
        have HLs := hidden hlsA
        have HlA : Hid (lsA.length = LL) := hidden (by rw [hlsA, List.length_append, hLL, hM9])
        have ZX : Hid (JZ d.take laid ends lsA) := hidden (by rw [hlsA]; exact HZ.out.take HA.out)
        clear hM9 hLL hlsA
        have HTk := hidden (fun W s1 (h : JW gp s1 W) (T : Tab W) => j_takeR h T)
        by_cases hkA : kk < 0
        · have hd1 : decide (kk < 0) = true := decide_eq_true hkA
          go_wp2_with (first
            | (go_at_call 15; refine (HTk.out _ _ HQ2.out.x.p (HT.out.same HK2.out)).mono ?_; rintro e w9 ⟨tv, rfl, s9, j9, t9, r9⟩; have hN9 := hidden (HQ2.out.x.take_low j9 r9); obtain ⟨x9, k9⟩ := HQ2.out.bo (HQ2.out.x.bpstep j9 t9); have Q9 := hidden x9; have K9 := hidden (HK2.out.trans' k9 (fun _ hk hb => by omega)); obtain ⟨ta, tc, htv, _⟩ := s9.d; rw [HM9.out] at htv; subst htv; rw [HS9.out] at s9; obtain ⟨us9, o1, o2, o3, o4, o5⟩ := s9.open HM9.out.symm; obtain ⟨usl, l1, l2, l3⟩ := x9.m.sr; have hWB : Hid (w.heap.size ≤ wr.heap.size ∧ q < wr.heap.size) := hidden ⟨HK2.out.size, blk_lt HQ2.out.m.img⟩; have O1 := hidden o1; have O2 := hidden o2; have O3 := hidden o3; have O4 := hidden o4; have O5 := hidden o5; have L1 := hidden l1; have L2 := hidden l2; have L3 := hidden l3; clear s9 j9 t9 r9 x9 k9 o1 o2 o3 o4 o5 l1 l2 l3)
            | (at_builtin; (refine wpList_append_anyP _ rfl _ _ 36 rfl w.heap.size 41 iC _ 2 32 Tryd.underlying36 hiC sC0 sC1 sC2 rfl (by decide) _ _ _ _ rfl L2.out _ _ _ _ rfl O2.out O3.out O4.out ms1.out ms2.out (by have := K9.out.size; omega) ?_); intro v10 w10 ho10 hg10 hat10; rw [HLL.out] at ho10; obtain ⟨a10, c10, hv10⟩ := own_form ho10; subst hv10; obtain ⟨Y10, m10, k10⟩ := Q9.out.m.pushS (sv' := .slice a10 LL c10) L1.out L2.out L3.out O1.out O5.out hWB.out.1 hWB.out.2 hN9.out hg10 (by rw [HM9.out, HLL.out]; exact ho10) (hat10.imp id (fun e k hk => by rw [e] at hk; cases hk; exact Nat.le_refl _)); obtain ⟨x10, k100⟩ := Q9.out.row (.inr (.inr rfl)) m10 k10; rw [← HLs.out] at x10; have Q10 := hidden x10; have K10 := hidden (K9.out.trans' k100 (fun _ hk hb => by omega)); clear ho10 hg10 hat10 m10 k10 x10 k100))
          go_loopw [26] (fun v W => ∃ (i3 : Nat) (Bk3 : List (List UInt8)), v = .int .i64 i3 ∧ i3 ≤ LL ∧ JQ w.heap.size gp gd q s.take d rv us (.slice la laid.length lc) laid (.slice ea ends.length ec) ends (.slice a10 LL c10) lsA Bk3 Y10 W ∧ BQ sz st g lsA i3 Bk3 ∧ Same w W) (fun v _ => LL - (intOf v).toNat)
          case atStart => exact ⟨0, Bk, rfl, Nat.zero_le _, Q10.out, HB.out.q lsA, K10.out⟩
          case round =>
            obtain ⟨i3, Bk3, rfl, hi3, hQ3, hB3, hK3⟩ := hrel
            have HQ3 := hidden hQ3
            have HBq := hidden hB3
            have HK3 := hidden hK3
            clear hQ3 hB3 hK3
            by_cases h3 : i3 < LL
            · obtain ⟨bb, hbb⟩ : ∃ b, lsA[i3]? = some b := ⟨_, List.getElem?_eq_getElem (by rw [HlA.out]; omega)⟩
              have hbl : bb.length = sz := (ZX.out.blen hbb).trans HDm.out.1
              obtain ⟨bs, y, cp9, hsv9, c1, c2, hy, hbq9⟩ := HQ3.out.m.secAt hbb
              have HBq9 : Hid ((⟨bs, i3 * 2 + 1, none⟩ : Addr).block ≠ q) := hidden hbq9
              clear hbq9
              injection hsv9 with e1 e2 e3
              subst e1
              rw [hbl] at c2
              obtain ⟨off, hoff⟩ : ∃ off, off = i3 * sz := ⟨_, rfl⟩
              have hi3s : i3 < st := by omega
              have hoL : off + sz ≤ L := by
                rw [hoff, HLe.out]
                have := Nat.mul_le_mul_right sz (Nat.succ_le_of_lt hi3s)
                rw [Nat.succ_mul] at this
                exact this
              have p0 : (0 : Int) ≤ (i3 : Int) := Int.natCast_nonneg _
              have p1 : (i3 : Int) < (LL : Int) := by omega
              have p2 : (i3 : Int) < (LL : Int) := by omega
              have wmo : IntKind.i64.wrap ((i3 : Int) * (sz : Int)) = (off : Int) := by
                rw [← Int.natCast_mul, ← hoff, IntKind.wrap_i64]
                omega
              have r1 : (0 : Int) ≤ (off : Int) := Int.natCast_nonneg _
              have r2 : (off : Int) ≤ (L : Int) := by omega
              have r3 : (off : Int) < (L : Int) := by omega
              have hne9 : L - off ≠ 0 := by omega
              have hpo : ¬ L = off := by omega
              obtain ⟨X3, hX3⟩ : ∃ X : Array Value, X = ((Bk3.set i3 bb).flatten.map U8).toArray := ⟨_, rfl⟩
              have HX3 := hidden hX3
              have HCp : Hid (∀ W (ao : Option Addr) (cap : Nat), W.heap[q]? = some (.cells (Bk3.flatten.map U8).toArray 5 (0, 0)) → Bt W (.slice ao sz cap) bb → (Builtin.copy_ #[39, 39] 3 #[.slice (some ⟨q, off, none⟩) (L - off) (L - off), .slice ao sz cap]).run Tryd.prog W = .ok (goInt sz) (W.setRow q X3)) := hidden (fun W ao cap hq hs => by
                have := copy_blk HBq.out.l (by rw [HBq.out.n]; exact hi3s) hbl (by omega) W hq hs (L - off) (L - off) (by omega)
                rw [← hoff, ← hX3] at this
                exact this)
              clear hX3
              have HIm := hidden (blk_kept ((Kept.refl (fun _ => False) wr).drew) (fun h => h) HQ3.out.m.img)
              have HBb := hidden (bt_of_blk (blk_kept ((Kept.refl (fun _ => False) wr).drew) (fun h => h) hy) hbl)
              have HBl := hidden hbl
              have HBs := hidden (HBq.out.set hi3s hbb hbl)
              have hset9 : ∀ cs, (wr.drew.setRow q cs).cell? ⟨bs, i3 * 2 + 1, none⟩ = some (.slice (some ⟨y, 0, none⟩) sz sz) := fun cs => (cell_setRow_other _ _ _ _ HBq9.out).trans (by simpa using c2)
              clear hoff hoL hy hbb hbl e2 e3
              go_wp2
              go_region_held3 (fun w' => w'.cell? ⟨bs, i3 * 2 + 1, none⟩ = some (.slice (some ⟨y, 0, none⟩) sz sz))
                (first | go_keep | assumption | exact hset9 _)
                ((first
                  | (refine step_copy (by rfl) _ _ 39 39 (by rfl) _ _ _ _ (by rfl) (by rfl) (HCp.out _ _ _ HIm.out HBb.out) ?_)))
              go_wp2
              obtain ⟨z1, z2⟩ := HQ3.out.img ((Kept.refl (fun _ => False) wr).drew) (Bk3.set i3 bb)
              rw [← HX3.out] at z1 z2
              have z3 := HK3.out.trans' z2 (fun _ hk hb => by omega)
              go_roundw
              case rel => exact ⟨i3 + 1, _, by go_num, by omega, z1, HBs.out, z3⟩
              case measure => simp [intOf]; omega
            · have hi3N : i3 = LL := by omega
              subst hi3N
              have p2 : ¬ (i3 : Int) < (i3 : Int) := by omega
              go_wp2
              go_loopw [27] (fun v W => ∃ wn : Nat, v = .int .i64 wn ∧ wn ≤ ends.length ∧ (∀ (jj m : Nat), jj < wn → ends[jj]? = some m → m ≤ i3) ∧ wr = W) (fun v _ => ends.length - (intOf v).toNat)
              case atStart => exact ⟨0, rfl, Nat.zero_le _, fun jj m h => absurd h (Nat.not_lt_zero _), rfl⟩
              case round =>
                obtain ⟨wn, rfl, hwn, hwp, rfl⟩ := hrel
                have heb : ends.length ≤ 4194304 := by have := HRc.out; have := HA.out.ok.r; have := HZ.out.el; omega
                by_cases hA3 : wn < ends.length
                · obtain ⟨m, hm⟩ : ∃ m, ends[wn]? = some m := ⟨_, List.getElem?_eq_getElem hA3⟩
                  obtain ⟨eb, cpE, hev9, ce⟩ := HQ3.out.m.endAt hm
                  injection hev9 with f1e f2e f3e
                  subst f1e
                  have s0 : (0 : Int) ≤ (wn : Int) := Int.natCast_nonneg _
                  have s1 : (wn : Int) < (ends.length : Int) := by omega
                  by_cases hB2 : m ≤ i3
                  · have s2 : (m : Int) ≤ (i3 : Int) := by omega
                    have hwp' : ∀ (jj m : Nat), jj < wn + 1 → ends[jj]? = some m → m ≤ i3 := fun jj m' hj hm' => by
                      rcases Nat.lt_or_ge jj wn with h | h
                      · exact hwp jj m' h hm'
                      · obtain rfl : jj = wn := by omega
                        rw [hm] at hm'
                        cases hm'
                        exact hB2
                    go_wp2
                    go_roundw
                    case rel => exact ⟨wn + 1, by go_num, by omega, hwp', by first | rfl | trivial⟩
                    case measure => simp [intOf]; omega
                  · have s2 : ¬ (m : Int) ≤ (i3 : Int) := by omega
                    have hwr := HBq.out.rows ZX.out rfl HDm.out.1 HDm.out.2.2 HMy.out HLe.out (N := i3) (wn := wn) (by rw [HlA.out]; omega) (by omega) hwn hwp (.inr ⟨m, hm, by omega⟩)
                    have hal := fun (h : lsA.length ≤ i3) => ZX.out.all rfl wn i3 h hwn (.inr ⟨m, hm, by omega⟩)
                    have hlb4 : laid.length ≤ 4194304 := by have := HRc.out; have := HA.out.ok.r; omega
                    have hwl : wn ≤ laid.length := by have := HZ.out.el; omega
                    have HSc := hidden (fun W (T : Tab W) (hb : Bt W (.slice (some ⟨q, 0, none⟩) L L) Bk3.flatten) => scanP_all sz g (some ⟨q, 0, none⟩) L L Bk3.flatten (by omega) (by omega) hg W T hb)
                    rw [hwr.1, hwr.2] at HSc
                    have HTx := hidden (fun W x y h1 h2 => sameT_eq (laid.take wn) x y W h1 h2 (by rw [List.length_take]; omega))
                    have hsl := str_to HQ3.out.m.lr hwl
                    have HRw := hidden (HQ3.out.m.rowL rfl hwl)
                    have HBt := hidden (HBq.out.bt HLe.out HQ3.out.m.img)
                    clear hwr
                    by_cases hfin : i3 < i3
                    · exact absurd hfin (Nat.lt_irrefl _)
                    · have hall := hal (by rw [HlA.out]; omega)
                      have qf : ¬ (i3 : Int) < (i3 : Int) := by omega
                      have ef : ((wn : Int) == (laid.length : Int)) = true := by rw [hall]; simp
                      clear hal hall
                      go_wp2_with (first
                        | (go_at_call 20; refine (HSc.out _ (HT.out.same HK3.out) HBt.out).mono ?_; rintro e w21 ⟨⟨fv, rfl, hf⟩, k21⟩; have F21 := hidden hf; have K21 := hidden (HK3.out.trans k21); have R21 := hidden (HRw.out.same k21); clear hf k21)
                        | (go_at_call 24; refine (HTx.out _ _ _ F21.out R21.out).mono ?_; rintro e w22 ⟨rfl, k22⟩; have K22 := hidden (K21.out.trans k22); clear k22))
                      go_returns
                      exact ⟨rfl, K22.out⟩
                · have s1 : ¬ (wn : Int) < (ends.length : Int) := by omega
                  have hwr := HBq.out.rows ZX.out rfl HDm.out.1 HDm.out.2.2 HMy.out HLe.out (N := i3) (wn := wn) (by rw [HlA.out]; omega) (by omega) hwn hwp (.inl (by omega))
                  have hal := fun (h : lsA.length ≤ i3) => ZX.out.all rfl wn i3 h hwn (.inl (by omega))
                  have hlb4 : laid.length ≤ 4194304 := by have := HRc.out; have := HA.out.ok.r; omega
                  have hwl : wn ≤ laid.length := by have := HZ.out.el; omega
                  have HSc := hidden (fun W (T : Tab W) (hb : Bt W (.slice (some ⟨q, 0, none⟩) L L) Bk3.flatten) => scanP_all sz g (some ⟨q, 0, none⟩) L L Bk3.flatten (by omega) (by omega) hg W T hb)
                  rw [hwr.1, hwr.2] at HSc
                  have HTx := hidden (fun W x y h1 h2 => sameT_eq (laid.take wn) x y W h1 h2 (by rw [List.length_take]; omega))
                  have hsl := str_to HQ3.out.m.lr hwl
                  have HRw := hidden (HQ3.out.m.rowL rfl hwl)
                  have HBt := hidden (HBq.out.bt HLe.out HQ3.out.m.img)
                  clear hwr
                  by_cases hfin : i3 < i3
                  · exact absurd hfin (Nat.lt_irrefl _)
                  · have hall := hal (by rw [HlA.out]; omega)
                    have qf : ¬ (i3 : Int) < (i3 : Int) := by omega
                    have ef : ((wn : Int) == (laid.length : Int)) = true := by rw [hall]; simp
                    clear hal hall
                    go_wp2_with (first
                      | (go_at_call 20; refine (HSc.out _ (HT.out.same HK3.out) HBt.out).mono ?_; rintro e w21 ⟨⟨fv, rfl, hf⟩, k21⟩; have F21 := hidden hf; have K21 := hidden (HK3.out.trans k21); have R21 := hidden (HRw.out.same k21); clear hf k21)
                      | (go_at_call 24; refine (HTx.out _ _ _ F21.out R21.out).mono ?_; rintro e w22 ⟨rfl, k22⟩; have K22 := hidden (K21.out.trans k22); clear k22))
                    go_returns
                    exact ⟨rfl, K22.out⟩
        · have hd1 : decide (kk < 0) = false := decide_eq_false hkA
          by_cases hkB : (LL : Int) < kk
          · have hd2 : decide ((LL : Int) < kk) = true := decide_eq_true hkB
            go_wp2_with (first
              | (go_at_call 15; refine (HTk.out _ _ HQ2.out.x.p (HT.out.same HK2.out)).mono ?_; rintro e w9 ⟨tv, rfl, s9, j9, t9, r9⟩; have hN9 := hidden (HQ2.out.x.take_low j9 r9); obtain ⟨x9, k9⟩ := HQ2.out.bo (HQ2.out.x.bpstep j9 t9); have Q9 := hidden x9; have K9 := hidden (HK2.out.trans' k9 (fun _ hk hb => by omega)); obtain ⟨ta, tc, htv, _⟩ := s9.d; rw [HM9.out] at htv; subst htv; rw [HS9.out] at s9; obtain ⟨us9, o1, o2, o3, o4, o5⟩ := s9.open HM9.out.symm; obtain ⟨usl, l1, l2, l3⟩ := x9.m.sr; have hWB : Hid (w.heap.size ≤ wr.heap.size ∧ q < wr.heap.size) := hidden ⟨HK2.out.size, blk_lt HQ2.out.m.img⟩; have O1 := hidden o1; have O2 := hidden o2; have O3 := hidden o3; have O4 := hidden o4; have O5 := hidden o5; have L1 := hidden l1; have L2 := hidden l2; have L3 := hidden l3; clear s9 j9 t9 r9 x9 k9 o1 o2 o3 o4 o5 l1 l2 l3)
              | (at_builtin; (refine wpList_append_anyP _ rfl _ _ 36 rfl w.heap.size 41 iC _ 2 32 Tryd.underlying36 hiC sC0 sC1 sC2 rfl (by decide) _ _ _ _ rfl L2.out _ _ _ _ rfl O2.out O3.out O4.out ms1.out ms2.out (by have := K9.out.size; omega) ?_); intro v10 w10 ho10 hg10 hat10; rw [HLL.out] at ho10; obtain ⟨a10, c10, hv10⟩ := own_form ho10; subst hv10; obtain ⟨Y10, m10, k10⟩ := Q9.out.m.pushS (sv' := .slice a10 LL c10) L1.out L2.out L3.out O1.out O5.out hWB.out.1 hWB.out.2 hN9.out hg10 (by rw [HM9.out, HLL.out]; exact ho10) (hat10.imp id (fun e k hk => by rw [e] at hk; cases hk; exact Nat.le_refl _)); obtain ⟨x10, k100⟩ := Q9.out.row (.inr (.inr rfl)) m10 k10; rw [← HLs.out] at x10; have Q10 := hidden x10; have K10 := hidden (K9.out.trans' k100 (fun _ hk hb => by omega)); clear ho10 hg10 hat10 m10 k10 x10 k100))
            go_loopw [26] (fun v W => ∃ (i3 : Nat) (Bk3 : List (List UInt8)), v = .int .i64 i3 ∧ i3 ≤ LL ∧ JQ w.heap.size gp gd q s.take d rv us (.slice la laid.length lc) laid (.slice ea ends.length ec) ends (.slice a10 LL c10) lsA Bk3 Y10 W ∧ BQ sz st g lsA i3 Bk3 ∧ Same w W) (fun v _ => LL - (intOf v).toNat)
            case atStart => exact ⟨0, Bk, rfl, Nat.zero_le _, Q10.out, HB.out.q lsA, K10.out⟩
            case round =>
              obtain ⟨i3, Bk3, rfl, hi3, hQ3, hB3, hK3⟩ := hrel
              have HQ3 := hidden hQ3
              have HBq := hidden hB3
              have HK3 := hidden hK3
              clear hQ3 hB3 hK3
              by_cases h3 : i3 < LL
              · obtain ⟨bb, hbb⟩ : ∃ b, lsA[i3]? = some b := ⟨_, List.getElem?_eq_getElem (by rw [HlA.out]; omega)⟩
                have hbl : bb.length = sz := (ZX.out.blen hbb).trans HDm.out.1
                obtain ⟨bs, y, cp9, hsv9, c1, c2, hy, hbq9⟩ := HQ3.out.m.secAt hbb
                have HBq9 : Hid ((⟨bs, i3 * 2 + 1, none⟩ : Addr).block ≠ q) := hidden hbq9
                clear hbq9
                injection hsv9 with e1 e2 e3
                subst e1
                rw [hbl] at c2
                obtain ⟨off, hoff⟩ : ∃ off, off = i3 * sz := ⟨_, rfl⟩
                have hi3s : i3 < st := by omega
                have hoL : off + sz ≤ L := by
                  rw [hoff, HLe.out]
                  have := Nat.mul_le_mul_right sz (Nat.succ_le_of_lt hi3s)
                  rw [Nat.succ_mul] at this
                  exact this
                have p0 : (0 : Int) ≤ (i3 : Int) := Int.natCast_nonneg _
                have p1 : (i3 : Int) < (LL : Int) := by omega
                have p2 : (i3 : Int) < (LL : Int) := by omega
                have wmo : IntKind.i64.wrap ((i3 : Int) * (sz : Int)) = (off : Int) := by
                  rw [← Int.natCast_mul, ← hoff, IntKind.wrap_i64]
                  omega
                have r1 : (0 : Int) ≤ (off : Int) := Int.natCast_nonneg _
                have r2 : (off : Int) ≤ (L : Int) := by omega
                have r3 : (off : Int) < (L : Int) := by omega
                have hne9 : L - off ≠ 0 := by omega
                have hpo : ¬ L = off := by omega
                obtain ⟨X3, hX3⟩ : ∃ X : Array Value, X = ((Bk3.set i3 bb).flatten.map U8).toArray := ⟨_, rfl⟩
                have HX3 := hidden hX3
                have HCp : Hid (∀ W (ao : Option Addr) (cap : Nat), W.heap[q]? = some (.cells (Bk3.flatten.map U8).toArray 5 (0, 0)) → Bt W (.slice ao sz cap) bb → (Builtin.copy_ #[39, 39] 3 #[.slice (some ⟨q, off, none⟩) (L - off) (L - off), .slice ao sz cap]).run Tryd.prog W = .ok (goInt sz) (W.setRow q X3)) := hidden (fun W ao cap hq hs => by
                  have := copy_blk HBq.out.l (by rw [HBq.out.n]; exact hi3s) hbl (by omega) W hq hs (L - off) (L - off) (by omega)
                  rw [← hoff, ← hX3] at this
                  exact this)
                clear hX3
                have HIm := hidden (blk_kept ((Kept.refl (fun _ => False) wr).drew) (fun h => h) HQ3.out.m.img)
                have HBb := hidden (bt_of_blk (blk_kept ((Kept.refl (fun _ => False) wr).drew) (fun h => h) hy) hbl)
                have HBl := hidden hbl
                have HBs := hidden (HBq.out.set hi3s hbb hbl)
                have hset9 : ∀ cs, (wr.drew.setRow q cs).cell? ⟨bs, i3 * 2 + 1, none⟩ = some (.slice (some ⟨y, 0, none⟩) sz sz) := fun cs => (cell_setRow_other _ _ _ _ HBq9.out).trans (by simpa using c2)
                clear hoff hoL hy hbb hbl e2 e3
                go_wp2
                go_region_held3 (fun w' => w'.cell? ⟨bs, i3 * 2 + 1, none⟩ = some (.slice (some ⟨y, 0, none⟩) sz sz))
                  (first | go_keep | assumption | exact hset9 _)
                  ((first
                    | (refine step_copy (by rfl) _ _ 39 39 (by rfl) _ _ _ _ (by rfl) (by rfl) (HCp.out _ _ _ HIm.out HBb.out) ?_)))
                go_wp2
                obtain ⟨z1, z2⟩ := HQ3.out.img ((Kept.refl (fun _ => False) wr).drew) (Bk3.set i3 bb)
                rw [← HX3.out] at z1 z2
                have z3 := HK3.out.trans' z2 (fun _ hk hb => by omega)
                go_roundw
                case rel => exact ⟨i3 + 1, _, by go_num, by omega, z1, HBs.out, z3⟩
                case measure => simp [intOf]; omega
              · have hi3N : i3 = LL := by omega
                subst hi3N
                have p2 : ¬ (i3 : Int) < (i3 : Int) := by omega
                go_wp2
                go_loopw [27] (fun v W => ∃ wn : Nat, v = .int .i64 wn ∧ wn ≤ ends.length ∧ (∀ (jj m : Nat), jj < wn → ends[jj]? = some m → m ≤ i3) ∧ wr = W) (fun v _ => ends.length - (intOf v).toNat)
                case atStart => exact ⟨0, rfl, Nat.zero_le _, fun jj m h => absurd h (Nat.not_lt_zero _), rfl⟩
                case round =>
                  obtain ⟨wn, rfl, hwn, hwp, rfl⟩ := hrel
                  have heb : ends.length ≤ 4194304 := by have := HRc.out; have := HA.out.ok.r; have := HZ.out.el; omega
                  by_cases hA3 : wn < ends.length
                  · obtain ⟨m, hm⟩ : ∃ m, ends[wn]? = some m := ⟨_, List.getElem?_eq_getElem hA3⟩
                    obtain ⟨eb, cpE, hev9, ce⟩ := HQ3.out.m.endAt hm
                    injection hev9 with f1e f2e f3e
                    subst f1e
                    have s0 : (0 : Int) ≤ (wn : Int) := Int.natCast_nonneg _
                    have s1 : (wn : Int) < (ends.length : Int) := by omega
                    by_cases hB2 : m ≤ i3
                    · have s2 : (m : Int) ≤ (i3 : Int) := by omega
                      have hwp' : ∀ (jj m : Nat), jj < wn + 1 → ends[jj]? = some m → m ≤ i3 := fun jj m' hj hm' => by
                        rcases Nat.lt_or_ge jj wn with h | h
                        · exact hwp jj m' h hm'
                        · obtain rfl : jj = wn := by omega
                          rw [hm] at hm'
                          cases hm'
                          exact hB2
                      go_wp2
                      go_roundw
                      case rel => exact ⟨wn + 1, by go_num, by omega, hwp', by first | rfl | trivial⟩
                      case measure => simp [intOf]; omega
                    · have s2 : ¬ (m : Int) ≤ (i3 : Int) := by omega
                      have hwr := HBq.out.rows ZX.out rfl HDm.out.1 HDm.out.2.2 HMy.out HLe.out (N := i3) (wn := wn) (by rw [HlA.out]; omega) (by omega) hwn hwp (.inr ⟨m, hm, by omega⟩)
                      have hal := fun (h : lsA.length ≤ i3) => ZX.out.all rfl wn i3 h hwn (.inr ⟨m, hm, by omega⟩)
                      have hlb4 : laid.length ≤ 4194304 := by have := HRc.out; have := HA.out.ok.r; omega
                      have hwl : wn ≤ laid.length := by have := HZ.out.el; omega
                      have HSc := hidden (fun W (T : Tab W) (hb : Bt W (.slice (some ⟨q, 0, none⟩) L L) Bk3.flatten) => scanP_all sz g (some ⟨q, 0, none⟩) L L Bk3.flatten (by omega) (by omega) hg W T hb)
                      rw [hwr.1, hwr.2] at HSc
                      have HTx := hidden (fun W x y h1 h2 => sameT_eq (laid.take wn) x y W h1 h2 (by rw [List.length_take]; omega))
                      have hsl := str_to HQ3.out.m.lr hwl
                      have HRw := hidden (HQ3.out.m.rowL rfl hwl)
                      have HBt := hidden (HBq.out.bt HLe.out HQ3.out.m.img)
                      clear hwr
                      by_cases hfin : i3 < i3
                      · exact absurd hfin (Nat.lt_irrefl _)
                      · have hall := hal (by rw [HlA.out]; omega)
                        have qf : ¬ (i3 : Int) < (i3 : Int) := by omega
                        have ef : ((wn : Int) == (laid.length : Int)) = true := by rw [hall]; simp
                        clear hal hall
                        go_wp2_with (first
                          | (go_at_call 20; refine (HSc.out _ (HT.out.same HK3.out) HBt.out).mono ?_; rintro e w21 ⟨⟨fv, rfl, hf⟩, k21⟩; have F21 := hidden hf; have K21 := hidden (HK3.out.trans k21); have R21 := hidden (HRw.out.same k21); clear hf k21)
                          | (go_at_call 24; refine (HTx.out _ _ _ F21.out R21.out).mono ?_; rintro e w22 ⟨rfl, k22⟩; have K22 := hidden (K21.out.trans k22); clear k22))
                        go_returns
                        exact ⟨rfl, K22.out⟩
                  · have s1 : ¬ (wn : Int) < (ends.length : Int) := by omega
                    have hwr := HBq.out.rows ZX.out rfl HDm.out.1 HDm.out.2.2 HMy.out HLe.out (N := i3) (wn := wn) (by rw [HlA.out]; omega) (by omega) hwn hwp (.inl (by omega))
                    have hal := fun (h : lsA.length ≤ i3) => ZX.out.all rfl wn i3 h hwn (.inl (by omega))
                    have hlb4 : laid.length ≤ 4194304 := by have := HRc.out; have := HA.out.ok.r; omega
                    have hwl : wn ≤ laid.length := by have := HZ.out.el; omega
                    have HSc := hidden (fun W (T : Tab W) (hb : Bt W (.slice (some ⟨q, 0, none⟩) L L) Bk3.flatten) => scanP_all sz g (some ⟨q, 0, none⟩) L L Bk3.flatten (by omega) (by omega) hg W T hb)
                    rw [hwr.1, hwr.2] at HSc
                    have HTx := hidden (fun W x y h1 h2 => sameT_eq (laid.take wn) x y W h1 h2 (by rw [List.length_take]; omega))
                    have hsl := str_to HQ3.out.m.lr hwl
                    have HRw := hidden (HQ3.out.m.rowL rfl hwl)
                    have HBt := hidden (HBq.out.bt HLe.out HQ3.out.m.img)
                    clear hwr
                    by_cases hfin : i3 < i3
                    · exact absurd hfin (Nat.lt_irrefl _)
                    · have hall := hal (by rw [HlA.out]; omega)
                      have qf : ¬ (i3 : Int) < (i3 : Int) := by omega
                      have ef : ((wn : Int) == (laid.length : Int)) = true := by rw [hall]; simp
                      clear hal hall
                      go_wp2_with (first
                        | (go_at_call 20; refine (HSc.out _ (HT.out.same HK3.out) HBt.out).mono ?_; rintro e w21 ⟨⟨fv, rfl, hf⟩, k21⟩; have F21 := hidden hf; have K21 := hidden (HK3.out.trans k21); have R21 := hidden (HRw.out.same k21); clear hf k21)
                        | (go_at_call 24; refine (HTx.out _ _ _ F21.out R21.out).mono ?_; rintro e w22 ⟨rfl, k22⟩; have K22 := hidden (K21.out.trans k22); clear k22))
                      go_returns
                      exact ⟨rfl, K22.out⟩
          · obtain ⟨N, rfl⟩ := Int.eq_ofNat_of_zero_le (show 0 ≤ kk by omega)
            have hkN : ¬ N < 0 := by omega
            have hNL : N ≤ LL := by omega
            have hd2 : decide (LL < N) = false := decide_eq_false (by omega)
            have hd3 : decide ((LL : Int) < (N : Int)) = false := decide_eq_false (by omega)
            have hd4 : ¬ LL < N := by omega
            go_wp2_with (first
              | (go_at_call 15; refine (HTk.out _ _ HQ2.out.x.p (HT.out.same HK2.out)).mono ?_; rintro e w9 ⟨tv, rfl, s9, j9, t9, r9⟩; have hN9 := hidden (HQ2.out.x.take_low j9 r9); obtain ⟨x9, k9⟩ := HQ2.out.bo (HQ2.out.x.bpstep j9 t9); have Q9 := hidden x9; have K9 := hidden (HK2.out.trans' k9 (fun _ hk hb => by omega)); obtain ⟨ta, tc, htv, _⟩ := s9.d; rw [HM9.out] at htv; subst htv; rw [HS9.out] at s9; obtain ⟨us9, o1, o2, o3, o4, o5⟩ := s9.open HM9.out.symm; obtain ⟨usl, l1, l2, l3⟩ := x9.m.sr; have hWB : Hid (w.heap.size ≤ wr.heap.size ∧ q < wr.heap.size) := hidden ⟨HK2.out.size, blk_lt HQ2.out.m.img⟩; have O1 := hidden o1; have O2 := hidden o2; have O3 := hidden o3; have O4 := hidden o4; have O5 := hidden o5; have L1 := hidden l1; have L2 := hidden l2; have L3 := hidden l3; clear s9 j9 t9 r9 x9 k9 o1 o2 o3 o4 o5 l1 l2 l3)
              | (at_builtin; (refine wpList_append_anyP _ rfl _ _ 36 rfl w.heap.size 41 iC _ 2 32 Tryd.underlying36 hiC sC0 sC1 sC2 rfl (by decide) _ _ _ _ rfl L2.out _ _ _ _ rfl O2.out O3.out O4.out ms1.out ms2.out (by have := K9.out.size; omega) ?_); intro v10 w10 ho10 hg10 hat10; rw [HLL.out] at ho10; obtain ⟨a10, c10, hv10⟩ := own_form ho10; subst hv10; obtain ⟨Y10, m10, k10⟩ := Q9.out.m.pushS (sv' := .slice a10 LL c10) L1.out L2.out L3.out O1.out O5.out hWB.out.1 hWB.out.2 hN9.out hg10 (by rw [HM9.out, HLL.out]; exact ho10) (hat10.imp id (fun e k hk => by rw [e] at hk; cases hk; exact Nat.le_refl _)); obtain ⟨x10, k100⟩ := Q9.out.row (.inr (.inr rfl)) m10 k10; rw [← HLs.out] at x10; have Q10 := hidden x10; have K10 := hidden (K9.out.trans' k100 (fun _ hk hb => by omega)); clear ho10 hg10 hat10 m10 k10 x10 k100))
            go_loopw [26] (fun v W => ∃ (i3 : Nat) (Bk3 : List (List UInt8)), v = .int .i64 i3 ∧ i3 ≤ N ∧ JQ w.heap.size gp gd q s.take d rv us (.slice la laid.length lc) laid (.slice ea ends.length ec) ends (.slice a10 LL c10) lsA Bk3 Y10 W ∧ BQ sz st g lsA i3 Bk3 ∧ Same w W) (fun v _ => N - (intOf v).toNat)
            case atStart => exact ⟨0, Bk, rfl, Nat.zero_le _, Q10.out, HB.out.q lsA, K10.out⟩
            case round =>
              obtain ⟨i3, Bk3, rfl, hi3, hQ3, hB3, hK3⟩ := hrel
              have HQ3 := hidden hQ3
              have HBq := hidden hB3
              have HK3 := hidden hK3
              clear hQ3 hB3 hK3
              by_cases h3 : i3 < N
              · obtain ⟨bb, hbb⟩ : ∃ b, lsA[i3]? = some b := ⟨_, List.getElem?_eq_getElem (by rw [HlA.out]; omega)⟩
                have hbl : bb.length = sz := (ZX.out.blen hbb).trans HDm.out.1
                obtain ⟨bs, y, cp9, hsv9, c1, c2, hy, hbq9⟩ := HQ3.out.m.secAt hbb
                have HBq9 : Hid ((⟨bs, i3 * 2 + 1, none⟩ : Addr).block ≠ q) := hidden hbq9
                clear hbq9
                injection hsv9 with e1 e2 e3
                subst e1
                rw [hbl] at c2
                obtain ⟨off, hoff⟩ : ∃ off, off = i3 * sz := ⟨_, rfl⟩
                have hi3s : i3 < st := by omega
                have hoL : off + sz ≤ L := by
                  rw [hoff, HLe.out]
                  have := Nat.mul_le_mul_right sz (Nat.succ_le_of_lt hi3s)
                  rw [Nat.succ_mul] at this
                  exact this
                have p0 : (0 : Int) ≤ (i3 : Int) := Int.natCast_nonneg _
                have p1 : (i3 : Int) < (LL : Int) := by omega
                have p2 : (i3 : Int) < (N : Int) := by omega
                have wmo : IntKind.i64.wrap ((i3 : Int) * (sz : Int)) = (off : Int) := by
                  rw [← Int.natCast_mul, ← hoff, IntKind.wrap_i64]
                  omega
                have r1 : (0 : Int) ≤ (off : Int) := Int.natCast_nonneg _
                have r2 : (off : Int) ≤ (L : Int) := by omega
                have r3 : (off : Int) < (L : Int) := by omega
                have hne9 : L - off ≠ 0 := by omega
                have hpo : ¬ L = off := by omega
                obtain ⟨X3, hX3⟩ : ∃ X : Array Value, X = ((Bk3.set i3 bb).flatten.map U8).toArray := ⟨_, rfl⟩
                have HX3 := hidden hX3
                have HCp : Hid (∀ W (ao : Option Addr) (cap : Nat), W.heap[q]? = some (.cells (Bk3.flatten.map U8).toArray 5 (0, 0)) → Bt W (.slice ao sz cap) bb → (Builtin.copy_ #[39, 39] 3 #[.slice (some ⟨q, off, none⟩) (L - off) (L - off), .slice ao sz cap]).run Tryd.prog W = .ok (goInt sz) (W.setRow q X3)) := hidden (fun W ao cap hq hs => by
                  have := copy_blk HBq.out.l (by rw [HBq.out.n]; exact hi3s) hbl (by omega) W hq hs (L - off) (L - off) (by omega)
                  rw [← hoff, ← hX3] at this
                  exact this)
                clear hX3
                have HIm := hidden (blk_kept ((Kept.refl (fun _ => False) wr).drew) (fun h => h) HQ3.out.m.img)
                have HBb := hidden (bt_of_blk (blk_kept ((Kept.refl (fun _ => False) wr).drew) (fun h => h) hy) hbl)
                have HBl := hidden hbl
                have HBs := hidden (HBq.out.set hi3s hbb hbl)
                have hset9 : ∀ cs, (wr.drew.setRow q cs).cell? ⟨bs, i3 * 2 + 1, none⟩ = some (.slice (some ⟨y, 0, none⟩) sz sz) := fun cs => (cell_setRow_other _ _ _ _ HBq9.out).trans (by simpa using c2)
                clear hoff hoL hy hbb hbl e2 e3
                go_wp2
                go_region_held3 (fun w' => w'.cell? ⟨bs, i3 * 2 + 1, none⟩ = some (.slice (some ⟨y, 0, none⟩) sz sz))
                  (first | go_keep | assumption | exact hset9 _)
                  ((first
                    | (refine step_copy (by rfl) _ _ 39 39 (by rfl) _ _ _ _ (by rfl) (by rfl) (HCp.out _ _ _ HIm.out HBb.out) ?_)))
                go_wp2
                obtain ⟨z1, z2⟩ := HQ3.out.img ((Kept.refl (fun _ => False) wr).drew) (Bk3.set i3 bb)
                rw [← HX3.out] at z1 z2
                have z3 := HK3.out.trans' z2 (fun _ hk hb => by omega)
                go_roundw
                case rel => exact ⟨i3 + 1, _, by go_num, by omega, z1, HBs.out, z3⟩
                case measure => simp [intOf]; omega
              · have hi3N : i3 = N := by omega
                subst hi3N
                have p2 : ¬ (i3 : Int) < (i3 : Int) := by omega
                go_wp2
                go_loopw [27] (fun v W => ∃ wn : Nat, v = .int .i64 wn ∧ wn ≤ ends.length ∧ (∀ (jj m : Nat), jj < wn → ends[jj]? = some m → m ≤ i3) ∧ wr = W) (fun v _ => ends.length - (intOf v).toNat)
                case atStart => exact ⟨0, rfl, Nat.zero_le _, fun jj m h => absurd h (Nat.not_lt_zero _), rfl⟩
                case round =>
                  obtain ⟨wn, rfl, hwn, hwp, rfl⟩ := hrel
                  have heb : ends.length ≤ 4194304 := by have := HRc.out; have := HA.out.ok.r; have := HZ.out.el; omega
                  by_cases hA3 : wn < ends.length
                  · obtain ⟨m, hm⟩ : ∃ m, ends[wn]? = some m := ⟨_, List.getElem?_eq_getElem hA3⟩
                    obtain ⟨eb, cpE, hev9, ce⟩ := HQ3.out.m.endAt hm
                    injection hev9 with f1e f2e f3e
                    subst f1e
                    have s0 : (0 : Int) ≤ (wn : Int) := Int.natCast_nonneg _
                    have s1 : (wn : Int) < (ends.length : Int) := by omega
                    by_cases hB2 : m ≤ i3
                    · have s2 : (m : Int) ≤ (i3 : Int) := by omega
                      have hwp' : ∀ (jj m : Nat), jj < wn + 1 → ends[jj]? = some m → m ≤ i3 := fun jj m' hj hm' => by
                        rcases Nat.lt_or_ge jj wn with h | h
                        · exact hwp jj m' h hm'
                        · obtain rfl : jj = wn := by omega
                          rw [hm] at hm'
                          cases hm'
                          exact hB2
                      go_wp2
                      go_roundw
                      case rel => exact ⟨wn + 1, by go_num, by omega, hwp', by first | rfl | trivial⟩
                      case measure => simp [intOf]; omega
                    · have s2 : ¬ (m : Int) ≤ (i3 : Int) := by omega
                      have hwr := HBq.out.rows ZX.out rfl HDm.out.1 HDm.out.2.2 HMy.out HLe.out (N := i3) (wn := wn) (by rw [HlA.out]; omega) (by omega) hwn hwp (.inr ⟨m, hm, by omega⟩)
                      have hal := fun (h : lsA.length ≤ i3) => ZX.out.all rfl wn i3 h hwn (.inr ⟨m, hm, by omega⟩)
                      have hlb4 : laid.length ≤ 4194304 := by have := HRc.out; have := HA.out.ok.r; omega
                      have hwl : wn ≤ laid.length := by have := HZ.out.el; omega
                      have HSc := hidden (fun W (T : Tab W) (hb : Bt W (.slice (some ⟨q, 0, none⟩) L L) Bk3.flatten) => scanP_all sz g (some ⟨q, 0, none⟩) L L Bk3.flatten (by omega) (by omega) hg W T hb)
                      rw [hwr.1, hwr.2] at HSc
                      have HTx := hidden (fun W x y h1 h2 => sameT_eq (laid.take wn) x y W h1 h2 (by rw [List.length_take]; omega))
                      have hsl := str_to HQ3.out.m.lr hwl
                      have HRw := hidden (HQ3.out.m.rowL rfl hwl)
                      have HBt := hidden (HBq.out.bt HLe.out HQ3.out.m.img)
                      clear hwr
                      by_cases hfin : i3 < LL
                      · have qf : (i3 : Int) < (LL : Int) := by omega
                        go_wp2_with (first
                          | (go_at_call 20; refine (HSc.out _ (HT.out.same HK3.out) HBt.out).mono ?_; rintro e w21 ⟨⟨fv, rfl, hf⟩, k21⟩; have F21 := hidden hf; have K21 := hidden (HK3.out.trans k21); have R21 := hidden (HRw.out.same k21); clear hf k21)
                          | (go_at_call 24; refine (HTx.out _ _ _ F21.out R21.out).mono ?_; rintro e w22 ⟨rfl, k22⟩; have K22 := hidden (K21.out.trans k22); clear k22))
                        go_returns
                        exact ⟨rfl, K22.out⟩
                      · have hall := hal (by rw [HlA.out]; omega)
                        have qf : ¬ (i3 : Int) < (LL : Int) := by omega
                        have ef : ((wn : Int) == (laid.length : Int)) = true := by rw [hall]; simp
                        clear hal hall
                        go_wp2_with (first
                          | (go_at_call 20; refine (HSc.out _ (HT.out.same HK3.out) HBt.out).mono ?_; rintro e w21 ⟨⟨fv, rfl, hf⟩, k21⟩; have F21 := hidden hf; have K21 := hidden (HK3.out.trans k21); have R21 := hidden (HRw.out.same k21); clear hf k21)
                          | (go_at_call 24; refine (HTx.out _ _ _ F21.out R21.out).mono ?_; rintro e w22 ⟨rfl, k22⟩; have K22 := hidden (K21.out.trans k22); clear k22))
                        go_returns
                        exact ⟨rfl, K22.out⟩
                  · have s1 : ¬ (wn : Int) < (ends.length : Int) := by omega
                    have hwr := HBq.out.rows ZX.out rfl HDm.out.1 HDm.out.2.2 HMy.out HLe.out (N := i3) (wn := wn) (by rw [HlA.out]; omega) (by omega) hwn hwp (.inl (by omega))
                    have hal := fun (h : lsA.length ≤ i3) => ZX.out.all rfl wn i3 h hwn (.inl (by omega))
                    have hlb4 : laid.length ≤ 4194304 := by have := HRc.out; have := HA.out.ok.r; omega
                    have hwl : wn ≤ laid.length := by have := HZ.out.el; omega
                    have HSc := hidden (fun W (T : Tab W) (hb : Bt W (.slice (some ⟨q, 0, none⟩) L L) Bk3.flatten) => scanP_all sz g (some ⟨q, 0, none⟩) L L Bk3.flatten (by omega) (by omega) hg W T hb)
                    rw [hwr.1, hwr.2] at HSc
                    have HTx := hidden (fun W x y h1 h2 => sameT_eq (laid.take wn) x y W h1 h2 (by rw [List.length_take]; omega))
                    have hsl := str_to HQ3.out.m.lr hwl
                    have HRw := hidden (HQ3.out.m.rowL rfl hwl)
                    have HBt := hidden (HBq.out.bt HLe.out HQ3.out.m.img)
                    clear hwr
                    by_cases hfin : i3 < LL
                    · have qf : (i3 : Int) < (LL : Int) := by omega
                      go_wp2_with (first
                        | (go_at_call 20; refine (HSc.out _ (HT.out.same HK3.out) HBt.out).mono ?_; rintro e w21 ⟨⟨fv, rfl, hf⟩, k21⟩; have F21 := hidden hf; have K21 := hidden (HK3.out.trans k21); have R21 := hidden (HRw.out.same k21); clear hf k21)
                        | (go_at_call 24; refine (HTx.out _ _ _ F21.out R21.out).mono ?_; rintro e w22 ⟨rfl, k22⟩; have K22 := hidden (K21.out.trans k22); clear k22))
                      go_returns
                      exact ⟨rfl, K22.out⟩
                    · have hall := hal (by rw [HlA.out]; omega)
                      have qf : ¬ (i3 : Int) < (LL : Int) := by omega
                      have ef : ((wn : Int) == (laid.length : Int)) = true := by rw [hall]; simp
                      clear hal hall
                      go_wp2_with (first
                        | (go_at_call 20; refine (HSc.out _ (HT.out.same HK3.out) HBt.out).mono ?_; rintro e w21 ⟨⟨fv, rfl, hf⟩, k21⟩; have F21 := hidden hf; have K21 := hidden (HK3.out.trans k21); have R21 := hidden (HRw.out.same k21); clear hf k21)
                        | (go_at_call 24; refine (HTx.out _ _ _ F21.out R21.out).mono ?_; rintro e w22 ⟨rfl, k22⟩; have K22 := hidden (K21.out.trans k22); clear k22))
                      go_returns
                      exact ⟨rfl, K22.out⟩
  · have HN := hidden (fun W => j_newNo size sectors g W hM hg)
    clear hT hin1 hin2 hM
    go_enter Tryd.func5, Tryd.ntmps5
    go_wp2_with (first
      | (go_at_call 8; refine (j_lives _ HT.out).mono ?_; rintro e w1 ⟨rfl, k1⟩; have K1 := hidden k1; clear k1)
      | (go_at_call 9; refine (HN.out _).mono ?_; rintro e w2 ⟨rfl, rfl⟩))
    go_returns
    exact ⟨rfl, K1.out⟩
end Go.Proofs.YtljbmpnpbjnbkaaDoor
