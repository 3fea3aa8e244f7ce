/- DiskWhole, walked. -/
import Derived.Test.YtpfcggliibmdbaaY9
namespace Go.Proofs.Ytpfcggliibmdbaa
open Go.RowKit
set_option linter.unusedVariables false
set_option maxHeartbeats 4000000 in
set_option maxRecDepth 100000 in
theorem wh_no (n c : Int) (v2 v3 : Value) (w : World) (h : ¬ (JSize n ∧ 1 ≤ c ∧ c ≤ 4096)) :
    Calls Try.prog 6 #[.int .i64 n, .int .i64 c, v2, v3] w fun e w' => e = .returned (.bool true) ∧ Same w w' := by
  have HN := hidden (fun w => d_newNo n c w h)
  clear h
  go_enter Try.func6, Try.ntmps6
  go_wp2_with (first
    | (go_at_call 11; refine (d_lives _).mono ?_; rintro e w1 ⟨rfl, k1⟩)
    | (go_at_call 12; refine (HN.out _).mono ?_; rintro e w2 ⟨rfl, rfl⟩))
  go_returns
  exact ⟨rfl, k1⟩
theorem ints_own {w : World} {B m : Nat} {v : Value} {zs : List Int} (h : w.ownsRow B 3 1 v m (zs.map (Value.int .i64))) : Ints w v zs := by
  have hl : zs.length = m := by simpa using h.1
  rcases h.2 with ⟨e, h0⟩ | ⟨g, cap, cur, e, _⟩
  · refine Or.inl ⟨e, ?_⟩
    match zs, hl with
    | [], _ => rfl
    | _ :: _, hl => simp at hl; omega
  · refine Or.inr ⟨⟨g, 0, none⟩, cap, by rw [hl]; exact e, fun j hj => ?_⟩
    exact h.cells (g := g) (by rw [e]; rfl) j _ (by rw [List.getElem?_map, List.getElem?_eq_getElem hj]; rfl)
theorem St.write_on {s : St} (h : s.lim = false) (i : Nat) (l : List UInt8) : (s.write i l).pend = s.pend ++ [(i, l)] ∧ (s.write i l).lim = false ∧ (s.write i l).pl = s.pl := by
  have hg : s.gone = false := by unfold St.gone; rw [h]; rfl
  have e1 : s.write i l = { s with pend := s.pend ++ [(i, l)], lf := spL s.lim s.lf, wn := s.wn + 1 } := by unfold St.write; rw [hg]; rfl
  rw [e1]
  exact ⟨rfl, h, rfl⟩
theorem St.flush_on {s : St} (h : s.lim = false) : s.flush.pend = [] ∧ s.flush.lim = false ∧ s.flush.pl = app s.pend s.pl := by
  have hg : s.gone = false := by unfold St.gone; rw [h]; rfl
  have e1 : s.flush = { s with pl := app s.pend s.pl, pend := [], lf := spL s.lim s.lf, f := s.f + 1 } := by unfold St.flush; rw [hg]; rfl
  rw [e1]
  exact ⟨rfl, h, rfl⟩
set_option maxHeartbeats 16000000 in
set_option maxRecDepth 100000 in
theorem wh_yes (n c : Nat) (v2 v3 : Value) (nl : Nat) (fl : Nat → Int × Int × Nat) (ks : List Int) (w : World) (hn : JSize n) (hc1 : 1 ≤ c) (hc2 : c ≤ 4096) (hl : DOps w v2 nl fl) (hnl : nl * 56 ≤ 140737488351232)
    (hks : Ints w v3 ks) (hkl : ks.length * 8 ≤ 140737488351232) (hkb : ∀ a k c, v3 = .slice (some a) k c → 0 < k → a.block < w.heap.size) :
    Calls Try.prog 6 #[.int .i64 n, .int .i64 c, v2, v3] w fun e w' => e = .returned (.bool true) ∧ Same w w' := by
  have hn4 : n ≤ 4096 := by have := hn.2.1; omega
  have hn5 : 512 ≤ n := by have := hn.1; omega
  have HN := hidden (fun w => d_new n c w hn hc1 hc2)
  have hle : n * c ≤ 4096 * 4096 := Nat.mul_le_mul hn4 hc2
  have hp0 : (n : Int) * (c : Int) = ((n * c : Nat) : Int) := (Int.natCast_mul _ _).symm
  have hw : IntKind.i64.wrap ((n : Int) * (c : Int)) = ((n * c : Nat) : Int) := by rw [hp0, IntKind.wrap_i64]; omega
  obtain ⟨la, lc, rfl, hlc⟩ := hl
  obtain ⟨ka, kc, rfl⟩ := hks.form
  have HLC := hidden hlc
  have HKS : Hid (∀ w', Same w w' → Ints w' (.slice ka ks.length kc) ks) := fun w' k => hks.same' k
  have HKB := hidden hkb
  obtain ⟨i0, hi0, hz0, hz1, hz2⟩ := info_parts infoSec
  obtain ⟨i1, hi1, hy0, hy1, hy2⟩ := info_parts infoInt
  clear hn hlc hks hkb hp0
  go_enter Try.func6, Try.ntmps6
  go_wp2_with (first
    | (go_at_call 11; refine (d_lives _).mono ?_; rintro e w0 ⟨rfl, k0⟩; have K0 := hidden k0; clear k0)
    | (go_at_call 12; refine (HN.out _).mono ?_; rintro e w1 ⟨g, rfl, hM1⟩; obtain ⟨pb, rb, rc, hY, k1⟩ := hM1.yd (by omega) hn4 hc1 hc2; have W1 := hidden (WI.nil hY); have K1 := hidden k1; have hB0 := K0.out.size; clear hM1 hY k1))
  go_loopw [11, 12] (fun wv i wr => ∃ (k : Nat) (wa : Option Addr) (wc : Nat) (ws : List Value) (s : St), k ≤ nl ∧ i = .int .i64 k ∧ wv = .slice wa s.pend.length wc ∧ WI w0.heap.size n c g pb c rb rc (.slice wa s.pend.length wc) ws s.pend s wr ∧ s.lim = false ∧ SB k s ∧ Same w0 wr) (fun wv i wr => nl - (intOf i).toNat)
  case atStart => exact ⟨0, none, 0, [], ⟨List.replicate c (List.replicate n 0), [], false, 0, 0, 0, 0⟩, Nat.zero_le _, rfl, rfl, W1.out, rfl, ⟨by simp, Nat.le_refl _, Nat.le_refl _, Nat.le_refl _⟩, K1.out⟩
  case round =>
    obtain ⟨k, wa, wc, ws, s, hk, rfl, rfl, hF, hlm, hI, hS0⟩ := hrel
    have S1 := hidden (Kept.trans K0.out hS0)
    have S0 := hidden hS0
    have F1 := hidden hF
    have I1 := hidden hI
    have hkm : k ≤ 2513169434844 := by omega
    have hdk := hI.m
    have m1 : Hid (s.pend.length + 1 ≤ maxLen) := by rw [Hid]; unfold maxLen; omega
    have m2 : Hid ((s.pend.length + 1) * 32 ≤ 140737488355328) := by rw [Hid]; omega
    have HLM := hidden hlm
    clear hS0 hF hI W1 K1 hlm
    by_cases hlt : k < nl
    · obtain ⟨b, off, rfl, hcs⟩ := HLC.out (by omega)
      obtain ⟨hy, x0, x1, x2⟩ := hcs k hlt
      have hbl := World.block_lt_of_cell? w _ x0
      have y0 := Kept.cell S1.out (fun h => h) x0
      have y1 := Kept.cell S1.out (fun h => h) x1
      have y2 := Kept.cell S1.out (fun h => h) x2
      have X0 := hidden x0
      have X1' := hidden x1
      clear x0 x1 x2 hcs
      generalize (fl k).1 = kd at *
      generalize (fl k).2.1 = N at *
      generalize (fl k).2.2 = yb at *
      have q0 : (0 : Int) ≤ (k : Int) := Int.natCast_nonneg _
      have q1 : (k : Int) < (nl : Int) := by omega
      by_cases h1 : kd = 1
      · subst h1
        by_cases hN : 0 ≤ N ∧ N < c
        · obtain ⟨i, rfl⟩ := Int.eq_ofNat_of_zero_le hN.1
          have hi' : i < c := by omega
          clear hN
          go_wp2_with (first
            | (go_at_call 24; refine (filled_any n yb _ (by omega) hy).mono ?_; rintro e w4 ⟨u4, rfl, o4, k4'⟩; have k4 : Same wr w4 := Kept.trans (Kept.refl _ wr) (by exact k4'); have OB := hidden o4; obtain ⟨ua, uc, hue⟩ := o4.byt.form; rw [flTo_len] at hue; subst hue; have F4 := hidden (F1.out.same k4); have S4 := hidden (Kept.trans S0.out k4); have t1 : w4.cell? ⟨b, off + k * 5 + 1, none⟩ = some (.int .i64 i) := Kept.cell k4 (fun h => h) y1; clear o4 k4' k4)
            | (go_at_call 23; refine (yd_write F4.out.y I1.out (by omega) S4.out.size i hi' _ (flTo n yb (min n 40)) (OB.out.weak (Nat.zero_le _)) (flTo_len _ _ _)).mono ?_; rintro e w5 ⟨rfl, W5, k5, d5⟩; have F5 := hidden (F4.out.step W5 k5 d5); have OB5 := hidden ((OB.out.kt k5).weak (Nat.zero_le _)); have S5 := hidden (KT.same S4.out k5 (Nat.le_refl _)); have r1 : w5.cell? ⟨b, off + k * 5 + 1, none⟩ = some (.int .i64 i) := Kept.cell (Kept.trans K0.out S5.out) (fun h => h) X1'.out; clear W5 k5 d5)
            | (at_builtin; go_must (refine wpList_append_lies _ (by rfl) _ _ 33 (by rfl) 0 58 i0 _ 2 32 Try.underlying33 hi0 hz0 hz1 hz2 rfl (by decide) _ _ _ (by rfl) (F5.out.row.alloc _) ⟨w5.heap.size, 0, none⟩ 1 1 _ (by rfl) (by rfl) (World.news_of_block (heap_alloc_new w5 _)) (by simp [Value.oneCell']) (by decide) m1.out m2.out (Nat.zero_le _) (w5.heap.size + 1) (by simp) ?_); intro gw cw w6 hown hgrow hat hlt6))
          have K56 : Kept (fun x => (Value.slice wa s.pend.length wc).ownBlock = some x) w5 w6 := ((Kept.refl (fun x => (Value.slice wa s.pend.length wc).ownBlock = some x) w5).alloc _).grown hgrow (fun k hk _ => hk)
          have hu6 := OB5.out.kept K56 (fun j cs _ hb hs => own_apart F5.out.row hb (by decide) hs)
          have hF6 := F5.out.more K56 hown (hat.imp id (fun h => by omega)) hu6 hi' (flTo_len _ _ _) S5.out.size
          obtain ⟨e1, e2, e3⟩ := St.write_on HLM.out i (flTo n yb (min n 40))
          have he1 : (s.write i (flTo n yb (min n 40))).pend.length = s.pend.length + 1 := by rw [e1]; simp
          rw [← e1, ← he1] at hF6
          have F6 := hidden hF6
          have S6 := hidden (S5.out.trans' K56 (fun j hj hs => by have := F5.out.ge j hs; omega))
          have HE1 := hidden he1
          have HE2 := hidden e2
          clear hown hgrow hat hlt6 K56 hu6 hF6 he1 e1 e2 e3
          go_roundw
          case rel => exact ⟨k + 1, _, _, _, _, by omega, by go_num, by rw [HE1.out], F6.out, HE2.out, I1.out.write _ _, S6.out⟩
          case measure => simp [intOf]; omega
        · go_wp2_with (first
            | (go_at_call 24; refine (filled_any n yb _ (by omega) hy).mono ?_; rintro e w4 ⟨u4, rfl, o4, k4'⟩; have k4 : Same wr w4 := Kept.trans (Kept.refl _ wr) (by exact k4'); have OB := hidden o4; obtain ⟨ua, uc, hue⟩ := o4.byt.form; rw [flTo_len] at hue; subst hue; have F4 := hidden (F1.out.same k4); have S4 := hidden (Kept.trans S0.out k4); have t1 : w4.cell? ⟨b, off + k * 5 + 1, none⟩ = some (.int .i64 N) := Kept.cell k4 (fun h => h) y1; clear o4 k4' k4)
            | (go_at_call 23; refine (yd_writeNo F4.out.y N hN _).mono ?_; rintro e w5 ⟨rfl, rfl⟩))
          go_roundw
          case rel => exact ⟨k + 1, _, _, _, _, by omega, by go_num, rfl, F4.out, HLM.out, I1.out.up (Nat.le_succ _), S4.out⟩
          case measure => simp [intOf]; omega
      · have e1 : (kd == 1) = false := by simpa using h1
        by_cases h3 : kd = 3
        · subst h3
          go_wp2_with (go_at_call 25; refine (yd_flush F1.out.y I1.out (by omega)).mono ?_; rintro e w5 ⟨rfl, W5, k5, d5⟩; have F5 := hidden (WI.nil W5); have S5 := hidden (KT.same S0.out k5 (Nat.le_refl _)); clear W5 k5 d5)
          obtain ⟨e1, e2, e3⟩ := St.flush_on HLM.out
          have F6 : Hid (WI w0.heap.size n c g pb c rb rc (.slice none s.flush.pend.length 0) [] s.flush.pend s.flush w5) := by rw [Hid, e1]; exact F5.out
          have HE1 := hidden e1
          have HE2 := hidden e2
          clear e1 e2 e3
          go_roundw
          case rel => exact ⟨k + 1, _, _, _, _, by omega, by go_num, by rw [HE1.out]; rfl, F6.out, HE2.out, I1.out.flush, S5.out⟩
          case measure => simp [intOf]; omega
        · have e3 : (kd == 3) = false := by simpa using h3
          go_wp2
          go_roundw
          case rel => exact ⟨k + 1, _, _, _, _, by omega, by go_num, rfl, F1.out, HLM.out, I1.out.up (Nat.le_succ _), S0.out⟩
          case measure => simp [intOf]; omega
    · have q1 : ¬ (k : Int) < (nl : Int) := by omega
      clear HLC m1 m2
      have hfl : s.pl.flatten.length = n * c := by rw [flat_len F1.out.y.ok.pn, F1.out.y.ok.len, Nat.mul_comm]
      have HFL := hidden hfl
      have T1 : True := trivial
      have T2 : True := trivial
      clear hfl
      go_wp2_with (first
        | (go_at_call 15; refine (yd_image F1.out.y).mono ?_; rintro e w3 ⟨u3, rfl, o3, k3⟩; have O3 := hidden o3; obtain ⟨gb, _, hgb, _⟩ := o3; rw [HFL.out] at hgb; subst hgb; have F3 := hidden (F1.out.same k3); have S3 := hidden (Kept.trans S0.out k3); clear k3)
        | (go_at_call 21; have _t := T1; refine (yd_fork F3.out.y I1.out (by omega)).mono ?_; rintro e w4 ⟨g1, pb1, pc1, rb1, rc1, rfl, a1, k4⟩; have A1 := hidden a1; have K4 := hidden k4; clear T1 a1 k4)
        | (go_at_call 21; have _t := T2; refine (yd_fork (F3.out.y.same K4.out) I1.out (by omega)).mono ?_; rintro e w5 ⟨g2, pb2, pc2, rb2, rc2, rfl, a2, k5⟩; have A2 := hidden a2; have K5 := hidden k5; clear T2 a2 k5)
        | (go_at_call 21; refine (yd_fork (F3.out.y.same (Kept.trans K4.out K5.out)) I1.out (by omega)).mono ?_; rintro e w6 ⟨g3, pb3, pc3, rb3, rc3, rfl, a3, k6⟩; have T6 := hidden (Tri.of A1.out K4.out A2.out K5.out a3 k6); have K6 := hidden (Kept.trans (Kept.trans K4.out K5.out) k6); clear a3 k6 A1 A2 K4 K5)
        | (go_at_call 20; refine (yd_pending (F3.out.y.same K6.out) I1.out (by omega)).mono ?_; rintro e w7 ⟨rfl, _, k7⟩; have T7 := hidden (T6.out.same k7); have K7 := hidden (Kept.trans K6.out k7); clear k7 T6 K6))
      go_loopw [18, 19] (fun av i wr => ∃ (j : Nat) (aa : Option Addr) (ac : Nat), j ≤ s.pend.length ∧ i = .int .i64 j ∧ av = .slice aa j ac ∧ wr.ownsRow w7.heap.size 3 1 (.slice aa j ac) j ((upTo j).map (Value.int .i64)) ∧ Same w7 wr) (fun av i wr => s.pend.length - (intOf i).toNat)
      case atStart => exact ⟨0, none, 0, Nat.zero_le _, rfl, rfl, World.ownsRow_nil _ _ _ _, Kept.refl _ _⟩
      case round =>
        obtain ⟨j, aa, ac, hj, rfl, rfl, hA, hSA⟩ := hrel
        have AA := hidden hA
        have SA := hidden hSA
        clear hA hSA
        by_cases hjm : j < s.pend.length
        · have r1 : (j : Int) < (s.pend.length : Int) := by omega
          have m1 : Hid (j + 1 ≤ maxLen) := by rw [Hid]; unfold maxLen; omega
          have m2 : Hid ((j + 1) * 8 ≤ 140737488355328) := by rw [Hid]; omega
          have hw9 := SA.out.size
          go_wp2_with (at_builtin; go_must (refine wpList_append_lies _ (by rfl) _ _ 39 (by rfl) w7.heap.size 3 i1 _ 1 8 Try.underlying39 hi1 hy0 hy1 hy2 rfl (by decide) _ _ _ (by rfl) (AA.out.alloc _) ⟨wr.heap.size, 0, none⟩ 1 1 _ (by rfl) (by rfl) (World.news_of_block (heap_alloc_new wr _)) (by simp [Value.oneCell']) (by decide) m1.out m2.out (by simp; omega) (wr.heap.size + 1) (by simp) ?_); intro ga ca w9 hown hgrow hat hlt6)
          have K9 : Kept (fun x => (Value.slice aa j ac).ownBlock = some x) wr w9 := ((Kept.refl (fun x => (Value.slice aa j ac).ownBlock = some x) wr).alloc _).grown hgrow (fun k hk _ => hk)
          have S9 := hidden (SA.out.trans' K9 (fun q hq hs => by have := (AA.out.lt q hs).1; omega))
          have O9 : Hid (w9.ownsRow w7.heap.size 3 1 (.slice (some ⟨ga, 0, none⟩) (j + 1) ca) (j + 1) ((upTo (j + 1)).map (Value.int .i64))) := by rw [Hid, upTo_succ, List.map_append]; exact hown
          clear hown hgrow hat hlt6 K9
          go_roundw
          case rel => exact ⟨j + 1, _, _, by omega, by go_num, rfl, O9.out, S9.out⟩
          case measure => simp [intOf]; omega
        · obtain rfl : j = s.pend.length := by omega
          have r1 : ¬ (s.pend.length : Int) < (s.pend.length : Int) := by omega
          obtain ⟨w9, hw9⟩ : ∃ w9, w9 = wr := ⟨_, rfl⟩
          subst hw9
          have IA := hidden (ints_own AA.out)
          have hlt1 := T7.out.a.lt.2.1
          have hkb1 : Hid (∀ a k c, Value.slice aa s.pend.length ac = .slice (some a) k c → 0 < k → a.block ≠ pb1) := fun a k c e _ he => by
            obtain ⟨rfl, _, _⟩ := Value.slice.inj e
            rcases AA.out.2 with ⟨h, _⟩ | ⟨q, cap, cur, h, hb, _⟩
            · cases h
            · obtain ⟨rfl, _, _⟩ : a = ⟨q, 0, none⟩ ∧ _ := by simpa using h
              have he' : q = pb1 := he
              omega
          have T9 := hidden (T7.out.same SA.out)
          have K9 := hidden (Kept.trans K7.out SA.out)
          have hul := upTo_len s.pend.length
          have HCB : Hid ((s.crash []).pl = s.pl) := rfl
          have HCA : Hid ((s.crash (upTo s.pend.length)).pl = app s.pend s.pl) := by rw [Hid]; show app (selOf s.pend (upTo s.pend.length)) s.pl = _; rw [selOf_upTo]
          have HCF : Hid (s.flush.pl = app s.pend s.pl) := (St.flush_on HLM.out).2.2
          have hfa : (app s.pend s.pl).flatten.length = n * c := by rw [flat_len F1.out.y.ok.appn, app_len, F1.out.y.ok.len, Nat.mul_comm]
          have HFA := hidden hfa
          have U1 : True := trivial
          have V1 : True := trivial
          have V2 : True := trivial
          have P1 : True := trivial
          clear hfa T7 K7 SA AA
          by_cases hyb : mayB s.pend.length 0 ks = true
          · go_wp2_with (first
              | (go_at_call 28; have _t := U1; refine (yd_crashYes T9.out.a I1.out (by omega) _ (upTo s.pend.length) IA.out hkb1.out (by omega) (mayB_upTo _)).mono ?_; rintro e w10 ⟨rfl, W, k, d⟩; have T10 := hidden (T9.out.stepA W k d); have K10 := hidden (KT.same K9.out k (Nat.le_refl _)); clear W k d U1; have U2 : True := trivial)
              | (go_at_call 28; have _t := U2; refine (yd_crashYes T10.out.b I1.out (by omega) (.slice none 0 0) [] (Or.inl ⟨rfl, rfl⟩) (fun a k c e => by cases e) (by simp) rfl).mono ?_; rintro e w11 ⟨rfl, W, k, d⟩; have T11 := hidden (T10.out.stepB W k d); have K11 := hidden (KT.same K10.out k (Nat.le_refl _)); clear W k d U2; have U3 : True := trivial)
              | (go_at_call 15; have _t := U3; refine (yd_image T11.out.b).mono ?_; rintro e w12 ⟨u12, rfl, o12, k12⟩; rw [HCB.out] at o12; have O12 := hidden o12; obtain ⟨ua12, uc12, he12⟩ := o12.byt.form; rw [HFL.out] at he12; subst he12; have T12 := hidden (T11.out.same k12); have K12 := hidden (Kept.trans K11.out k12); clear o12 k12 U3; have U4 : True := trivial)
              | (go_at_call 14; have _t := U4; refine (same_eq _ _ s.pl.flatten _ O12.out.byt (O3.out.same K12.out).byt (by rw [HFL.out]; omega)).mono ?_; rintro e w13 ⟨rfl, k13⟩; have T13 := hidden (T12.out.same k13); have L13 := hidden (Kept.trans K12.out k13); clear k13 U4; have U5 : True := trivial)
              | (go_at_call 25; refine (yd_flush T13.out.c I1.out (by omega)).mono ?_; rintro e w14 ⟨rfl, W, k, d⟩; have T14 := hidden (T13.out.stepC W k d); have K14 := hidden (KT.same L13.out k (Nat.le_refl _)); clear W k d)
              | (go_at_call 15; have _t := U5; refine (yd_image T14.out.a).mono ?_; rintro e w15 ⟨u15, rfl, o15, k15⟩; rw [HCA.out] at o15; have O15 := hidden o15; obtain ⟨ua15, uc15, he15⟩ := o15.byt.form; rw [HFA.out] at he15; subst he15; have T15 := hidden (T14.out.same k15); have K15 := hidden (Kept.trans K14.out k15); clear o15 k15 U5; have U6 : True := trivial)
              | (go_at_call 15; have _t := U6; refine (yd_image T15.out.c).mono ?_; rintro e w16 ⟨u16, rfl, o16, k16⟩; rw [HCF.out] at o16; have O16 := hidden o16; have O15b := hidden (O15.out.same k16); obtain ⟨ua16, uc16, he16⟩ := o16.byt.form; rw [HFA.out] at he16; subst he16; have K16 := hidden (Kept.trans K15.out k16); clear o16 k16 U6; have U7 : True := trivial)
              | (go_at_call 14; have _t := U7; refine (same_eq _ _ (app s.pend s.pl).flatten _ O15b.out.byt O16.out.byt (by rw [HFA.out]; omega)).mono ?_; rintro e w17 ⟨rfl, k17⟩; have K13 := hidden (Kept.trans K16.out k17); clear k17 U7)
              | (go_at_call 28; refine (yd_crashYes (F3.out.y.same K13.out) I1.out (by omega) _ ks (HKS.out _ (Kept.trans K0.out (Kept.trans S3.out K13.out))) (fun a k c e h he => by have := HKB.out a k c e h; have := F3.out.y.lp; omega) (by omega) hyb).mono ?_; rintro e w20 ⟨rfl, W, k, d⟩; have F20 := hidden ((F3.out.same K13.out).step W k d); have O20 := hidden ((O3.out.same K13.out).kt k); have S20 := hidden (KT.same (Kept.trans S3.out K13.out) k (Nat.le_refl _)); clear W k d))
            have hcl : (s.crash ks).pl.length = c := (F1.out.y.ok.crash hyb).len
            have hcn : ∀ l ∈ (s.crash ks).pl, l.length = n := (F1.out.y.ok.crash hyb).pn
            have hpl := F1.out.y.ok.len
            have HCN := hidden hcn
            have HPN := hidden F1.out.y.ok.pn
            have HAT := hidden (fun j hj => app_at (selOf s.pend ks) j s.pl hj)
            have HSM := hidden (selOf_mem' hyb)
            have IC := hidden (I1.out.crash ks)
            clear hcn T9 T10 T11 T12 T13 T14 T15 K9 K10 K11 K12 K14 K15 K16 O12 O15 O15b O16 IA F3 O3 S0 S1 hul
            go_loopw [20] (fun i wr => ∃ (j : Nat) (s' : St), j ≤ c ∧ i = .int .i64 j ∧ s'.pl = (s.crash ks).pl ∧ s'.pend = [] ∧ WI w0.heap.size n c g pb c rb rc (.slice wa s.pend.length wc) ws s.pend s' wr ∧ SB (k + j) s' ∧ Own wr (.slice (some ⟨gb, 0, none⟩) (n * c) (n * c)) s.pl.flatten 0 ∧ Same w0 wr) (fun i wr => c - (intOf i).toNat)
            case atStart => exact ⟨0, _, Nat.zero_le _, rfl, rfl, rfl, F20.out, IC.out, O20.out.weak (Nat.zero_le _), S20.out⟩
            case round =>
              obtain ⟨j, s', hj, rfl, hs1, hs2, hF, hI, hO, hS⟩ := hrel
              have FJ := hidden hF
              have IJ := hidden hI
              have OJ := hidden hO
              have SJ := hidden hS
              have HS1 := hidden hs1
              have HS2 := hidden hs2
              clear hF hI hO hS hs1 hs2
              have r0 : (0 : Int) ≤ (j : Int) := Int.natCast_nonneg _
              by_cases hjc : j < c
              · have r1 : (j : Int) < (c : Int) := by omega
                have hjl : j < (app s'.pend s'.pl).length := by rw [app_len, HS1.out]; omega
                obtain ⟨lj, hlj⟩ : ∃ lj, lj = (app s'.pend s'.pl)[j] := ⟨_, rfl⟩
                have hlj2 : (s.crash ks).pl[j]? = some lj := by
                  rw [hlj, ← HS1.out, ← List.getElem?_eq_getElem hjl, HS2.out]
                  rfl
                have hlen : lj.length = n := HCN.out lj (List.mem_of_getElem? hlj2)
                have hjp : j < s.pl.length := by omega
                have HLJ := hidden hlj
                have HLN := hidden hlen
                have HLJ2 := hidden hlj2
                have e1 : (j : Int) * (n : Int) = ((j * n : Nat) : Int) := (Int.natCast_mul _ _).symm
                have e2 : ((j : Int) + 1) * (n : Int) = (((j + 1) * n : Nat) : Int) := by rw [Int.natCast_mul]; rfl
                have e3 : (j + 1) * n ≤ n * c := by rw [Nat.mul_comm n c]; exact Nat.mul_le_mul_right _ (by omega)
                have e4 : (j + 1) * n = j * n + n := by rw [Nat.add_mul, Nat.one_mul]
                have HPC := hidden (fun (W : World) (h : Own W (.slice (some ⟨gb, 0, none⟩) (n * c) (n * c)) s.pl.flatten 0) cap => h.piece HPN.out hjp cap)
                generalize hX1 : j * n = X1 at *
                have e5 : IntKind.i64.wrap ((j : Int) * (n : Int)) = (X1 : Int) := by rw [e1, IntKind.wrap_i64]; omega
                have e6 : IntKind.i64.wrap (((j : Int) + 1) * (n : Int)) = ((X1 + n : Nat) : Int) := by rw [e2, e4, IntKind.wrap_i64]; omega
                have e7 : IntKind.i64.wrap ((j : Int) + 1) = (j : Int) + 1 := by rw [IntKind.wrap_i64]; omega
                obtain ⟨b0, hb0⟩ : ∃ b0, decide (lj = s.pl[j]) = b0 := ⟨_, rfl⟩
                have HB0 := hidden hb0
                have hpj : s.pl[j].length = n := HPN.out _ (List.getElem_mem _)
                have HPJ := hidden hpj
                clear hlj hlj2 hlen hb0 hpj
                go_wp2_with (first
                  | (go_at_call 29; refine (yd_read FJ.out.y IJ.out (by omega) j hjc hjl).mono ?_; rintro e w21 ⟨u21, rfl, o21, W, k21, d21⟩; rw [← HLJ.out] at o21; have O21 := hidden o21; obtain ⟨ua21, uc21, he21⟩ := o21.byt.form; rw [HLN.out] at he21; subst he21; have F21 := hidden (FJ.out.step W k21 d21); have OB21 := hidden (OJ.out.kt k21); have S21 := hidden (KT.same SJ.out k21 (Nat.le_refl _)); clear o21 W k21 d21)
                  | (go_at_call 14; refine (same_any _ _ lj s.pl[j] _ O21.out.byt (HPC.out _ OB21.out _) (by rw [HLN.out]; omega) (by rw [HPJ.out]; omega)).mono ?_; rw [HB0.out]; rintro e w22 ⟨rfl, k22⟩; have F22 := hidden (F21.out.same k22); have O22 := hidden (O21.out.same k22); have OB22 := hidden (OB21.out.same k22); have S22 := hidden (Kept.trans S21.out k22); clear k22))
                go_loopw [23, 24] (fun ok i wr => ∃ (q : Nat) (bq : Bool), q ≤ s.pend.length ∧ i = .int .i64 q ∧ ok = .bool bq ∧ Hid (lj = s.pl[j] → bq = true) ∧ Hid (∀ i (h : i < s.pend.length), i < q → s.pend[i] = (j, lj) → bq = true) ∧ Same w22 wr) (fun ok i wr => s.pend.length - (intOf i).toNat)
                case atStart => exact ⟨0, b0, Nat.zero_le _, rfl, rfl, (fun h => by rw [← HB0.out]; simpa using h), (fun i h h' => absurd h' (by omega)), Kept.refl _ _⟩
                case round =>
                  obtain ⟨q, bq, hq, rfl, rfl, hb1, hb2, hSQ⟩ := hrel
                  have SQ := hidden hSQ
                  have FQ := hidden (F22.out.same hSQ)
                  have OQ := hidden (O22.out.same hSQ)
                  clear hSQ
                  have p0 : (0 : Int) ≤ (q : Int) := Int.natCast_nonneg _
                  by_cases hqm : q < s.pend.length
                  · have p1 : (q : Int) < (s.pend.length : Int) := by omega
                    obtain ⟨u, n1, n2, n3, n4, n5⟩ := FQ.out.ql q hqm
                    obtain ⟨gw, rfl⟩ : ∃ gw : Nat, wa = some ⟨gw, 0, none⟩ := by
                      rcases FQ.out.row.2 with ⟨_, h⟩ | ⟨gw, cap, cur, h, _⟩
                      · omega
                      · exact ⟨gw, by simpa using (Value.slice.inj h).1⟩
                    have z1 := FQ.out.row.cells (g := gw) rfl (q * 2) _ n1
                    have z2 := FQ.out.row.cells (g := gw) rfl (q * 2 + 1) _ n2
                    rw [add_none, Nat.zero_add] at z1 z2
                    obtain ⟨N, hNe⟩ : ∃ N, s.pend[q].1 = N := ⟨_, rfl⟩
                    obtain ⟨lq, hLe⟩ : ∃ lq, s.pend[q].2 = lq := ⟨_, rfl⟩
                    rw [hNe] at z1
                    rw [hLe] at n3 n5
                    have U3 := hidden n3
                    obtain ⟨va, vc, rfl⟩ := n3.byt.form
                    rw [n5] at z2 U3
                    have HN5 := hidden n5
                    have HE : Hid (s.pend[q] = (N, lq)) := by rw [Hid, ← hNe, ← hLe]
                    clear n1 n2 n3 n4 n5 hNe hLe
                    cases bq
                    · by_cases hNj : N = j
                      · subst hNj
                        go_wp2_with (go_at_call 14; refine (same_any _ _ lj lq _ OQ.out.byt U3.out.byt (by rw [HLN.out]; omega) (by rw [HN5.out]; omega)).mono ?_; rintro e w23 ⟨rfl, k23⟩; have SQ2 := hidden (Kept.trans SQ.out k23); clear k23)
                        go_roundw
                        case rel =>
                          refine ⟨q + 1, decide (lj = lq), by omega, by go_num, by first | rfl | simp, (fun h => absurd (hb1 h) (by simp)), (fun i h h' he => ?_), SQ2.out⟩
                          by_cases hiq : i = q
                          · subst hiq
                            rw [HE.out] at he
                            simpa using (Prod.mk.inj he).2.symm
                          · exact absurd (hb2 i h (by omega) he) (by simp)
                        case measure => simp [intOf]; omega
                      · have e8 : ((N : Int) == (j : Int)) = false := by simp; omega
                        have e9 : (N : Int) ≠ (j : Int) := by omega
                        go_wp2
                        go_roundw
                        case rel =>
                          refine ⟨q + 1, false, by omega, by go_num, by first | rfl | simp, hb1, (fun i h h' he => ?_), SQ.out⟩
                          by_cases hiq : i = q
                          · subst hiq
                            rw [HE.out] at he
                            exact absurd (Prod.mk.inj he).1 hNj
                          · exact hb2 i h (by omega) he
                        case measure => simp [intOf]; omega
                    · go_wp2
                      go_roundw
                      case rel => exact ⟨q + 1, true, by omega, by go_num, by first | rfl | simp, (fun _ => rfl), (fun _ _ _ _ => rfl), SQ.out⟩
                      case measure => simp [intOf]; omega
                  · obtain rfl : q = s.pend.length := by omega
                    have p1 : ¬ (s.pend.length : Int) < (s.pend.length : Int) := by omega
                    have hbt : bq = true := by
                      have hjp' := hjp
                      have h2 := HLJ2.out
                      rcases HAT.out j hjp with h | ⟨x, hx, h3, h4⟩
                      · refine hb1 ?_
                        have h5 : (s.crash ks).pl[j]? = s.pl[j]? := h
                        rw [h2, List.getElem?_eq_getElem hjp] at h5
                        exact Option.some.inj h5
                      · have h5 : (s.crash ks).pl[j]? = some x.2 := h4
                        rw [h2] at h5
                        obtain ⟨i, hi, hxi⟩ := List.getElem_of_mem (HSM.out x hx)
                        refine hb2 i hi hi ?_
                        rw [hxi, ← h3, Option.some.inj h5]
                    subst hbt
                    go_wp2
                    go_roundw
                    case rel => exact ⟨j + 1, s'.read, by omega, by go_num, HS1.out, HS2.out, FQ.out, IJ.out.read, OB22.out.same SQ.out, Kept.trans S22.out SQ.out⟩
                    case measure => simp [intOf]; omega
              · have r1 : ¬ (j : Int) < (c : Int) := by omega
                go_wp2
                go_returns
                exact ⟨rfl, Kept.trans K0.out SJ.out⟩
          · have hy : mayB s.pend.length 0 ks = false := by simpa using hyb
            go_wp2_with (first
              | (go_at_call 28; have _t := U1; refine (yd_crashYes T9.out.a I1.out (by omega) _ (upTo s.pend.length) IA.out hkb1.out (by omega) (mayB_upTo _)).mono ?_; rintro e w10 ⟨rfl, W, k, d⟩; have T10 := hidden (T9.out.stepA W k d); have K10 := hidden (KT.same K9.out k (Nat.le_refl _)); clear W k d U1; have U2 : True := trivial)
              | (go_at_call 28; have _t := U2; refine (yd_crashYes T10.out.b I1.out (by omega) (.slice none 0 0) [] (Or.inl ⟨rfl, rfl⟩) (fun a k c e => by cases e) (by simp) rfl).mono ?_; rintro e w11 ⟨rfl, W, k, d⟩; have T11 := hidden (T10.out.stepB W k d); have K11 := hidden (KT.same K10.out k (Nat.le_refl _)); clear W k d U2; have U3 : True := trivial)
              | (go_at_call 15; have _t := U3; refine (yd_image T11.out.b).mono ?_; rintro e w12 ⟨u12, rfl, o12, k12⟩; rw [HCB.out] at o12; have O12 := hidden o12; obtain ⟨ua12, uc12, he12⟩ := o12.byt.form; rw [HFL.out] at he12; subst he12; have T12 := hidden (T11.out.same k12); have K12 := hidden (Kept.trans K11.out k12); clear o12 k12 U3; have U4 : True := trivial)
              | (go_at_call 14; have _t := U4; refine (same_eq _ _ s.pl.flatten _ O12.out.byt (O3.out.same K12.out).byt (by rw [HFL.out]; omega)).mono ?_; rintro e w13 ⟨rfl, k13⟩; have T13 := hidden (T12.out.same k13); have L13 := hidden (Kept.trans K12.out k13); clear k13 U4; have U5 : True := trivial)
              | (go_at_call 25; refine (yd_flush T13.out.c I1.out (by omega)).mono ?_; rintro e w14 ⟨rfl, W, k, d⟩; have T14 := hidden (T13.out.stepC W k d); have K14 := hidden (KT.same L13.out k (Nat.le_refl _)); clear W k d)
              | (go_at_call 15; have _t := U5; refine (yd_image T14.out.a).mono ?_; rintro e w15 ⟨u15, rfl, o15, k15⟩; rw [HCA.out] at o15; have O15 := hidden o15; obtain ⟨ua15, uc15, he15⟩ := o15.byt.form; rw [HFA.out] at he15; subst he15; have T15 := hidden (T14.out.same k15); have K15 := hidden (Kept.trans K14.out k15); clear o15 k15 U5; have U6 : True := trivial)
              | (go_at_call 15; have _t := U6; refine (yd_image T15.out.c).mono ?_; rintro e w16 ⟨u16, rfl, o16, k16⟩; rw [HCF.out] at o16; have O16 := hidden o16; have O15b := hidden (O15.out.same k16); obtain ⟨ua16, uc16, he16⟩ := o16.byt.form; rw [HFA.out] at he16; subst he16; have K16 := hidden (Kept.trans K15.out k16); clear o16 k16 U6; have U7 : True := trivial)
              | (go_at_call 14; have _t := U7; refine (same_eq _ _ (app s.pend s.pl).flatten _ O15b.out.byt O16.out.byt (by rw [HFA.out]; omega)).mono ?_; rintro e w17 ⟨rfl, k17⟩; have K13 := hidden (Kept.trans K16.out k17); clear k17 U7)
              | (go_at_call 28; have _t := P1; refine (yd_crashNo (F3.out.y.same K13.out) I1.out (by omega) _ ks (HKS.out _ (Kept.trans K0.out (Kept.trans S3.out K13.out))) (by omega) hy).mono ?_; rintro e w20 ⟨rfl, rfl⟩; clear P1)
              | (go_at_call 15; refine (yd_image (F3.out.y.same K13.out)).mono ?_; rintro e w21 ⟨u21, rfl, o21, k21⟩; have O21 := hidden o21; obtain ⟨ua21, uc21, he21⟩ := o21.byt.form; rw [HFL.out] at he21; subst he21; have K21 := hidden (Kept.trans K13.out k21); clear o21 k21)
              | (go_at_call 14; refine (same_eq _ _ s.pl.flatten _ O21.out.byt (O3.out.same K21.out).byt (by rw [HFL.out]; omega)).mono ?_; rintro e w22 ⟨rfl, k22⟩; have K22 := hidden (Kept.trans K21.out k22); clear k22)
              | (go_at_call 20; refine (yd_pending (F3.out.y.same K22.out) I1.out (by omega)).mono ?_; rintro e w23 ⟨rfl, _, k23⟩; have K23 := hidden (Kept.trans K22.out k23); clear k23))
            go_returns
            exact ⟨by first | rfl | simp, Kept.trans K0.out (Kept.trans S3.out K23.out)⟩
end Go.Proofs.Ytpfcggliibmdbaa
