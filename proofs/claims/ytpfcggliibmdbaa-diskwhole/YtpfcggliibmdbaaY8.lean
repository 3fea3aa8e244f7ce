/- DiskStops, walked. -/
import Derived.Test.YtpfcggliibmdbaaY7
namespace Go.Proofs.Ytpfcggliibmdbaa
open Go.RowKit
set_option linter.unusedVariables false
theorem Ap.of {B1 B2 n1 c1 n2 c2 g1 pb1 pc1 rb1 rc1 g2 pb2 pc2 rb2 rc2 : Nat} {s1 s2 : St} {w : World} (a : YD B1 n1 c1 g1 pb1 pc1 rb1 rc1 s1 w) (b : YD B2 n2 c2 g2 pb2 pc2 rb2 rc2 s2 w) (hg : g1 < B2) (hp : pb1 < B2) (hr : rb1 < B2) (hq : ∀ k, rowOf w g1 3 = some k → k < B2) : Ap g1 pb1 rb1 g2 pb2 rb2 w := by
  have := b.lg
  have := b.lp
  have := b.lr
  refine ⟨by omega, by omega, by omega, by omega, by omega, fun k h1 h2 => ?_⟩
  obtain ⟨qv, qs, ps, rs, i1, i5, i6, i7, i8, i9, i10, i11, _⟩ := b.ex
  rw [rowOf_dp i1] at h2
  have := hq k h1
  have := i11 k h2
  omega
/-- The one Disk's power is limited, the other's lasts; both have done the same. -/
structure SI (z : Int) (k dn : Nat) (s1 s2 : St) : Prop where
  pl : s2.pl = s1.pl
  pend : s2.pend = s1.pend
  lim2 : s2.lim = false
  lim : s1.lim = decide (0 ≤ z)
  lf : s1.lf = if 0 ≤ z then (if z ≤ dn then 0 else z - dn) else 0
  b1 : SB k s1
  b2 : SB k s2
  dn : dn ≤ k
theorem SI.gone {z : Int} {k dn : Nat} {s1 s2 : St} (h : SI z k dn s1 s2) : s1.gone = (decide (0 ≤ z) && decide (z ≤ dn)) := by
  unfold St.gone
  rw [h.lim, h.lf]
  by_cases hz : 0 ≤ z
  · rw [if_pos hz]
    by_cases hd : z ≤ dn
    · simp [hz, hd]
    · rw [if_neg hd]
      have : ¬ (z - dn = 0) := by omega
      simp [hz, hd, this]
  · simp [hz]
theorem SI.gone2 {z : Int} {k dn : Nat} {s1 s2 : St} (h : SI z k dn s1 s2) : s2.gone = false := by
  unfold St.gone
  rw [h.lim2]
  rfl
theorem SI.on {z : Int} {k dn : Nat} {s1 s2 : St} (h : SI z k dn s1 s2) : SI z (k + 1) dn s1 s2 := ⟨h.pl, h.pend, h.lim2, h.lim, h.lf, h.b1.up (Nat.le_succ _), h.b2.up (Nat.le_succ _), Nat.le_succ_of_le h.dn⟩
theorem SI.lfn {z : Int} {k dn : Nat} {s1 s2 : St} (h : SI z k dn s1 s2) (hg : s1.gone = false) : spL s1.lim s1.lf = if 0 ≤ z then (if z ≤ ((dn + 1 : Nat) : Int) then 0 else z - ((dn + 1 : Nat) : Int)) else 0 := by
  rw [h.gone] at hg
  unfold spL
  rw [h.lim, h.lf]
  by_cases hz : 0 ≤ z
  · have hd : ¬ z ≤ dn := by simpa [hz] using hg
    rw [if_pos hz, if_neg hd, decide_eq_true hz, if_pos rfl, if_pos hz]
    split <;> omega
  · rw [if_neg hz, decide_eq_false hz, if_neg (by simp), if_neg hz]
theorem SI.lfg {z : Int} {k dn : Nat} {s1 s2 : St} (h : SI z k dn s1 s2) (hg : s1.gone = true) : s1.lf = if 0 ≤ z then (if z ≤ ((dn + 1 : Nat) : Int) then 0 else z - ((dn + 1 : Nat) : Int)) else 0 := by
  rw [h.gone] at hg
  have hz : 0 ≤ z ∧ z ≤ dn := by simpa using hg
  rw [h.lf, if_pos hz.1, if_pos hz.2, if_pos hz.1, if_pos (by omega)]
theorem SI.write {z : Int} {k dn : Nat} {s1 s2 : St} (h : SI z k dn s1 s2) (hg : s1.gone = false) (i : Nat) (l : List UInt8) : SI z (k + 1) (dn + 1) (s1.write i l) (s2.write i l) := by
  have b1 := h.b1.write i l
  have b2 := h.b2.write i l
  have e1 : s1.write i l = { s1 with pend := s1.pend ++ [(i, l)], lf := spL s1.lim s1.lf, wn := s1.wn + 1 } := by unfold St.write; rw [hg]; rfl
  have e2 : s2.write i l = { s2 with pend := s2.pend ++ [(i, l)], lf := spL s2.lim s2.lf, wn := s2.wn + 1 } := by unfold St.write; rw [h.gone2]; rfl
  rw [e1] at b1 ⊢
  rw [e2] at b2 ⊢
  exact ⟨h.pl, by simp [h.pend], h.lim2, h.lim, h.lfn hg, b1, b2, Nat.succ_le_succ h.dn⟩
theorem SI.writeG {z : Int} {k dn : Nat} {s1 s2 : St} (h : SI z k dn s1 s2) (hg : s1.gone = true) (i : Nat) (l : List UInt8) : SI z (k + 1) (dn + 1) (s1.write i l) s2 := by
  have e1 : s1.write i l = s1 := by unfold St.write; rw [hg]; rfl
  rw [e1]
  exact ⟨h.pl, h.pend, h.lim2, h.lim, h.lfg hg, h.b1.up (Nat.le_succ _), h.b2.up (Nat.le_succ _), Nat.succ_le_succ h.dn⟩
theorem SI.flush {z : Int} {k dn : Nat} {s1 s2 : St} (h : SI z k dn s1 s2) (hg : s1.gone = false) : SI z (k + 1) (dn + 1) s1.flush s2.flush := by
  have b1 := h.b1.flush
  have b2 := h.b2.flush
  have e1 : s1.flush = { s1 with pl := app s1.pend s1.pl, pend := [], lf := spL s1.lim s1.lf, f := s1.f + 1 } := by unfold St.flush; rw [hg]; rfl
  have e2 : s2.flush = { s2 with pl := app s2.pend s2.pl, pend := [], lf := spL s2.lim s2.lf, f := s2.f + 1 } := by unfold St.flush; rw [h.gone2]; rfl
  rw [e1] at b1 ⊢
  rw [e2] at b2 ⊢
  exact ⟨by simp [h.pend, h.pl], rfl, h.lim2, h.lim, h.lfn hg, b1, b2, Nat.succ_le_succ h.dn⟩
theorem SI.flushG {z : Int} {k dn : Nat} {s1 s2 : St} (h : SI z k dn s1 s2) (hg : s1.gone = true) : SI z (k + 1) (dn + 1) s1.flush s2 := by
  have e1 : s1.flush = s1 := by unfold St.flush; rw [hg]; rfl
  rw [e1]
  exact ⟨h.pl, h.pend, h.lim2, h.lim, h.lfg hg, h.b1.up (Nat.le_succ _), h.b2.up (Nat.le_succ _), Nat.succ_le_succ h.dn⟩
/-- Both Disks, apart. -/
structure SW (B n c g1 pb1 pc1 rb1 rc1 g2 pb2 pc2 rb2 rc2 : Nat) (s1 s2 : St) (w : World) : Prop where
  a : YD B n c g1 pb1 pc1 rb1 rc1 s1 w
  b : YD B n c g2 pb2 pc2 rb2 rc2 s2 w
  ap : Ap g1 pb1 rb1 g2 pb2 rb2 w
theorem SW.same {B n c g1 pb1 pc1 rb1 rc1 g2 pb2 pc2 rb2 rc2 : Nat} {s1 s2 : St} {w w' : World} (h : SW B n c g1 pb1 pc1 rb1 rc1 g2 pb2 pc2 rb2 rc2 s1 s2 w) (k : Same w w') : SW B n c g1 pb1 pc1 rb1 rc1 g2 pb2 pc2 rb2 rc2 s1 s2 w' :=
  ⟨h.a.same k, h.b.same k, h.ap.gg, h.ap.pp, h.ap.pr, h.ap.rp, h.ap.rr, fun i h1 h2 => by
    rw [rowOf_same h.a.lt.1 k] at h1
    rw [rowOf_same h.b.lt.1 k] at h2
    exact h.ap.qq i h1 h2⟩
theorem SW.left {B n c g1 pb1 pc1 rb1 rc1 g2 pb2 pc2 rb2 rc2 : Nat} {s1 s2 s1' : St} {w w' : World} (h : SW B n c g1 pb1 pc1 rb1 rc1 g2 pb2 pc2 rb2 rc2 s1 s2 w) (a : YD B n c g1 pb1 pc1 rb1 rc1 s1' w') (k : KT B w w') (d : DF g1 pb1 rb1 w w') : SW B n c g1 pb1 pc1 rb1 rc1 g2 pb2 pc2 rb2 rc2 s1' s2 w' :=
  let ⟨b, ap⟩ := h.b.other h.a h.ap k d
  ⟨a, b, ap⟩
theorem SW.right {B n c g1 pb1 pc1 rb1 rc1 g2 pb2 pc2 rb2 rc2 : Nat} {s1 s2 s2' : St} {w w' : World} (h : SW B n c g1 pb1 pc1 rb1 rc1 g2 pb2 pc2 rb2 rc2 s1 s2 w) (b : YD B n c g2 pb2 pc2 rb2 rc2 s2' w') (k : KT B w w') (d : DF g2 pb2 rb2 w w') : SW B n c g1 pb1 pc1 rb1 rc1 g2 pb2 pc2 rb2 rc2 s1 s2' w' :=
  let ⟨a, ap⟩ := h.a.other h.b h.ap.symm k d
  ⟨a, b, ap.symm⟩
/-- Two that are made one behind the other. -/
theorem made_two {n c g1 g2 : Nat} {w0 w1 w2 : World} (h1 : Made n c g1 w0 w1) (h2 : Made n c g2 w1 w2) (hn1 : 1 ≤ n) (hn : n ≤ 4096) (hc1 : 1 ≤ c) (hc : c ≤ 4096) : ∃ pb1 rb1 rc1 pb2 rb2 rc2, SW w0.heap.size n c g1 pb1 c rb1 rc1 g2 pb2 c rb2 rc2 ⟨List.replicate c (List.replicate n 0), [], false, 0, 0, 0, 0⟩ ⟨List.replicate c (List.replicate n 0), [], false, 0, 0, 0, 0⟩ w2 ∧ Same w0 w2 := by
  obtain ⟨pb1, rb1, rc1, a, k1⟩ := h1.yd hn1 hn hc1 hc
  obtain ⟨pb2, rb2, rc2, b, k2⟩ := h2.yd hn1 hn hc1 hc
  obtain ⟨l1, l2, l3, l4⟩ := a.lt
  exact ⟨pb1, rb1, rc1, pb2, rb2, rc2, ⟨a.same k2, b.weak k1.size, Ap.of (a.same k2) b l1 l2 l3 (fun k hk => l4 k (by rw [rowOf_same l1 k2] at hk; exact hk))⟩, Kept.trans k1 k2⟩
set_option maxHeartbeats 4000000 in
set_option maxRecDepth 100000 in
theorem st_no (n c : Int) (v2 v3 v4 : Value) (w : World) (h : ¬ (JSize n ∧ 1 ≤ c ∧ c ≤ 4096)) :
    Calls Try.prog 7 #[.int .i64 n, .int .i64 c, v2, v3, v4] w fun e w' => e = .returned (.bool true) ∧ Same w w' := by
  have HN := hidden (fun w => d_newNo n c w h)
  clear h
  go_enter Try.func7, Try.ntmps7
  go_wp2_with (first
    | (go_at_call 11; refine (d_lives _).mono ?_; rintro e w1 ⟨rfl, k1⟩)
    | (go_at_call 12; refine (HN.out _).mono ?_; rintro e w2 ⟨rfl, rfl⟩))
  go_returns
  exact ⟨rfl, k1⟩
set_option maxHeartbeats 16000000 in
set_option maxRecDepth 100000 in
theorem st_yes (n c : Nat) (v2 v4 : Value) (z : Int) (nl : Nat) (fl : Nat → Int × Int × Nat) (ks : List Int) (w : World) (hn : JSize n) (hc1 : 1 ≤ c) (hc2 : c ≤ 4096) (hz0 : -9223372036854775808 ≤ z) (hz1 : z ≤ 9223372036854775807) (hl : DOps w v2 nl fl) (hnl : nl * 56 ≤ 140737488351232)
    (hks : Ints w v4 ks) (hkl : ks.length * 8 ≤ 140737488351232) (hkb : ∀ a k c, v4 = .slice (some a) k c → 0 < k → a.block < w.heap.size) :
    Calls Try.prog 7 #[.int .i64 n, .int .i64 c, v2, .int .i64 z, v4] w fun e w' => e = .returned (.bool true) ∧ Same w w' := by
  have hn4 : n ≤ 4096 := by have := hn.2.1; omega
  have hn5 : 512 ≤ n := by have := hn.1; omega
  have HN := hidden (fun w => d_new n c w hn hc1 hc2)
  obtain ⟨la, lc, rfl, hlc⟩ := hl
  obtain ⟨ka, kc, rfl⟩ := hks.form
  have HLC := hidden hlc
  have HKS : Hid (∀ w', Same w w' → Ints w' (.slice ka ks.length kc) ks) := fun w' k => hks.same' k
  have HKB := hidden hkb
  clear hn hlc hks hkb
  have tk : True := trivial
  go_enter Try.func7, Try.ntmps7
  go_wp2_with (first
    | (go_at_call 11; refine (d_lives _).mono ?_; rintro e w0 ⟨rfl, k0⟩; have K0 := hidden k0; clear k0)
    | (go_at_call 12; have _t := tk; refine (HN.out _).mono ?_; rintro e w1 ⟨g1, rfl, hM1⟩; have M1 := hidden hM1; clear hM1 tk)
    | (go_at_call 12; refine (HN.out _).mono ?_; rintro e w2 ⟨g2, rfl, hM2⟩; obtain ⟨pb1, rb1, rc1, pb2, rb2, rc2, hSW, k2⟩ := made_two M1.out hM2 (by omega) hn4 hc1 hc2; have W2 := hidden hSW; have K2 := hidden k2; have hB0 := K0.out.size; clear hM2 M1 hSW k2)
    | (go_at_call 22; refine (yd_stop W2.out.a z hz1).mono ?_; rintro e w3 ⟨rfl, a3, k3, d3⟩; have W3 := hidden (W2.out.left a3 k3 d3); have K3 := hidden (KT.same K2.out k3 (Nat.le_refl _)); clear a3 k3 d3))
  have hI0 : SI z 0 0 ((⟨List.replicate c (List.replicate n 0), [], false, 0, 0, 0, 0⟩ : St).stop z) ⟨List.replicate c (List.replicate n 0), [], false, 0, 0, 0, 0⟩ := by
    refine ⟨rfl, rfl, rfl, rfl, ?_, ⟨by simp [St.stop], Nat.le_refl _, Nat.le_refl _, Nat.le_refl _⟩, ⟨by simp, Nat.le_refl _, Nat.le_refl _, Nat.le_refl _⟩, Nat.le_refl _⟩
    show (if 0 ≤ z then z else 0) = _
    split
    · split <;> omega
    · rfl
  have I0 := hidden hI0
  clear hI0 W2 K2
  go_loopw [15, 16] (fun dv i wr => ∃ (k dn : Nat) (s1 s2 : St), k ≤ nl ∧ i = .int .i64 k ∧ dv = .int .i64 dn ∧ SW w0.heap.size n c g1 pb1 c rb1 rc1 g2 pb2 c rb2 rc2 s1 s2 wr ∧ SI z k dn s1 s2 ∧ Same w0 wr) (fun dv i wr => nl - (intOf i).toNat)
  case atStart => exact ⟨0, 0, _, _, Nat.zero_le _, rfl, rfl, W3.out, I0.out, K3.out⟩
  case round =>
    obtain ⟨k, dn, s1, s2, hk, rfl, rfl, hF, hI, hS0⟩ := hrel
    have S1 := hidden (Kept.trans K0.out hS0)
    have S0 := hidden hS0
    have F1 := hidden hF
    have I1 := hidden hI
    have hkm : k ≤ 2513169434844 := by omega
    have hdk := hI.dn
    clear hS0 hF hI I0 W3 K3
    by_cases hlt : k < nl
    · obtain ⟨b, off, rfl, hcs⟩ := HLC.out (by omega)
      obtain ⟨hy, x0, x1, x2⟩ := hcs k hlt
      have hbl := World.block_lt_of_cell? w _ x0
      have y0 := Kept.cell S1.out (fun h => h) x0
      have y1 := Kept.cell S1.out (fun h => h) x1
      have y2 := Kept.cell S1.out (fun h => h) x2
      have X0 := hidden x0
      have X1' := hidden x1
      clear x0 x1 x2 hcs
      generalize (fl k).1 = kd at *
      generalize (fl k).2.1 = N at *
      generalize (fl k).2.2 = yb at *
      have q0 : (0 : Int) ≤ (k : Int) := Int.natCast_nonneg _
      have q1 : (k : Int) < (nl : Int) := by omega
      have hgo := I1.out.gone
      by_cases hz : 0 ≤ z
      · by_cases hd : z ≤ (dn : Int)
        · have hg : s1.gone = true := by rw [hgo]; simp [hz, hd]
          clear hgo
          by_cases h1 : kd = 1
          · subst h1
            by_cases hN : 0 ≤ N ∧ N < c
            · obtain ⟨i, rfl⟩ := Int.eq_ofNat_of_zero_le hN.1
              have hi' : i < c := by omega
              clear hN
              go_wp2_with (first
                | (go_at_call 30; refine (yd_off F1.out.a).mono ?_; rw [hg]; rintro e w9 ⟨rfl, rfl⟩)
                | (go_at_call 24; refine (filled_any n yb _ (by omega) hy).mono ?_; rintro e w4 ⟨u4, rfl, o4, k4'⟩; have k4 : Same wr w4 := Kept.trans (Kept.refl _ wr) (by exact k4'); have OB := hidden o4; obtain ⟨ua, uc, hue⟩ := o4.byt.form; rw [flTo_len] at hue; subst hue; have F4 := hidden (F1.out.same k4); have S4 := hidden (Kept.trans S0.out k4); have t1 : w4.cell? ⟨b, off + k * 5 + 1, none⟩ = some (.int .i64 i) := Kept.cell k4 (fun h => h) y1; have t0 : w4.cell? ⟨b, off + k * 5, none⟩ = some (.int .i64 1) := Kept.cell k4 (fun h => h) y0; have TW : True := trivial; clear o4 k4' k4)
                | (go_at_call 23; have _t := TW; refine (yd_write F4.out.a I1.out.b1 (by omega) S4.out.size i hi' _ (flTo n yb (min n 40)) (OB.out.weak (Nat.zero_le _)) (flTo_len _ _ _)).mono ?_; rintro e w5 ⟨rfl, W5, k5, d5⟩; have F5 := hidden (F4.out.left W5 k5 d5); have OB5 := hidden (OB.out.kt k5); have S5 := hidden (KT.same S4.out k5 (Nat.le_refl _)); have r1 : w5.cell? ⟨b, off + k * 5 + 1, none⟩ = some (.int .i64 i) := Kept.cell (Kept.trans K0.out S5.out) (fun h => h) X1'.out; have r0 : w5.cell? ⟨b, off + k * 5, none⟩ = some (.int .i64 1) := Kept.cell (Kept.trans K0.out S5.out) (fun h => h) X0.out; clear W5 k5 d5 TW))
              go_roundw
              case rel => exact ⟨k + 1, dn + 1, _, _, by omega, by go_num, by go_num, F5.out, I1.out.writeG hg _ _, S5.out⟩
              case measure => simp [intOf]; omega
            · go_wp2_with (first
                | (go_at_call 30; refine (yd_off F1.out.a).mono ?_; rw [hg]; rintro e w9 ⟨rfl, rfl⟩)
                | (go_at_call 24; refine (filled_any n yb _ (by omega) hy).mono ?_; rintro e w4 ⟨u4, rfl, o4, k4'⟩; have k4 : Same wr w4 := Kept.trans (Kept.refl _ wr) (by exact k4'); have OB := hidden o4; obtain ⟨ua, uc, hue⟩ := o4.byt.form; rw [flTo_len] at hue; subst hue; have F4 := hidden (F1.out.same k4); have S4 := hidden (Kept.trans S0.out k4); have t1 : w4.cell? ⟨b, off + k * 5 + 1, none⟩ = some (.int .i64 N) := Kept.cell k4 (fun h => h) y1; have t0 : w4.cell? ⟨b, off + k * 5, none⟩ = some (.int .i64 1) := Kept.cell k4 (fun h => h) y0; have TW : True := trivial; clear o4 k4' k4)
                | (go_at_call 23; refine (yd_writeNo F4.out.a N hN _).mono ?_; rintro e w5 ⟨rfl, rfl⟩))
              go_roundw
              case rel => exact ⟨k + 1, dn, _, _, by omega, by go_num, rfl, F4.out, I1.out.on, S4.out⟩
              case measure => simp [intOf]; omega
          · have e1 : (kd == 1) = false := by simpa using h1
            by_cases h3 : kd = 3
            · subst h3
              have TF : True := trivial
              go_wp2_with (first
                | (go_at_call 30; refine (yd_off F1.out.a).mono ?_; rw [hg]; rintro e w9 ⟨rfl, rfl⟩)
                | (go_at_call 25; have _t := TF; refine (yd_flush F1.out.a I1.out.b1 (by omega)).mono ?_; rintro e w5 ⟨rfl, W5, k5, d5⟩; have F5 := hidden (F1.out.left W5 k5 d5); have S5 := hidden (KT.same S0.out k5 (Nat.le_refl _)); clear W5 k5 d5 TF))
              go_roundw
              case rel => exact ⟨k + 1, dn + 1, _, _, by omega, by go_num, by go_num, F5.out, I1.out.flushG hg, S5.out⟩
              case measure => simp [intOf]; omega
            · have e3 : (kd == 3) = false := by simpa using h3
              go_wp2_with (go_at_call 30; refine (yd_off F1.out.a).mono ?_; rw [hg]; rintro e w9 ⟨rfl, rfl⟩)
              go_roundw
              case rel => exact ⟨k + 1, dn, _, _, by omega, by go_num, rfl, F1.out, I1.out.on, S0.out⟩
              case measure => simp [intOf]; omega
        · have hg : s1.gone = false := by rw [hgo]; simp [hd]
          clear hgo
          by_cases h1 : kd = 1
          · subst h1
            by_cases hN : 0 ≤ N ∧ N < c
            · obtain ⟨i, rfl⟩ := Int.eq_ofNat_of_zero_le hN.1
              have hi' : i < c := by omega
              clear hN
              go_wp2_with (first
                | (go_at_call 30; refine (yd_off F1.out.a).mono ?_; rw [hg]; rintro e w9 ⟨rfl, rfl⟩)
                | (go_at_call 24; refine (filled_any n yb _ (by omega) hy).mono ?_; rintro e w4 ⟨u4, rfl, o4, k4'⟩; have k4 : Same wr w4 := Kept.trans (Kept.refl _ wr) (by exact k4'); have OB := hidden o4; obtain ⟨ua, uc, hue⟩ := o4.byt.form; rw [flTo_len] at hue; subst hue; have F4 := hidden (F1.out.same k4); have S4 := hidden (Kept.trans S0.out k4); have t1 : w4.cell? ⟨b, off + k * 5 + 1, none⟩ = some (.int .i64 i) := Kept.cell k4 (fun h => h) y1; have t0 : w4.cell? ⟨b, off + k * 5, none⟩ = some (.int .i64 1) := Kept.cell k4 (fun h => h) y0; have TW : True := trivial; clear o4 k4' k4)
                | (go_at_call 23; have _t := TW; refine (yd_write F4.out.a I1.out.b1 (by omega) S4.out.size i hi' _ (flTo n yb (min n 40)) (OB.out.weak (Nat.zero_le _)) (flTo_len _ _ _)).mono ?_; rintro e w5 ⟨rfl, W5, k5, d5⟩; have F5 := hidden (F4.out.left W5 k5 d5); have OB5 := hidden (OB.out.kt k5); have S5 := hidden (KT.same S4.out k5 (Nat.le_refl _)); have r1 : w5.cell? ⟨b, off + k * 5 + 1, none⟩ = some (.int .i64 i) := Kept.cell (Kept.trans K0.out S5.out) (fun h => h) X1'.out; have r0 : w5.cell? ⟨b, off + k * 5, none⟩ = some (.int .i64 1) := Kept.cell (Kept.trans K0.out S5.out) (fun h => h) X0.out; clear W5 k5 d5 TW)
                | (go_at_call 23; refine (yd_write F5.out.b I1.out.b2 (by omega) S5.out.size i hi' _ (flTo n yb (min n 40)) (OB5.out.weak (Nat.zero_le _)) (flTo_len _ _ _)).mono ?_; rintro e w6 ⟨rfl, W6, k6, d6⟩; have F6 := hidden (F5.out.right W6 k6 d6); have S6 := hidden (KT.same S5.out k6 (Nat.le_refl _)); have u0 : w6.cell? ⟨b, off + k * 5, none⟩ = some (.int .i64 1) := Kept.cell (Kept.trans K0.out S6.out) (fun h => h) X0.out; clear W6 k6 d6))
              go_roundw
              case rel => exact ⟨k + 1, dn + 1, _, _, by omega, by go_num, by go_num, F6.out, I1.out.write hg _ _, S6.out⟩
              case measure => simp [intOf]; omega
            · go_wp2_with (first
                | (go_at_call 30; refine (yd_off F1.out.a).mono ?_; rw [hg]; rintro e w9 ⟨rfl, rfl⟩)
                | (go_at_call 24; refine (filled_any n yb _ (by omega) hy).mono ?_; rintro e w4 ⟨u4, rfl, o4, k4'⟩; have k4 : Same wr w4 := Kept.trans (Kept.refl _ wr) (by exact k4'); have OB := hidden o4; obtain ⟨ua, uc, hue⟩ := o4.byt.form; rw [flTo_len] at hue; subst hue; have F4 := hidden (F1.out.same k4); have S4 := hidden (Kept.trans S0.out k4); have t1 : w4.cell? ⟨b, off + k * 5 + 1, none⟩ = some (.int .i64 N) := Kept.cell k4 (fun h => h) y1; have t0 : w4.cell? ⟨b, off + k * 5, none⟩ = some (.int .i64 1) := Kept.cell k4 (fun h => h) y0; have TW : True := trivial; clear o4 k4' k4)
                | (go_at_call 23; refine (yd_writeNo F4.out.a N hN _).mono ?_; rintro e w5 ⟨rfl, rfl⟩))
              go_roundw
              case rel => exact ⟨k + 1, dn, _, _, by omega, by go_num, rfl, F4.out, I1.out.on, S4.out⟩
              case measure => simp [intOf]; omega
          · have e1 : (kd == 1) = false := by simpa using h1
            by_cases h3 : kd = 3
            · subst h3
              have TF : True := trivial
              go_wp2_with (first
                | (go_at_call 30; refine (yd_off F1.out.a).mono ?_; rw [hg]; rintro e w9 ⟨rfl, rfl⟩)
                | (go_at_call 25; have _t := TF; refine (yd_flush F1.out.a I1.out.b1 (by omega)).mono ?_; rintro e w5 ⟨rfl, W5, k5, d5⟩; have F5 := hidden (F1.out.left W5 k5 d5); have S5 := hidden (KT.same S0.out k5 (Nat.le_refl _)); clear W5 k5 d5 TF)
                | (go_at_call 25; refine (yd_flush F5.out.b I1.out.b2 (by omega)).mono ?_; rintro e w6 ⟨rfl, W6, k6, d6⟩; have F6 := hidden (F5.out.right W6 k6 d6); have S6 := hidden (KT.same S5.out k6 (Nat.le_refl _)); clear W6 k6 d6))
              go_roundw
              case rel => exact ⟨k + 1, dn + 1, _, _, by omega, by go_num, by go_num, F6.out, I1.out.flush hg, S6.out⟩
              case measure => simp [intOf]; omega
            · have e3 : (kd == 3) = false := by simpa using h3
              go_wp2_with (go_at_call 30; refine (yd_off F1.out.a).mono ?_; rw [hg]; rintro e w9 ⟨rfl, rfl⟩)
              go_roundw
              case rel => exact ⟨k + 1, dn, _, _, by omega, by go_num, rfl, F1.out, I1.out.on, S0.out⟩
              case measure => simp [intOf]; omega
      · have hg : s1.gone = false := by rw [hgo]; simp [hz]
        clear hgo
        by_cases h1 : kd = 1
        · subst h1
          by_cases hN : 0 ≤ N ∧ N < c
          · obtain ⟨i, rfl⟩ := Int.eq_ofNat_of_zero_le hN.1
            have hi' : i < c := by omega
            clear hN
            go_wp2_with (first
              | (go_at_call 30; refine (yd_off F1.out.a).mono ?_; rw [hg]; rintro e w9 ⟨rfl, rfl⟩)
              | (go_at_call 24; refine (filled_any n yb _ (by omega) hy).mono ?_; rintro e w4 ⟨u4, rfl, o4, k4'⟩; have k4 : Same wr w4 := Kept.trans (Kept.refl _ wr) (by exact k4'); have OB := hidden o4; obtain ⟨ua, uc, hue⟩ := o4.byt.form; rw [flTo_len] at hue; subst hue; have F4 := hidden (F1.out.same k4); have S4 := hidden (Kept.trans S0.out k4); have t1 : w4.cell? ⟨b, off + k * 5 + 1, none⟩ = some (.int .i64 i) := Kept.cell k4 (fun h => h) y1; have t0 : w4.cell? ⟨b, off + k * 5, none⟩ = some (.int .i64 1) := Kept.cell k4 (fun h => h) y0; have TW : True := trivial; clear o4 k4' k4)
              | (go_at_call 23; have _t := TW; refine (yd_write F4.out.a I1.out.b1 (by omega) S4.out.size i hi' _ (flTo n yb (min n 40)) (OB.out.weak (Nat.zero_le _)) (flTo_len _ _ _)).mono ?_; rintro e w5 ⟨rfl, W5, k5, d5⟩; have F5 := hidden (F4.out.left W5 k5 d5); have OB5 := hidden (OB.out.kt k5); have S5 := hidden (KT.same S4.out k5 (Nat.le_refl _)); have r1 : w5.cell? ⟨b, off + k * 5 + 1, none⟩ = some (.int .i64 i) := Kept.cell (Kept.trans K0.out S5.out) (fun h => h) X1'.out; have r0 : w5.cell? ⟨b, off + k * 5, none⟩ = some (.int .i64 1) := Kept.cell (Kept.trans K0.out S5.out) (fun h => h) X0.out; clear W5 k5 d5 TW)
              | (go_at_call 23; refine (yd_write F5.out.b I1.out.b2 (by omega) S5.out.size i hi' _ (flTo n yb (min n 40)) (OB5.out.weak (Nat.zero_le _)) (flTo_len _ _ _)).mono ?_; rintro e w6 ⟨rfl, W6, k6, d6⟩; have F6 := hidden (F5.out.right W6 k6 d6); have S6 := hidden (KT.same S5.out k6 (Nat.le_refl _)); have u0 : w6.cell? ⟨b, off + k * 5, none⟩ = some (.int .i64 1) := Kept.cell (Kept.trans K0.out S6.out) (fun h => h) X0.out; clear W6 k6 d6))
            go_roundw
            case rel => exact ⟨k + 1, dn + 1, _, _, by omega, by go_num, by go_num, F6.out, I1.out.write hg _ _, S6.out⟩
            case measure => simp [intOf]; omega
          · go_wp2_with (first
              | (go_at_call 30; refine (yd_off F1.out.a).mono ?_; rw [hg]; rintro e w9 ⟨rfl, rfl⟩)
              | (go_at_call 24; refine (filled_any n yb _ (by omega) hy).mono ?_; rintro e w4 ⟨u4, rfl, o4, k4'⟩; have k4 : Same wr w4 := Kept.trans (Kept.refl _ wr) (by exact k4'); have OB := hidden o4; obtain ⟨ua, uc, hue⟩ := o4.byt.form; rw [flTo_len] at hue; subst hue; have F4 := hidden (F1.out.same k4); have S4 := hidden (Kept.trans S0.out k4); have t1 : w4.cell? ⟨b, off + k * 5 + 1, none⟩ = some (.int .i64 N) := Kept.cell k4 (fun h => h) y1; have t0 : w4.cell? ⟨b, off + k * 5, none⟩ = some (.int .i64 1) := Kept.cell k4 (fun h => h) y0; have TW : True := trivial; clear o4 k4' k4)
              | (go_at_call 23; refine (yd_writeNo F4.out.a N hN _).mono ?_; rintro e w5 ⟨rfl, rfl⟩))
            go_roundw
            case rel => exact ⟨k + 1, dn, _, _, by omega, by go_num, rfl, F4.out, I1.out.on, S4.out⟩
            case measure => simp [intOf]; omega
        · have e1 : (kd == 1) = false := by simpa using h1
          by_cases h3 : kd = 3
          · subst h3
            have TF : True := trivial
            go_wp2_with (first
              | (go_at_call 30; refine (yd_off F1.out.a).mono ?_; rw [hg]; rintro e w9 ⟨rfl, rfl⟩)
              | (go_at_call 25; have _t := TF; refine (yd_flush F1.out.a I1.out.b1 (by omega)).mono ?_; rintro e w5 ⟨rfl, W5, k5, d5⟩; have F5 := hidden (F1.out.left W5 k5 d5); have S5 := hidden (KT.same S0.out k5 (Nat.le_refl _)); clear W5 k5 d5 TF)
              | (go_at_call 25; refine (yd_flush F5.out.b I1.out.b2 (by omega)).mono ?_; rintro e w6 ⟨rfl, W6, k6, d6⟩; have F6 := hidden (F5.out.right W6 k6 d6); have S6 := hidden (KT.same S5.out k6 (Nat.le_refl _)); clear W6 k6 d6))
            go_roundw
            case rel => exact ⟨k + 1, dn + 1, _, _, by omega, by go_num, by go_num, F6.out, I1.out.flush hg, S6.out⟩
            case measure => simp [intOf]; omega
          · have e3 : (kd == 3) = false := by simpa using h3
            go_wp2_with (go_at_call 30; refine (yd_off F1.out.a).mono ?_; rw [hg]; rintro e w9 ⟨rfl, rfl⟩)
            go_roundw
            case rel => exact ⟨k + 1, dn, _, _, by omega, by go_num, rfl, F1.out, I1.out.on, S0.out⟩
            case measure => simp [intOf]; omega
    · have q1 : ¬ (k : Int) < (nl : Int) := by omega
      have hpe : s2.pds = s1.pds := by unfold St.pds; rw [I1.out.pend]
      have HPN : Hid (s2.pend.length = s1.pend.length) := by rw [Hid, I1.out.pend]
      have HPE := hidden hpe
      have HPLQ := hidden I1.out.pl
      have hbm := I1.out.b1.m
      have HPL : Hid (s1.pds.length ≤ 140737488355328) := by rw [Hid]; simp [St.pds]; omega
      have hle : n * c ≤ 4096 * 4096 := Nat.mul_le_mul hn4 hc2
      have HFL : Hid (s1.pl.flatten.length ≤ 140737488355328) := by rw [Hid, flat_len F1.out.a.ok.pn, F1.out.a.ok.len, Nat.mul_comm]; omega
      have HFE : Hid (s1.pl.flatten.length = n * c) := by rw [Hid, flat_len F1.out.a.ok.pn, F1.out.a.ok.len, Nat.mul_comm]
      have T0 : True := trivial
      clear hpe HLC
      by_cases hyb : mayB s1.pend.length 0 ks = true
      · have hyb2 : mayB s2.pend.length 0 ks = true := by rw [HPN.out]; exact hyb
        have HCR : Hid ((s2.crash ks).pl = (s1.crash ks).pl) := by rw [Hid]; simp [St.crash, I1.out.pend, I1.out.pl]
        have HFCE : Hid ((s1.crash ks).pl.flatten.length = n * c) := by rw [Hid, flat_len (F1.out.a.ok.crash hyb).pn, (F1.out.a.ok.crash hyb).len, Nat.mul_comm]
        have HFC : Hid ((s1.crash ks).pl.flatten.length ≤ 140737488355328) := by rw [Hid, flat_len (F1.out.a.ok.crash hyb).pn, (F1.out.a.ok.crash hyb).len, Nat.mul_comm]; omega
        go_wp2_with (first
          | (go_at_call 20; have _t := T0; refine (yd_pending F1.out.a I1.out.b1 (by omega)).mono ?_; rintro e w10 ⟨rfl, hp, k10⟩; have F2 := hidden (F1.out.same k10); have K2 := hidden (Kept.trans S0.out k10); have PA := hidden hp; clear hp; clear k10; clear T0; have T1 : True := trivial)
          | (go_at_call 20; have _t := T1; refine (yd_pending F2.out.b I1.out.b2 (by omega)).mono ?_; rintro e w11 ⟨rfl, hp, k11⟩; have F3 := hidden (F2.out.same k11); have K3 := hidden (Kept.trans K2.out k11); have PA' := hidden (PA.out.same' k11); rw [HPE.out] at hp; have PB := hidden hp; clear hp; clear k11; clear T1; have T2 : True := trivial)
          | (go_at_call 31; have _t := T2; refine (sameInts_eq _ _ s1.pds _ PA'.out PB.out HPL.out).mono ?_; rintro e w12 ⟨rfl, k12⟩; have F4 := hidden (F3.out.same k12); have K4 := hidden (Kept.trans K3.out k12); have PA'' := hidden (PA'.out.same' k12); have PB' := hidden (PB.out.same' k12); skip; clear k12; clear T2; have T3 : True := trivial)
          | (go_at_call 15; have _t := T3; refine (yd_image F4.out.a).mono ?_; rintro e w13 ⟨uMA, rfl, hp, k13⟩; have F5 := hidden (F4.out.same k13); have K5 := hidden (Kept.trans K4.out k13); have MA := hidden hp; obtain ⟨uaMA, ucMA, heMA⟩ := hp.byt.form; rw [HFE.out] at heMA; subst heMA; clear hp; clear k13; clear T3; have T4 : True := trivial)
          | (go_at_call 15; have _t := T4; refine (yd_image F5.out.b).mono ?_; rintro e w14 ⟨uMB, rfl, hp, k14⟩; have F6 := hidden (F5.out.same k14); have K6 := hidden (Kept.trans K5.out k14); have MA' := hidden (MA.out.same k14); rw [HPLQ.out] at hp; have MB := hidden hp; obtain ⟨uaMB, ucMB, heMB⟩ := hp.byt.form; rw [HFE.out] at heMB; subst heMB; clear hp; clear k14; clear T4; have T5 : True := trivial)
          | (go_at_call 14; have _t := T5; refine (same_eq _ _ s1.pl.flatten _ MA'.out.byt MB.out.byt HFL.out).mono ?_; rintro e w15 ⟨rfl, k15⟩; have F7 := hidden (F6.out.same k15); have K7 := hidden (Kept.trans K6.out k15); have MA'' := hidden (MA'.out.same k15); have MB' := hidden (MB.out.same k15); skip; clear k15; clear T5; have T6 : True := trivial)
          | (go_at_call 28; have _t := T6; refine (yd_crashYes F7.out.a I1.out.b1 (by omega) _ ks (HKS.out _ (Kept.trans K0.out K7.out)) (fun a k c e h he => by have := HKB.out a k c e h; have := F7.out.a.lp; omega) (by omega) hyb).mono ?_; rintro e w16 ⟨rfl, W, k, d⟩; have F8 := hidden (F7.out.left W k d); have K8 := hidden (KT.same K7.out k (Nat.le_refl _)); clear W k d; clear T6; have T7 : True := trivial)
          | (go_at_call 28; have _t := T7; refine (yd_crashYes F8.out.b I1.out.b2 (by omega) _ ks (HKS.out _ (Kept.trans K0.out K8.out)) (fun a k c e h he => by have := HKB.out a k c e h; have := F8.out.b.lp; omega) (by omega) hyb2).mono ?_; rintro e w17 ⟨rfl, W, k, d⟩; have F9 := hidden (F8.out.right W k d); have K9 := hidden (KT.same K8.out k (Nat.le_refl _)); clear W k d; clear T7; have T8 : True := trivial)
          | (go_at_call 15; have _t := T8; refine (yd_image F9.out.a).mono ?_; rintro e w18 ⟨uMC, rfl, hp, k18⟩; have F10 := hidden (F9.out.same k18); have K10 := hidden (Kept.trans K9.out k18); have MC := hidden hp; obtain ⟨uaMC, ucMC, heMC⟩ := hp.byt.form; rw [HFCE.out] at heMC; subst heMC; clear hp; clear k18; clear T8; have T9 : True := trivial)
          | (go_at_call 15; have _t := T9; refine (yd_image F10.out.b).mono ?_; rintro e w19 ⟨uMD, rfl, hp, k19⟩; have F11 := hidden (F10.out.same k19); have K11 := hidden (Kept.trans K10.out k19); have MC' := hidden (MC.out.same k19); rw [HCR.out] at hp; have MD := hidden hp; obtain ⟨uaMD, ucMD, heMD⟩ := hp.byt.form; rw [HFCE.out] at heMD; subst heMD; clear hp; clear k19; clear T9; have T10 : True := trivial)
          | (go_at_call 14; have _t := T10; refine (same_eq _ _ (s1.crash ks).pl.flatten _ MC'.out.byt MD.out.byt HFC.out).mono ?_; rintro e w20 ⟨rfl, k20⟩; have F12 := hidden (F11.out.same k20); have K12 := hidden (Kept.trans K11.out k20); have MC'' := hidden (MC'.out.same k20); have MD' := hidden (MD.out.same k20); skip; clear k20; clear T10; have T11 : True := trivial)
          | (go_at_call 20; have _t := T11; refine (yd_pending F12.out.a (I1.out.b1.crash ks) (by omega)).mono ?_; rintro e w21 ⟨rfl, hp, k21⟩; have F13 := hidden (F12.out.same k21); have K13 := hidden (Kept.trans K12.out k21); have PC := hidden hp; clear hp; clear k21; clear T11; have T12 : True := trivial)
          | (go_at_call 20; have _t := T12; refine (yd_pending F13.out.b (I1.out.b2.crash ks) (by omega)).mono ?_; rintro e w22 ⟨rfl, hp, k22⟩; have F14 := hidden (F13.out.same k22); have K14 := hidden (Kept.trans K13.out k22); have PC' := hidden (PC.out.same' k22); have PD := hidden hp; clear hp; clear k22; clear T12; have T13 : True := trivial)
          | (go_at_call 31; have _t := T13; refine (sameInts_eq _ _ [] _ PC'.out PD.out (by simp)).mono ?_; rintro e w23 ⟨rfl, k23⟩; have F15 := hidden (F14.out.same k23); have K15 := hidden (Kept.trans K14.out k23); have PC'' := hidden (PC'.out.same' k23); have PD' := hidden (PD.out.same' k23); skip; clear k23; clear T13; have T14 : True := trivial))
        go_returns
        exact ⟨by first | rfl | simp, Kept.trans K0.out K15.out⟩
      · have hy : mayB s1.pend.length 0 ks = false := by simpa using hyb
        have hy2 : mayB s2.pend.length 0 ks = false := by rw [HPN.out]; exact hy
        go_wp2_with (first
          | (go_at_call 20; have _t := T0; refine (yd_pending F1.out.a I1.out.b1 (by omega)).mono ?_; rintro e w10 ⟨rfl, hp, k10⟩; have F2 := hidden (F1.out.same k10); have K2 := hidden (Kept.trans S0.out k10); have PA := hidden hp; clear hp; clear k10; clear T0; have T1 : True := trivial)
          | (go_at_call 20; have _t := T1; refine (yd_pending F2.out.b I1.out.b2 (by omega)).mono ?_; rintro e w11 ⟨rfl, hp, k11⟩; have F3 := hidden (F2.out.same k11); have K3 := hidden (Kept.trans K2.out k11); have PA' := hidden (PA.out.same' k11); rw [HPE.out] at hp; have PB := hidden hp; clear hp; clear k11; clear T1; have T2 : True := trivial)
          | (go_at_call 31; have _t := T2; refine (sameInts_eq _ _ s1.pds _ PA'.out PB.out HPL.out).mono ?_; rintro e w12 ⟨rfl, k12⟩; have F4 := hidden (F3.out.same k12); have K4 := hidden (Kept.trans K3.out k12); have PA'' := hidden (PA'.out.same' k12); have PB' := hidden (PB.out.same' k12); skip; clear k12; clear T2; have T3 : True := trivial)
          | (go_at_call 15; have _t := T3; refine (yd_image F4.out.a).mono ?_; rintro e w13 ⟨uMA, rfl, hp, k13⟩; have F5 := hidden (F4.out.same k13); have K5 := hidden (Kept.trans K4.out k13); have MA := hidden hp; obtain ⟨uaMA, ucMA, heMA⟩ := hp.byt.form; rw [HFE.out] at heMA; subst heMA; clear hp; clear k13; clear T3; have T4 : True := trivial)
          | (go_at_call 15; have _t := T4; refine (yd_image F5.out.b).mono ?_; rintro e w14 ⟨uMB, rfl, hp, k14⟩; have F6 := hidden (F5.out.same k14); have K6 := hidden (Kept.trans K5.out k14); have MA' := hidden (MA.out.same k14); rw [HPLQ.out] at hp; have MB := hidden hp; obtain ⟨uaMB, ucMB, heMB⟩ := hp.byt.form; rw [HFE.out] at heMB; subst heMB; clear hp; clear k14; clear T4; have T5 : True := trivial)
          | (go_at_call 14; have _t := T5; refine (same_eq _ _ s1.pl.flatten _ MA'.out.byt MB.out.byt HFL.out).mono ?_; rintro e w15 ⟨rfl, k15⟩; have F7 := hidden (F6.out.same k15); have K7 := hidden (Kept.trans K6.out k15); have MA'' := hidden (MA'.out.same k15); have MB' := hidden (MB.out.same k15); skip; clear k15; clear T5; have T6 : True := trivial)
          | (go_at_call 28; have _t := T6; refine (yd_crashNo F7.out.a I1.out.b1 (by omega) _ ks (HKS.out _ (Kept.trans K0.out K7.out)) (by omega) hy).mono ?_; rintro e w16 ⟨rfl, rfl⟩; clear T6; have T7 : True := trivial)
          | (go_at_call 28; have _t := T7; refine (yd_crashNo F7.out.b I1.out.b2 (by omega) _ ks (HKS.out _ (Kept.trans K0.out K7.out)) (by omega) hy2).mono ?_; rintro e w17 ⟨rfl, rfl⟩; clear T7; have T8 : True := trivial)
          | (go_at_call 15; have _t := T8; refine (yd_image F7.out.a).mono ?_; rintro e w18 ⟨uMC, rfl, hp, k18⟩; have F8 := hidden (F7.out.same k18); have K8 := hidden (Kept.trans K7.out k18); have MC := hidden hp; obtain ⟨uaMC, ucMC, heMC⟩ := hp.byt.form; rw [HFE.out] at heMC; subst heMC; clear hp; clear k18; clear T8; have T9 : True := trivial)
          | (go_at_call 15; have _t := T9; refine (yd_image F8.out.b).mono ?_; rintro e w19 ⟨uMD, rfl, hp, k19⟩; have F9 := hidden (F8.out.same k19); have K9 := hidden (Kept.trans K8.out k19); have MC' := hidden (MC.out.same k19); rw [HPLQ.out] at hp; have MD := hidden hp; obtain ⟨uaMD, ucMD, heMD⟩ := hp.byt.form; rw [HFE.out] at heMD; subst heMD; clear hp; clear k19; clear T9; have T10 : True := trivial)
          | (go_at_call 14; have _t := T10; refine (same_eq _ _ s1.pl.flatten _ MC'.out.byt MD.out.byt HFL.out).mono ?_; rintro e w20 ⟨rfl, k20⟩; have F10 := hidden (F9.out.same k20); have K10 := hidden (Kept.trans K9.out k20); have MC'' := hidden (MC'.out.same k20); have MD' := hidden (MD.out.same k20); skip; clear k20; clear T10; have T11 : True := trivial)
          | (go_at_call 20; have _t := T11; refine (yd_pending F10.out.a I1.out.b1 (by omega)).mono ?_; rintro e w21 ⟨rfl, hp, k21⟩; have F11 := hidden (F10.out.same k21); have K11 := hidden (Kept.trans K10.out k21); have PC := hidden hp; clear hp; clear k21; clear T11; have T12 : True := trivial)
          | (go_at_call 20; have _t := T12; refine (yd_pending F11.out.b I1.out.b2 (by omega)).mono ?_; rintro e w22 ⟨rfl, hp, k22⟩; have F12 := hidden (F11.out.same k22); have K12 := hidden (Kept.trans K11.out k22); have PC' := hidden (PC.out.same' k22); rw [HPE.out] at hp; have PD := hidden hp; clear hp; clear k22; clear T12; have T13 : True := trivial)
          | (go_at_call 31; have _t := T13; refine (sameInts_eq _ _ s1.pds _ PC'.out PD.out HPL.out).mono ?_; rintro e w23 ⟨rfl, k23⟩; have F13 := hidden (F12.out.same k23); have K13 := hidden (Kept.trans K12.out k23); have PC'' := hidden (PC'.out.same' k23); have PD' := hidden (PD.out.same' k23); skip; clear k23; clear T13; have T14 : True := trivial))
        go_returns
        exact ⟨by first | rfl | simp, Kept.trans K0.out K13.out⟩

end Go.Proofs.Ytpfcggliibmdbaa
